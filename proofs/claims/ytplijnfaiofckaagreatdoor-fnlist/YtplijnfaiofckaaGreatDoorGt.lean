import Derived.Test.YtplijnfaiofckaaGreatDoorGq
import Derived.Test.YtplijnfaiofckaaGreatDoorGs
namespace Go.Proofs.YtplijnfaiofckaaGreatDoor
set_option linter.unusedVariables false
set_option linter.unusedSimpArgs false
def No (b : UInt8) (s : ByteArray) : Prop := ∀ x ∈ s.data.toList, x ≠ b
theorem No.app {b : UInt8} {s t : ByteArray} (h : No b s) (k : No b t) : No b (s ++ t) := by
 intro x hx;rw [ByteArray.data_append, Array.toList_append] at hx;rcases List.mem_append.1 hx with h1 | h1
 ·exact h x h1
 ·exact k x h1
theorem No.ite {b : UInt8} {c : Prop} [Decidable c] {s t : ByteArray} (h : No b s) (k : No b t) : No b (if c then s else t) := by split <;> assumption
theorem digit_mem (u : Nat) : ∀ x ∈ Lib.decDigits u, 48 ≤ x.toNat ∧ x.toNat ≤ 57 := by
 induction u using Nat.strongRecOn with
 | _ u ih =>
  intro x hx;rw [Lib.decDigits] at hx;split at hx
  ·simp at hx; subst hx; simp; omega
  ·rcases List.mem_append.1 hx with h | h
   ·exact ih (u / 10) (by omega) x h
   ·simp at h; subst h; simp; omega
theorem dec_no (n : Int) {b : UInt8} (hb : b.toNat < 45) : No b (dec n) := by
 intro x hx e;subst e;rw [dec_list] at hx;split at hx
 ·rcases List.mem_cons.1 hx with h | h
  ·subst h; simp at hb
  ·have := digit_mem _ x h; omega
 ·have := digit_mem _ x hx; omega
theorem qb2 {b : UInt8} {w : ByteArray} (v : ByteArray) (h : No b w) : cutB b (w ++ ⟨#[b]⟩ ++ v) = w :: cutB b v := by
 unfold cutB
 have e : (w ++ (⟨#[b]⟩ : ByteArray) ++ v).data.toList = w.data.toList ++ b :: v.data.toList := by
  rw [ByteArray.data_append, ByteArray.data_append, Array.toList_append, Array.toList_append, List.append_assoc]; rfl
 rw [e, cutL_hit b _ _ h];rfl
theorem qf0 {b : UInt8} {w : ByteArray} (h : No b w) : cutB b w = [w] := by
 unfold cutB;rw [cutL_no b _ h];rfl
theorem cut_catL (l : Nat → ByteArray) : ∀ (n : Nat) (rest : ByteArray), (∀ i, i < n → No 10 (l i)) → cutB 10 (catL (fun i => l i ++ ⟨#[10]⟩) n ++ rest) = (List.range n).map l ++ cutB 10 rest
 | 0, rest, _ => by
  have : catL (fun i => l i ++ ⟨#[10]⟩) 0 ++ rest = rest := by apply ByteArray.ext; simp [catL]
  rw [this]; rfl
 | n + 1, rest, h => by
  have e : catL (fun i => l i ++ ⟨#[10]⟩) (n + 1) ++ rest = catL (fun i => l i ++ ⟨#[10]⟩) n ++ (l n ++ ⟨#[10]⟩ ++ rest) := by rw [catL, ByteArray.append_assoc]
  rw [e, cut_catL l n _ fun i hi => h i (by omega), qb2 rest (h n (by omega)), List.range_succ, List.map_append, List.append_assoc];rfl
noncomputable def linesP (p : PD) : List ByteArray := headT p :: ((List.range p.consts.n).map (fun i => constT (p.consts.f i)) ++ ((List.range p.ups.n).map (fun i => upT (p.ups.f i)) ++ (List.range p.code.n).map (fun i => wordT (p.code.f i))))
theorem names_no : ∀ k : Fin 34, ∀ x ∈ (nm k.val).data.toList, x ≠ 32 ∧ x ≠ 10 := by decide
theorem nm_no {k : Nat} (h : k < 34) {b : UInt8} (hb : b = 32 ∨ b = 10) : No b (nm k) := fun x hx => by
 have := names_no ⟨k, h⟩ x hx;rcases hb with rfl | rfl
 ·exact this.1
 ·exact this.2
theorem hx_fin : ∀ k : Fin 16, (48 ≤ hx k.val ∧ hx k.val ≤ 102) ∧ hexV ((UInt8.ofNat (hx k.val)).toNat : Int) = (k.val : Int) := by decide
theorem hexL_map (l : List UInt8) : (hexL l).map (fun n => UInt8.ofNat n.toNat) = l.flatMap fun b => [UInt8.ofNat (hx (b.toNat / 16)), UInt8.ofNat (hx (b.toNat % 16))] := by
 induction l with
 | nil => rfl
 | cons b l ih =>
  unfold hexL at ih ⊢;rw [List.flatMap_cons, List.map_append, ih, List.flatMap_cons];rfl
theorem hexB_no (s : ByteArray) {b : UInt8} (hb : b.toNat < 48) : No b (hexB s) := by
 intro x hx' e;subst e;unfold hexB at hx';rw [strOfNums_data, hexL_map] at hx';obtain ⟨c, -, hc⟩ := List.mem_flatMap.1 hx';have h1 := (hx_fin ⟨c.toNat / 16, by have := c.toNat_lt; omega⟩).1;have h2 := (hx_fin ⟨c.toNat % 16, by omega⟩).1;dsimp only at h1 h2;simp only [List.mem_cons, List.not_mem_nil, or_false] at hc;rcases hc with rfl | rfl
 ·rw [UInt8.toNat_ofNat_of_lt' (by show _ < 256; omega)] at hb; omega
 ·rw [UInt8.toNat_ofNat_of_lt' (by show _ < 256; omega)] at hb; omega
theorem unhex_hex (l : List UInt8) : unhexL (l.flatMap fun b => [UInt8.ofNat (hx (b.toNat / 16)), UInt8.ofNat (hx (b.toNat % 16))]) = some l := by
 induction l with
 | nil => rfl
 | cons c l ih =>
  have hc := c.toNat_lt;have h1 := (hx_fin ⟨c.toNat / 16, by omega⟩).2;have h2 := (hx_fin ⟨c.toNat % 16, by omega⟩).2;dsimp only at h1 h2;rw [List.flatMap_cons, List.cons_append, List.cons_append, List.nil_append, unhexL, ih, h1, h2, if_neg (by omega)];simp only [Option.map_some, Option.some.injEq, List.cons.injEq, and_true];have e : ((c.toNat / 16 : Nat) : Int) * 16 + ((c.toNat % 16 : Nat) : Int) = (c.toNat : Int) := by omega
  rw [e, Int.toNat_natCast];simp
theorem unhexOf_hexB (s : ByteArray) : qd1 (hexB s) = some s := by
 unfold qd1 hexB;rw [strOfNums_data, hexL_map, unhex_hex];rfl
theorem qc3 {n hi : Int} (h0 : 0 ≤ n) (h1 : n ≤ hi) (hh : hi ≤ 9223372036854775807) : natOf (dec n) hi = n := by
 unfold natOf;rw [decOf_dec ⟨by omega, by omega⟩];exact if_pos ⟨h0, h1⟩
theorem spB_eq : spB = (⟨#[32]⟩ : ByteArray) := rfl
theorem app_empty (s : ByteArray) : s ++ (⟨#[]⟩ : ByteArray) = s := by
 apply ByteArray.ext;rw [ByteArray.data_append];simp
theorem cut_head (p : PD) : cutB 32 (headT p) = qb4 :: dec p.params :: dec p.regs :: dec p.kids :: (if p.vararg then [varB] else []) := by
 have n1 := dec_no p.params (b := 32) (by decide);have n2 := dec_no p.regs (b := 32) (by decide);have n3 := dec_no p.kids (b := 32) (by decide);have hp : No 32 qb4 := by unfold No; decide
 have hv : No 32 varB := by unfold No; decide
 have e0 : headT p = qb4 ++ ⟨#[32]⟩ ++ (dec p.params ++ ⟨#[32]⟩ ++ (dec p.regs ++ ⟨#[32]⟩ ++ (dec p.kids ++ (if p.vararg then ⟨#[32]⟩ ++ varB else ⟨#[]⟩)))) := by
  have e1 : (⟨#[112, 114, 111, 116, 111, 32]⟩ : ByteArray) = qb4 ++ ⟨#[32]⟩ := rfl;have e2 : (⟨#[32, 118, 97, 114, 97, 114, 103]⟩ : ByteArray) = ⟨#[32]⟩ ++ varB := rfl;unfold headT;rw [e1, e2, spB_eq];simp only [ByteArray.append_assoc]
 rw [e0, qb2 _ hp, qb2 _ n1, qb2 _ n2]
 cases p.vararg
 ·simp only [Bool.false_eq_true, if_false];rw [app_empty, qf0 n3]
 ·simp only [if_true];rw [← ByteArray.append_assoc, qb2 _ n3, qf0 hv]
theorem head_step (L : List PD) (p : PD) (h1 : 0 ≤ p.params ∧ p.params ≤ 16777215) (h2 : 0 ≤ p.regs ∧ p.regs ≤ 16777215) (h3 : 0 ≤ p.kids ∧ p.kids ≤ 16777215) : LineTo L (headT p) (some (L ++ [bareP p.params p.regs p.kids p.vararg])) := by
 refine ⟨_, _, cut_head p, ?_⟩
 have e : (headP (dec p.params :: dec p.regs :: dec p.kids :: (if p.vararg then [varB] else []))).map (fun q => L ++ [q]) = some (L ++ [bareP p.params p.regs p.kids p.vararg]) := by
  cases hv : p.vararg
  ·simp only [Bool.false_eq_true, if_false];rw [headP3, qc3 h1.1 h1.2 (by omega), qc3 h2.1 h2.2 (by omega), qc3 h3.1 h3.2 (by omega), if_pos ⟨h1.1, h2.1, h3.1⟩];rfl
  ·simp only [if_true];rw [headP4, if_pos rfl, qc3 h1.1 h1.2 (by omega), qc3 h2.1 h2.2 (by omega), qc3 h3.1 h3.2 (by omega), if_pos ⟨h1.1, h2.1, h3.1⟩];rfl
 rw [← e];exact .proto
theorem text_nil {t : ByteArray} (h : t.size = 0) : t = ⟨#[]⟩ := by
 apply ByteArray.ext;exact Array.eq_empty_of_size_eq_zero h
theorem cut_const (d : VD) (hd : Plain d) (hn : I64 d.num) : ∃ r, cutB 32 (constT d) = qa8 :: r ∧ constP r = some d := by
 have hc : No 32 qa8 := by unfold No; decide
 have h1 : No 32 nilB := by unfold No; decide
 have h2 : No 32 trueB := by unfold No; decide
 have h3 : No 32 falseB := by unfold No; decide
 have h4 : No 32 intB := by unfold No; decide
 have h5 : No 32 textB := by unfold No; decide
 obtain ⟨kd, nu, tx⟩ := d;rcases hd with ⟨rfl, rfl, ht⟩ | ⟨rfl, hb, ht⟩ | ⟨rfl, ht⟩ | ⟨rfl, rfl, ht⟩
 ·obtain rfl := text_nil ht;refine ⟨[nilB], ?_, by rw [constP1, if_pos rfl]⟩;have e : constT ⟨0, 0, ⟨#[]⟩⟩ = qa8 ++ ⟨#[32]⟩ ++ nilB := rfl;rw [e, qb2 _ hc, qf0 h1]
 ·obtain rfl := text_nil ht;rcases hb with hb | hb
  ·dsimp only at hb;subst hb;refine ⟨[falseB], ?_, by rw [constP1, if_neg (fun e => dd.2.1 e.symm), if_neg (fun e => dd.2.2.1 e.symm), if_pos rfl]⟩;have e : constT ⟨1, 0, ⟨#[]⟩⟩ = qa8 ++ ⟨#[32]⟩ ++ falseB := rfl;rw [e, qb2 _ hc, qf0 h3]
  ·dsimp only at hb;subst hb;refine ⟨[trueB], ?_, by rw [constP1, if_neg (fun e => dd.1 e.symm), if_pos rfl]⟩;have e : constT ⟨1, 1, ⟨#[]⟩⟩ = qa8 ++ ⟨#[32]⟩ ++ trueB := rfl;rw [e, qb2 _ hc, qf0 h2]
 ·obtain rfl := text_nil ht;refine ⟨[intB, dec nu], ?_, by rw [constP2, if_pos rfl, decOf_dec hn]; rfl⟩
  have e : constT ⟨2, nu, ⟨#[]⟩⟩ = qa8 ++ ⟨#[32]⟩ ++ (intB ++ ⟨#[32]⟩ ++ dec nu) := by
   have e1 : (⟨#[99, 111, 110, 115, 116, 32, 105, 110, 116, 32]⟩ : ByteArray) = qa8 ++ ⟨#[32]⟩ ++ (intB ++ ⟨#[32]⟩) := rfl;show (⟨#[99, 111, 110, 115, 116, 32, 105, 110, 116, 32]⟩ : ByteArray) ++ dec nu = _;rw [e1];simp only [ByteArray.append_assoc]
  rw [e, qb2 _ hc, qb2 _ h4, qf0 (dec_no nu (by decide))]
 ·refine ⟨[textB, hexB tx], ?_, by rw [constP2, if_neg (fun e => dd.2.2.2 e.symm), if_pos rfl, unhexOf_hexB]; rfl⟩
  have e : constT ⟨3, 0, tx⟩ = qa8 ++ ⟨#[32]⟩ ++ (textB ++ ⟨#[32]⟩ ++ hexB tx) := by
   have e1 : (⟨#[99, 111, 110, 115, 116, 32, 116, 101, 120, 116, 32]⟩ : ByteArray) = qa8 ++ ⟨#[32]⟩ ++ (textB ++ ⟨#[32]⟩) := rfl;show (⟨#[99, 111, 110, 115, 116, 32, 116, 101, 120, 116, 32]⟩ : ByteArray) ++ hexB tx = _;rw [e1];simp only [ByteArray.append_assoc]
  rw [e, qb2 _ hc, qb2 _ h5, qf0 (hexB_no tx (by decide))]
theorem const_step (K : List PD) (q : PD) (hq : q.ups.n = 0 ∧ q.code.n = 0) (d : VD) (hd : Plain d) (hn : I64 d.num) : LineTo (K ++ [q]) (constT d) (some (K ++ [q.addConst d])) := by
 obtain ⟨r, h1, h2⟩ := cut_const d hd hn;refine ⟨_, _, h1, ?_⟩;have := LStep.const (K := K) (p := q) (r := r);rw [if_pos hq, h2] at this;exact this
theorem up_step (K : List PD) (q : PD) (hq : q.code.n = 0) (u : UD) (hu : 0 ≤ u.index ∧ u.index ≤ 16777215) : LineTo (K ++ [q]) (upT u) (some (K ++ [q.addUp u])) := by
 have hc : No 32 upB' := by unfold No; decide
 have h1 : No 32 stackB := by unfold No; decide
 have h2 : No 32 cellB := by unfold No; decide
 obtain ⟨st, ix⟩ := u;dsimp only at hu;have hne : cellB ≠ stackB := by decide
 have key : ∃ r, cutB 32 (upT ⟨st, ix⟩) = upB' :: r ∧ upP r = some ⟨st, ix⟩ := by
  cases st
  ·refine ⟨[cellB, dec ix], ?_, ?_⟩
   ·have e : upT ⟨false, ix⟩ = upB' ++ ⟨#[32]⟩ ++ (cellB ++ ⟨#[32]⟩ ++ dec ix) := by
     have e1 : (⟨#[117, 112, 32, 99, 101, 108, 108, 32]⟩ : ByteArray) = upB' ++ ⟨#[32]⟩ ++ (cellB ++ ⟨#[32]⟩) := rfl;show (⟨#[117, 112, 32, 99, 101, 108, 108, 32]⟩ : ByteArray) ++ dec ix = _;rw [e1];simp only [ByteArray.append_assoc]
    rw [e, qb2 _ hc, qb2 _ h2, qf0 (dec_no ix (by decide))]
   ·show (if (cellB = stackB ∨ cellB = cellB) ∧ 0 ≤ natOf (dec ix) 16777215 then some (⟨decide (cellB = stackB), natOf (dec ix) 16777215⟩ : UD) else none) = _;rw [qc3 hu.1 hu.2 (by omega), if_pos ⟨.inr rfl, hu.1⟩, decide_eq_false hne]
  ·refine ⟨[stackB, dec ix], ?_, ?_⟩
   ·have e : upT ⟨true, ix⟩ = upB' ++ ⟨#[32]⟩ ++ (stackB ++ ⟨#[32]⟩ ++ dec ix) := by
     have e1 : (⟨#[117, 112, 32, 115, 116, 97, 99, 107, 32]⟩ : ByteArray) = upB' ++ ⟨#[32]⟩ ++ (stackB ++ ⟨#[32]⟩) := rfl;show (⟨#[117, 112, 32, 115, 116, 97, 99, 107, 32]⟩ : ByteArray) ++ dec ix = _;rw [e1];simp only [ByteArray.append_assoc]
    rw [e, qb2 _ hc, qb2 _ h1, qf0 (dec_no ix (by decide))]
   ·show (if (stackB = stackB ∨ stackB = cellB) ∧ 0 ≤ natOf (dec ix) 16777215 then some (⟨decide (stackB = stackB), natOf (dec ix) 16777215⟩ : UD) else none) = _;rw [qc3 hu.1 hu.2 (by omega), if_pos ⟨.inl rfl, hu.1⟩, decide_eq_true rfl]
 obtain ⟨r, h3, h4⟩ := key;refine ⟨_, _, h3, ?_⟩;have := LStep.up (K := K) (p := q) (r := r);rw [if_pos hq, h4] at this;exact this
theorem names_kw : ∀ k : Fin 34, nm k.val ≠ qb4 ∧ nm k.val ≠ qa8 ∧ nm k.val ≠ upB' := by decide
theorem word_kw : wordB ≠ qb4 ∧ wordB ≠ qa8 ∧ wordB ≠ upB' := by decide
theorem word_step (K : List PD) (q : PD) (z : Int) (h1 : 0 ≤ z) (h2 : z ≤ 4294967295) : LineTo (K ++ [q]) (wordT z) (some (K ++ [q.addWord z])) := by
 have ob : 0 ≤ opW z ∧ opW z ≤ 63 ∧ 0 ≤ aW z ∧ aW z ≤ 255 ∧ 0 ≤ bW z ∧ bW z ≤ 511 ∧ 0 ≤ cW z ∧ cW z ≤ 511 := by unfold opW aW bW cW; omega
 obtain ⟨o1, o2, o3, o4, o5, o6, o7, o8⟩ := ob;have hz : z = opW z + 64 * aW z + 16384 * bW z + 8388608 * cW z := by unfold opW aW bW cW; omega
 have hs : sW z = bW z + 512 * cW z - 131072 := rfl;have na := dec_no (aW z) (b := 32) (by decide);have nb := dec_no (bW z) (b := 32) (by decide);have nc := dec_no (cW z) (b := 32) (by decide);have ns := dec_no (sW z) (b := 32) (by decide);unfold wordT;by_cases h33 : 33 < opW z
 ·rw [if_pos h33];refine ⟨wordB, [dec z], ?_, ?_⟩
  ·have e : (⟨#[119, 111, 114, 100, 32]⟩ : ByteArray) ++ dec z = wordB ++ ⟨#[32]⟩ ++ dec z := rfl;rw [e, qb2 _ (by unfold No; decide), qf0 (dec_no z (by decide))]
  ·have := LStep.word (K := K) (p := q) word_kw.1 word_kw.2.1 word_kw.2.2 (StepW.word (r := [dec z]) rfl)
   have e : wordN [dec z] = some z := by
    show (if 0 ≤ natOf (dec z) 4294967295 ∧ natOf (dec z) 4294967295 % 64 > 33 then some (natOf (dec z) 4294967295) else none) = _;rw [qc3 h1 h2 (by omega), if_pos ⟨h1, h33⟩]
   rw [e] at this;exact this
 rw [if_neg h33];obtain ⟨k, hk⟩ : ∃ k : Nat, (opW z).toNat = k := ⟨_, rfl⟩;have hk' : opW z = (k : Int) := by omega
 have hlt : k < 34 := by omega
 have hnk := nm_no hlt (b := 32) (.inl rfl);rw [hk];have kw := names_kw ⟨k, hlt⟩;by_cases hw : WideOp k
 ·rw [if_pos hw];refine ⟨nm k, [dec (aW z), dec (sW z)], ?_, ?_⟩
  ·have e : nm k ++ spB ++ dec (aW z) ++ spB ++ dec (sW z) = nm k ++ ⟨#[32]⟩ ++ (dec (aW z) ++ ⟨#[32]⟩ ++ dec (sW z)) := by rw [spB_eq]; simp only [ByteArray.append_assoc]
   rw [e, qb2 _ hnk, qb2 _ na, qf0 ns]
  ·have := LStep.word (K := K) (p := q) kw.1 kw.2.1 kw.2.2 (StepW.op (r := [dec (aW z), dec (sW z)]) hlt rfl)
   have e : wordK k [dec (aW z), dec (sW z)] = some z := by
    unfold wordK;rw [if_pos hw];dsimp only;rw [decOf_dec (by unfold I64; omega)];dsimp only;rw [qc3 o3 o4 (by omega), if_pos ⟨o3, by omega, by omega⟩];unfold packed;rw [if_pos ⟨by omega, by omega, by omega, by omega, by omega⟩]
    congr 1
    omega
   rw [e] at this;exact this
 ·rw [if_neg hw];refine ⟨nm k, [dec (aW z), dec (bW z), dec (cW z)], ?_, ?_⟩
  ·have e : nm k ++ spB ++ dec (aW z) ++ spB ++ dec (bW z) ++ spB ++ dec (cW z) = nm k ++ ⟨#[32]⟩ ++ (dec (aW z) ++ ⟨#[32]⟩ ++ (dec (bW z) ++ ⟨#[32]⟩ ++ dec (cW z))) := by rw [spB_eq]; simp only [ByteArray.append_assoc]
   rw [e, qb2 _ hnk, qb2 _ na, qb2 _ nb, qf0 nc]
  ·have := LStep.word (K := K) (p := q) kw.1 kw.2.1 kw.2.2 (StepW.op (r := [dec (aW z), dec (bW z), dec (cW z)]) hlt rfl)
   have e : wordK k [dec (aW z), dec (bW z), dec (cW z)] = some z := by
    unfold wordK;rw [if_neg hw];dsimp only;rw [qc3 o3 o4 (by omega), qc3 o5 o6 (by omega), qc3 o7 o8 (by omega), if_pos ⟨o3, o5, o7⟩];unfold packed;rw [if_pos ⟨by omega, by omega, by omega, by omega, by omega⟩]
    congr 1
    omega
   rw [e] at this;exact this
def addS {α : Type} (s : Sl α) (f : Nat → α) : Nat → Sl α
 | 0 => s
 | n + 1 => (addS s f n).add (f n)
theorem addS_n {α : Type} (s : Sl α) (f : Nat → α) : ∀ n, (addS s f n).n = s.n + n
 | 0 => rfl
 | n + 1 => by show (addS s f n).n + 1 = _; rw [addS_n s f n]; omega
theorem addS_f {α : Type} (s : Sl α) (f : Nat → α) (h : s.n = 0) : ∀ n i, i < n → (addS s f n).f i = f i
 | 0, i, hi => absurd hi (Nat.not_lt_zero i)
 | n + 1, i, hi => by
  show (if i < (addS s f n).n then (addS s f n).f i else f n) = f i;rw [addS_n, h, Nat.zero_add];by_cases e : i < n
  ·rw [if_pos e]; exact addS_f s f h n i e
  ·rw [if_neg e]; congr 1; omega
theorem Steps.trans : ∀ {a b : List ByteArray} {L M N : List PD}, Steps L a M → Steps M b N → Steps L (a ++ b) N
 | [], _, _, _, _, .nil, h => h
 | _ :: _, _, _, _, _, .cons h1 h2, h => .cons h1 (h2.trans h)
theorem steps_c (K : List PD) (q : PD) (hq : q.ups.n = 0 ∧ q.code.n = 0) (f : Nat → VD) : ∀ n, (∀ i, i < n → Plain (f i) ∧ I64 (f i).num) → Steps (K ++ [q]) ((List.range n).map fun i => constT (f i)) (K ++ [{ q with consts := addS q.consts f n }])
 | 0, _ => .nil
 | n + 1, h => by
  rw [List.range_succ, List.map_append];exact (steps_c K q hq f n fun i hi => h i (by omega)).snoc (const_step K { q with consts := addS q.consts f n } hq (f n) (h n (by omega)).1 (h n (by omega)).2)
theorem steps_u (K : List PD) (q : PD) (hq : q.code.n = 0) (f : Nat → UD) : ∀ n, (∀ i, i < n → 0 ≤ (f i).index ∧ (f i).index ≤ 16777215) → Steps (K ++ [q]) ((List.range n).map fun i => upT (f i)) (K ++ [{ q with ups := addS q.ups f n }])
 | 0, _ => .nil
 | n + 1, h => by
  rw [List.range_succ, List.map_append];exact (steps_u K q hq f n fun i hi => h i (by omega)).snoc (up_step K { q with ups := addS q.ups f n } hq (f n) (h n (by omega)))
theorem steps_w (K : List PD) (q : PD) (f : Nat → Int) : ∀ n, (∀ i, i < n → 0 ≤ f i ∧ f i ≤ 4294967295) → Steps (K ++ [q]) ((List.range n).map fun i => wordT (f i)) (K ++ [{ q with code := addS q.code f n }])
 | 0, _ => .nil
 | n + 1, h => by
  rw [List.range_succ, List.map_append];exact (steps_w K q f n fun i hi => h i (by omega)).snoc (word_step K { q with code := addS q.code f n } (f n) (h n (by omega)).1 (h n (by omega)).2)
def builtP (p : PD) : PD := { bareP p.params p.regs p.kids p.vararg with consts := addS ⟨0, fun _ => ⟨0, 0, ⟨#[]⟩⟩⟩ p.consts.f p.consts.n, ups := addS ⟨0, fun _ => ⟨false, 0⟩⟩ p.ups.f p.ups.n, code := addS ⟨0, fun _ => 0⟩ p.code.f p.code.n }
structure Lst (p : PD) : Prop where
 par : 0 ≤ p.params ∧ p.params ≤ 16777215
 regs : 0 ≤ p.regs ∧ p.regs ≤ 16777215
 kids : 0 ≤ p.kids ∧ p.kids ≤ 16777215
 cs : ∀ i, i < p.consts.n → Plain (p.consts.f i) ∧ I64 (p.consts.f i).num
 us : ∀ i, i < p.ups.n → 0 ≤ (p.ups.f i).index ∧ (p.ups.f i).index ≤ 16777215
 ws : ∀ i, i < p.code.n → 0 ≤ p.code.f i ∧ p.code.f i ≤ 4294967295
theorem steps_p (L : List PD) (p : PD) (h : Lst p) : Steps L (linesP p) (L ++ [builtP p]) :=
 .cons (head_step L p h.par h.regs h.kids) ((steps_c L _ ⟨rfl, rfl⟩ p.consts.f p.consts.n h.cs).trans ((steps_u L _ rfl p.ups.f p.ups.n h.us).trans (steps_w L _ p.code.f p.code.n h.ws)))
theorem steps_l (s : Sl PD) (h : ∀ k, k < s.n → Lst (s.f k)) : ∀ n, n ≤ s.n → Steps [] ((List.range n).flatMap fun k => linesP (s.f k)) ((List.range n).map fun k => builtP (s.f k))
 | 0, _ => .nil
 | n + 1, hn => by
  rw [List.range_succ, List.flatMap_append, List.map_append];refine (steps_l s h n (by omega)).trans ?_;have := steps_p ((List.range n).map fun k => builtP (s.f k)) (s.f n) (h n (by omega))
  simpa using this
theorem head_no (p : PD) : No 10 (headT p) := by
 have h (n : Int) : No 10 (dec n) := dec_no n (by decide);have hs : No 10 spB := by unfold No; decide
 unfold headT;exact ((((((No.app (by unfold No; decide) (h _)).app hs).app (h _)).app hs).app (h _))).app (No.ite (by unfold No; decide) (by unfold No; decide))
theorem const_no (d : VD) : No 10 (constT d) := by
 unfold constT;refine No.ite (by unfold No; decide) (No.ite (No.ite (by unfold No; decide) (by unfold No; decide)) (No.ite (No.app (by unfold No; decide) (dec_no _ (by decide))) (No.app (by unfold No; decide) (hexB_no _ (by decide)))))
theorem up_no (u : UD) : No 10 (upT u) := No.app (No.ite (by unfold No; decide) (by unfold No; decide)) (dec_no _ (by decide))
theorem word_no (z : Int) : No 10 (wordT z) := by
 have h (n : Int) : No 10 (dec n) := dec_no n (by decide);have hs : No 10 spB := by unfold No; decide
 unfold wordT;by_cases h33 : 33 < opW z
 ·rw [if_pos h33];exact No.app (by unfold No; decide) (h _)
 ·rw [if_neg h33];have hn : No 10 (nm (opW z).toNat) := nm_no (by omega) (.inr rfl);exact No.ite ((((hn.app hs).app (h _)).app hs).app (h _)) ((((((hn.app hs).app (h _)).app hs).app (h _)).app hs).app (h _))
theorem cut_proto (p : PD) (rest : ByteArray) : cutB 10 (protoT p ++ rest) = linesP p ++ cutB 10 rest := by
 have e : protoT p ++ rest = headT p ++ ⟨#[10]⟩ ++ (catL (fun i => constT (p.consts.f i) ++ ⟨#[10]⟩) p.consts.n ++ (catL (fun i => upT (p.ups.f i) ++ ⟨#[10]⟩) p.ups.n ++ (catL (fun i => wordT (p.code.f i) ++ ⟨#[10]⟩) p.code.n ++ rest))) := by
  unfold protoT;simp only [ByteArray.append_assoc]
 rw [e, qb2 _ (head_no p), cut_catL _ _ _ fun i _ => const_no _, cut_catL _ _ _ fun i _ => up_no _, cut_catL _ _ _ fun i _ => word_no _];unfold linesP;simp only [List.cons_append, List.append_assoc]
theorem cut_protos (f : Nat → PD) : ∀ (n : Nat) (rest : ByteArray), cutB 10 (catL (fun i => protoT (f i)) n ++ rest) = ((List.range n).flatMap fun k => linesP (f k)) ++ cutB 10 rest
 | 0, rest => by
  have : catL (fun i => protoT (f i)) 0 ++ rest = rest := by apply ByteArray.ext; simp [catL]
  rw [this]; rfl
 | n + 1, rest => by
  have e : catL (fun i => protoT (f i)) (n + 1) ++ rest = catL (fun i => protoT (f i)) n ++ (protoT (f n) ++ rest) := by rw [catL, ByteArray.append_assoc]
  rw [e, cut_protos f n, cut_proto, List.range_succ, List.flatMap_append, List.append_assoc];simp
theorem lines_list (s : Sl PD) : qa9 (listT s) = (List.range s.n).flatMap fun k => linesP (s.f k) := by
 have e : cutB 10 (listT s) = ((List.range s.n).flatMap fun k => linesP (s.f k)) ++ [⟨#[]⟩] := by
  have h := cut_protos s.f s.n ⟨#[]⟩;rw [app_empty, qf0 (w := ⟨#[]⟩) (by unfold No; decide)] at h;exact h
 unfold qa9;rw [e, if_pos (by simp), List.dropLast_concat]
theorem list_back (s : Sl PD) (h : ∀ k, k < s.n → Lst (s.f k)) : AsmR (qa9 (listT s)) (some ((List.range s.n).map fun k => builtP (s.f k))) 0 := by
 rw [lines_list];exact .good (steps_l s h s.n (Nat.le_refl _))
theorem Fo.congr {K K' : Nat → Int} {n : Nat} (hK : ∀ i, i < n → K i = K' i) {k i e h : Nat} (t : Fo K n k i e h) : Fo K' n k i e h := by
 induction t with
 | nil => exact .nil
 | @cons k i m e h1 h2 hi hk t1 t2 ih1 ih2 =>
  rw [hK i hi] at hk ih1;exact .cons hi hk ih1 ih2
def backS (s : Sl PD) : Sl PD := qe4 ((List.range s.n).map fun k => builtP (s.f k))
theorem backS_n (s : Sl PD) : (backS s).n = s.n := by simp [backS, qe4]
theorem backS_f (s : Sl PD) {k : Nat} (h : k < s.n) : (backS s).f k = builtP (s.f k) := by simp [backS, qe4, List.getD, h]
theorem built_c (p : PD) : (builtP p).consts.n = p.consts.n ∧ ∀ i, i < p.consts.n → (builtP p).consts.f i = p.consts.f i := ⟨(addS_n _ _ _).trans (Nat.zero_add _), fun i hi => addS_f _ _ rfl _ i hi⟩
theorem built_u (p : PD) : (builtP p).ups.n = p.ups.n ∧ ∀ i, i < p.ups.n → (builtP p).ups.f i = p.ups.f i := ⟨(addS_n _ _ _).trans (Nat.zero_add _), fun i hi => addS_f _ _ rfl _ i hi⟩
theorem built_w (p : PD) : (builtP p).code.n = p.code.n ∧ ∀ i, i < p.code.n → (builtP p).code.f i = p.code.f i := ⟨(addS_n _ _ _).trans (Nat.zero_add _), fun i hi => addS_f _ _ rfl _ i hi⟩
theorem built_ok {p : PD} (q : ProtoOk p) : ProtoOk (builtP p) := by
 obtain ⟨c1, c2⟩ := built_c p;obtain ⟨u1, u2⟩ := built_u p;obtain ⟨w1, w2⟩ := built_w p;refine ⟨q.regs1, q.regs2, q.par1, q.par2, by rw [w1]; exact q.code1, by rw [w1]; exact q.code2, by rw [c1]; exact q.consts, by rw [u1]; exact q.ups, Nat.zero_le _, .inl rfl, .inl rfl, fun i hi => ?_, fun i hi => ?_, fun i hi => absurd hi (Nat.not_lt_zero i), fun i hi => absurd hi (Nat.not_lt_zero i)⟩
 ·rw [c1] at hi; rw [c2 i hi]; exact q.allConsts i hi
 ·rw [u1] at hi; rw [u2 i hi]; exact q.allUps i hi
theorem back_wf {s : Sl PD} (h : Wf s) : Wf (backS s) := by
 have hn := backS_n s;refine ⟨by rw [hn]; exact h.low, by rw [hn]; exact h.high, ?_, fun i hi => ?_⟩
 ·rw [hn];obtain ⟨g, t, hg⟩ := h.tree;refine ⟨g, t.congr fun i hi => ?_, hg⟩;show (s.f i).kids = ((backS s).f i).kids;rw [backS_f s hi]; rfl
 ·rw [hn] at hi;rw [backS_f s hi];exact built_ok (h.each i hi)
theorem qh9 {f g : Nat → ByteArray} : ∀ n, (∀ i, i < n → f i = g i) → catL f n = catL g n
 | 0, _ => rfl
 | n + 1, h => by rw [catL, catL, qh9 n fun i hi => h i (by omega), h n (by omega)]
theorem proto_same (p : PD) : protoT (builtP p) = protoT p := by
 obtain ⟨c1, c2⟩ := built_c p;obtain ⟨u1, u2⟩ := built_u p;obtain ⟨w1, w2⟩ := built_w p;have e0 : headT (builtP p) = headT p := rfl;unfold protoT;rw [e0, c1, u1, w1, qh9 p.consts.n fun i hi => by rw [c2 i hi], qh9 p.ups.n fun i hi => by rw [u2 i hi], qh9 p.code.n fun i hi => by rw [w2 i hi]]
theorem list_same (s : Sl PD) : listT (backS s) = listT s := by
 unfold listT;rw [backS_n];exact qh9 s.n fun i hi => by rw [backS_f s hi, proto_same]
theorem wf_u32 {x : Int} (h : (Lit.int .u32 x).wf = true) : 0 ≤ x ∧ x ≤ 4294967295 := by
 have hmin : IntKind.u32.min = 0 := rfl;have hmax : IntKind.u32.max = 4294967295 := rfl;simp only [Lit.wf, Bool.and_eq_true, decide_eq_true_eq] at h;omega
theorem wf_i64 {x : Int} (h : (Lit.int .i64 x).wf = true) : I64 x := by
 have hmin : IntKind.i64.min = -9223372036854775808 := rfl;have hmax : IntKind.i64.max = 9223372036854775807 := rfl;simp only [Lit.wf, Bool.and_eq_true, decide_eq_true_eq] at h;unfold I64;omega
theorem fo_kids {K : Nat → Int} {n k i e h : Nat} (t : Fo K n k i e h) : ∀ j, i ≤ j → j < e → 0 ≤ K j ∧ K j ≤ (n : Int) := by
 induction t with
 | nil => intro j h1 h2; omega
 | @cons k i m e h1 h2 hi hk t1 t2 ih1 ih2 =>
  intro j hj1 hj2;by_cases c1 : j = i
  ·subst c1;have := t1.le;refine ⟨hk, ?_⟩;by_cases hz : 0 < (K j).toNat
   ·have := this.2 hz; omega
   ·omega
  ·by_cases c2 : j < m
   ·exact ih1 j (by omega) c2
   ·exact ih2 j (by omega) hj2
theorem lst_of {s : Sl PD} (h : Wf s) (hb : Bnd s) {k : Nat} (hk : k < s.n) : Lst (s.f k) := by
 have q := h.each k hk;obtain ⟨g, t, -⟩ := h.tree;have hkd := fo_kids t k (Nat.zero_le _) hk;have hh := h.high;have r1 := q.regs1;have r2 := q.regs2;have p1 := q.par1;have p2 := q.par2;refine ⟨⟨p1, by omega⟩, ⟨by omega, by omega⟩, ⟨hkd.1, by have := hkd.2; show (s.f k).kids ≤ _; unfold kidsOf at this; omega⟩, fun i hi => ⟨q.allConsts i hi, wf_i64 (hb.nums k hk i hi)⟩, fun i hi => q.allUps i hi, fun i hi => wf_u32 (hb.code k hk i hi)⟩
theorem back_bnd {s : Sl PD} (hb : Bnd s) : Bnd (backS s) := by
 refine ⟨fun i hi j hj => ?_, fun i hi j hj => ?_⟩
 ·rw [backS_n] at hi;rw [backS_f s hi] at hj ⊢;rw [(built_w _).1] at hj;rw [(built_w _).2 j hj];exact hb.code i hi j hj
 ·rw [backS_n] at hi;rw [backS_f s hi] at hj ⊢;rw [(built_c _).1] at hj;rw [(built_c _).2 j hj];exact hb.nums i hi j hj
theorem asm_list {s : Sl PD} (h : Wf s) (hb : Bnd s) {R : Option (List PD)} {i : Nat} (hr : AsmR (qa9 (listT s)) R i) : R = some ((List.range s.n).map fun k => builtP (s.f k)) ∧ i = 0 := hr.det (list_back s fun k hk => lst_of h hb hk)
end Go.Proofs.YtplijnfaiofckaaGreatDoor

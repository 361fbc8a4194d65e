import Derived.Lib.ItoaLen
import Derived.Test.YtplijnfaiofckaaGreatDoorGf
import Derived.Lib.AppendIntMem
namespace Go.Proofs.YtplijnfaiofckaaGreatDoor
open Go.RowKit
set_option linter.unusedVariables false
set_option linter.unusedSimpArgs false
set_option maxRecDepth 100000
set_option maxHeartbeats 9000000
theorem digits_step {u : Nat} (h : ¬ u < 10) : Lib.decDigits u = Lib.decDigits (u / 10) ++ [UInt8.ofNat (48 + u % 10)] := by
 rw [Lib.decDigits, dif_neg h]
theorem digit_fin : ∀ i : Fin 10, (⟨#[48, 49, 50, 51, 52, 53, 54, 55, 56, 57]⟩ : ByteArray).extract i.val (i.val + 1) = ⟨#[UInt8.ofNat (48 + i.val)]⟩ := by decide +kernel
def dgt (u : Nat) : ByteArray := ⟨#[UInt8.ofNat (48 + u % 10)]⟩
theorem digit_piece (u : Nat) (W : World) : (Instr.slice 9 (.string ⟨#[48, 49, 50, 51, 52, 53, 54, 55, 56, 57]⟩) (some (.int .i64 ((u : Int) % 10))) (some (.int .i64 ((u : Int) % 10 + 1))) none).run Tryz.prog W = .ok (.string (dgt u)) W := by
 rw [run_slice_string W 9 _ .i64 .i64 _ _ Tryz.underlying9 (by omega) (by omega) (by simp [ByteArray.size]; omega)];have e1 : ((u : Int) % 10).toNat = u % 10 := by omega
 have e2 : ((u : Int) % 10 + 1).toNat = u % 10 + 1 := by omega
 rw [e1, e2, digit_fin ⟨u % 10, Nat.mod_lt _ (by decide)⟩, dgt]
theorem ba_append (l : List UInt8) (b : UInt8) : (⟨l.toArray⟩ : ByteArray) ++ ⟨#[b]⟩ = ⟨(l ++ [b]).toArray⟩ := by
 apply ByteArray.ext;simp
theorem showDown (u : Nat) : ∀ (n : Int) (hn : n = -(u : Int)) (h0 : -9223372036854775808 ≤ n) (h1 : n ≤ 0) (w : World),
  Calls Tryz.prog 142 #[.int .i64 n] w fun e w' => e = .returned (.string ⟨(Lib.decDigits u).toArray⟩) ∧ Below w.heap.size w w' := by
 induction u using Nat.strongRecOn with
 | _ u ih =>
  intro n hn h0 h1 w;have hs := digit_piece u;have m0 : (0 : Int) ≤ (u : Int) % 10 := by omega
  have m1 : (u : Int) % 10 ≤ 9 := by omega
  by_cases h : u < 10
  ·have hx : -10 < n := by omega
   clear ih;go_enter Tryz.func142, Tryz.ntmps142;go_wp2_with fail;refine bodyPost_ret (v := .string (dgt u)) (by simp [results, Tryz.results142, go_sem]) rfl ⟨?_, by go_grown⟩;rw [Lib.decDigits_one h, dgt, Nat.mod_eq_of_lt h]
  ·have hr := ih (u / 10) (by omega) (-((u : Int) / 10)) (by omega) (by omega) (by omega);have hx : n ≤ -10 := by omega
   have w1 : IntKind.i64.wrap (-((u : Int) / 10)) = -((u : Int) / 10) := by rw [IntKind.wrap_i64]; omega
   have w2 : IntKind.i64.wrap ((u : Int) % 10 + 1) = (u : Int) % 10 + 1 := by rw [IntKind.wrap_i64]; omega
   clear ih;have hd : Lib.decDigits u = Lib.decDigits (u / 10) ++ [UInt8.ofNat (48 + u % 10)] := digits_step h;have hl := Lib.nDigits_le20 (u / 10) (by omega);rw [← Lib.decDigits_length] at hl;generalize Lib.decDigits (u / 10) = ds at hr hd hl;have hcat : ∀ W, (Op.stringOp .add (⟨ds.toArray⟩ : ByteArray) (dgt u)).run Tryz.prog W = .ok (.string (⟨ds.toArray⟩ ++ dgt u)) W := fun W => run_string_add_sum W _ _ (by simp [ByteArray.size, dgt]; omega);go_enter Tryz.func142, Tryz.ntmps142;go_wp2_with fail
   go_region_held3 (fun _ => True) (trivial) (first | (go_at_call 142; refine (hr _).mono ?_; rintro e w1 ⟨rfl, b1⟩))
   go_wp2_with fail;refine bodyPost_ret (v := .string (⟨ds.toArray⟩ ++ dgt u)) (by simp [results, Tryz.results142, go_sem]) rfl ⟨?_, ?_⟩
   ·rw [hd, dgt, ba_append]
   ·exact (Below.refl w.heap.size w).drew.trans b1
def dec (n : Int) : ByteArray := ⟨(Lib.itoa n).toArray⟩
theorem dec_pos {n : Int} (h : 0 ≤ n) : dec n = ⟨(Lib.decDigits n.toNat).toArray⟩ := by
 unfold dec Lib.itoa;rw [if_neg (by omega)]
theorem ba_cons (l : List UInt8) (b : UInt8) : (⟨#[b]⟩ : ByteArray) ++ ⟨l.toArray⟩ = ⟨(b :: l).toArray⟩ := by
 apply ByteArray.ext;simp
theorem dec_neg {n : Int} (h : n < 0) : dec n = ⟨#[45]⟩ ++ ⟨(Lib.decDigits n.natAbs).toArray⟩ := by
 unfold dec Lib.itoa;rw [if_pos h, ba_cons]
theorem specShowInt (n : Int) (h0 : -9223372036854775808 ≤ n) (h1 : n ≤ 9223372036854775807) (w : World) :
  Calls Tryz.prog 112 #[.int .i64 n] w fun e w' => e = .returned (.string (dec n)) ∧ Below w.heap.size w w' := by
 by_cases h : 0 ≤ n
 ·have hr := showDown n.toNat (-n) (by omega) (by omega) (by omega);rw [dec_pos h];generalize (⟨(Lib.decDigits n.toNat).toArray⟩ : ByteArray) = d at hr ⊢;have w1 : IntKind.i64.wrap (-n) = -n := by rw [IntKind.wrap_i64]; omega
  go_enter Tryz.func112, Tryz.ntmps112;go_wp2_with (go_at_call 142; refine (hr _).mono ?_; rintro e w1 ⟨rfl, b1⟩);go_ret;exact ⟨rfl, b1⟩
 ·have hr := showDown n.natAbs n (by omega) (by omega) (by omega);rw [dec_neg (by omega)];have hl := Lib.nDigits_le20 n.natAbs (by omega);rw [← Lib.decDigits_length] at hl;generalize Lib.decDigits n.natAbs = d at hr hl ⊢;have hcat : ∀ W, (Op.stringOp .add (⟨#[45]⟩ : ByteArray) ⟨d.toArray⟩).run Tryz.prog W = .ok (.string (⟨#[45]⟩ ++ ⟨d.toArray⟩)) W := fun W => run_string_add_sum W _ _ (by simp [ByteArray.size]; omega);go_enter Tryz.func112, Tryz.ntmps112;go_wp2_with (go_at_call 142; refine (hr _).mono ?_; rintro e w1 ⟨rfl, b1⟩);go_ret;exact ⟨rfl, b1⟩
end Go.Proofs.YtplijnfaiofckaaGreatDoor
namespace Go.Proofs.YtplijnfaiofckaaGreatDoor
open Go.RowKit Go.Shelf
set_option linter.unusedVariables false
set_option linter.unusedSimpArgs false
set_option maxRecDepth 100000
set_option maxHeartbeats 9000000
abbrev PowTab (w : World) : Prop := Lib.TabIs Tryz.prog w "internal/strconv.uint64pow10" .u64 Lib.pow10Tab
theorem qa2 {w w' : World} (h : PowTab w) (hb : Below w.heap.size w w') : PowTab w' := Lib.tabBelow_of_tabIs h w' hb
theorem itoa_in (n : Int) (h0 : -9223372036854775808 ≤ n) (h1 : n ≤ 9223372036854775807) (w : World) (ht : PowTab w) :
  Calls Tryz.prog 103 #[.int .i64 n] w fun e w' => e = .returned (.string (dec n)) ∧ Below w.heap.size w w' := by
 refine Calls.mono (Any.strconv_Itoa Tryz.laysM171 n h0 h1 w ht) ?_;rintro e w' ⟨rfl, k, os, rfl⟩;exact ⟨rfl, Lib.below_grow _ _ (Nat.le_refl _) _ _⟩
theorem infS1 : (Tryz.prog.info? 9).map (fun i => (i.zero, i.size, i.bytes)) = some (some (.string ⟨#[]⟩), 1, 16) := by kernel_rfl
theorem makeS (n : Nat) (hn : n ≤ 1000) (w : World) : (Instr.makeSlice 61 (.int .i64 (n : Int)) (.int .i64 (n : Int))).run Tryz.prog w = .ok (.slice (some ⟨w.heap.size, 0, none⟩) n n) (w.alloc (.cells (madeCells #[.string ⟨#[]⟩] n) 9)) := by
 obtain ⟨i, hi, he⟩ := Option.map_eq_some_iff.1 infS1;simp only [Prod.mk.injEq] at he;have := run_makeSlice (P := Tryz.prog) w 61 9 i (.string ⟨#[]⟩) Tryz.underlying61 hi he.1 .i64 .i64 n n (by omega) (by omega) (by rw [he.2.1, Int.toNat_natCast]; omega) (by rw [he.2.2]; omega) (by omega);rw [he.2.1, Int.toNat_natCast, Nat.mul_one] at this;exact this
theorem qg6 (ns : List Int) (bk o c : Nat) (w : World) (hcells : ∀ (j : Nat) x, ns[j]? = some x → w.cell? ⟨bk, o + j, none⟩ = some (.int .i64 x)) (hbk : bk < w.heap.size) (hn : ns.length ≤ 1000) (hc : ns.length ≤ c)
  (hr : ∀ x ∈ ns, -9223372036854775808 ≤ x ∧ x ≤ 9223372036854775807) (ht : PowTab w) (hlen : (joinB (ns.map dec)).size ≤ 100000) (ho : o ≤ 1000000000) :
  Calls Tryz.prog 51 #[.slice (some ⟨bk, o, none⟩) ns.length c] w fun e w' => e = .returned (.string (joinB (ns.map dec))) ∧ Below w.heap.size w w' := by
 obtain ⟨J, hJ⟩ : ∃ J, joinB (ns.map dec) = J := ⟨_, rfl⟩;rw [hJ];replace hJ := show Hid _ from hJ;have hmk := makeS ns.length hn w;have H0 := World.rowIs_made w (.string ⟨#[]⟩) ns.length 9;have b0 : Below w.heap.size w (w.alloc (.cells (madeCells #[.string ⟨#[]⟩] ns.length) 9)) := (Below.refl _ _).alloc (Nat.le_refl _) _;replace H0 := show Hid _ from H0;replace b0 := show Hid _ from b0;replace hcells := show Hid _ from hcells;replace hr := show Hid _ from hr;replace ht := show Hid _ from ht;obtain ⟨B, hB⟩ : ∃ n, w.heap.size = n := ⟨_, rfl⟩;rw [hB] at hmk H0;have hbB : bk < B := by omega
 go_enter Tryz.func51, Tryz.ntmps51;go_upto_region 2 with fail;generalize w.alloc (.cells (madeCells #[.string ⟨#[]⟩] ns.length) 9) = y0 at H0 b0 ⊢;clear hmk;go_wp2_with fail;go_loopw [11] (fun iv wr => ∃ k : Nat, iv = .int .i64 (k : Int) ∧ k ≤ ns.length ∧ Hid (wr.rowIs B 9 ns.length (fun j => if j < k then .string (dec (ns.getD j 0)) else .string ⟨#[]⟩) ∧ Below w.heap.size w wr)) (fun iv _ => ns.length - (intOf iv).toNat);case atStart => exact ⟨0, rfl, Nat.zero_le _, World.rowIs.congr H0.out (fun j _ => by simp), b0.out⟩
 case round =>
  obtain ⟨k, rfl, hk, hq⟩ := hrel;by_cases hkn : k < ns.length
  ·have hkI : (k : Int) < (ns.length : Int) := by omega
   obtain ⟨x, hx⟩ : ∃ x, ns[k]? = some x := ⟨_, List.getElem?_eq_getElem hkn⟩;have hxr := hr.out x (List.mem_of_getElem? hx);have hcx : wr.cell? ⟨bk, o + k, none⟩ = some (.int .i64 x) := (hq.out.2.cell (p := ⟨bk, o + k, none⟩) (show bk < w.heap.size by omega)).trans (hcells.out k x hx);have hcall := show Hid _ from itoa_in x hxr.1 hxr.2 wr (qa2 ht.out hq.out.2);have hgx : ns.getD k 0 = x := by rw [List.getD, hx]; rfl
   have hidx : (k : Int) < ((ns.length : Nat) : Int) := hkI;replace hx := show Hid _ from hx;replace hgx := show Hid _ from hgx;replace hxr := show Hid _ from hxr;go_wp2_with fail;refine Calls.mono hcall.out ?_;rintro e y1 ⟨rfl, b1⟩;have hrow := World.rowIs.of_block hq.out.1 (b1.block _ (World.rowIs.lt hq.out.1));have q1 := hrow.cell hkn;have f1 := hrow.frozen k;have hl1 := hrow.lt;have hrow2 := hrow.set k (.string (dec x));have bb := Below.setCell (hq.out.2.trans (b1.mono hq.out.2.size)) (p := ⟨B, k, none⟩) (show w.heap.size ≤ B by omega) (.string (dec x))
   have hrel : Hid ((y1.setCell ⟨B, k, none⟩ (.string (dec x))).rowIs B 9 ns.length (fun j => if j < k + 1 then .string (dec (ns.getD j 0)) else .string ⟨#[]⟩) ∧ Below w.heap.size w (y1.setCell ⟨B, k, none⟩ (.string (dec x)))) := by
    refine ⟨hrow2.congr (fun j hj => ?_), bb⟩;by_cases e1 : j = k
    ·subst e1; rw [if_pos rfl, if_pos (by omega), hgx.out]
    ·rw [if_neg e1];by_cases e2 : j < k
     ·rw [if_pos e2, if_pos (by omega)]
     ·rw [if_neg e2, if_neg (by omega)]
   clear hrow hrow2 bb hq hcall hcx b1;generalize dec x = dx at hrel ⊢;go_wp2_with fail;go_roundw;case rel => exact ⟨k + 1, by go_num, hkn, hrel.out⟩
   case measure => clear hrel; simp only [intOf]; omega
  ·obtain rfl : k = ns.length := by omega
   have hkI : ¬ ((ns.length : Nat) : Int) < (ns.length : Int) := by omega
   have hj := show Hid _ from join_in B 0 ns.length (ns.map dec) wr (fun j x hx => by
    rw [List.getElem?_map] at hx;obtain ⟨z, hz, rfl⟩ := Option.map_eq_some_iff.1 hx;have hjl := (List.getElem?_eq_some_iff.1 hz).1;have := hq.out.1.cell hjl;rw [if_pos hjl, List.getD, hz] at this;rw [Nat.zero_add];exact this) hq.out.1.lt (by rw [List.length_map]; omega) (by rw [List.length_map]; omega) hlen
   rw [List.length_map] at hj;rw [hJ.out] at hj;go_wp2_with fail;refine Calls.mono hj.out ?_;rintro e y1 ⟨rfl, b1⟩;go_wp2_with fail;go_ret;exact ⟨rfl, hq.out.2.trans (b1.mono hq.out.2.size)⟩
def spB : ByteArray := ⟨#[32]⟩
theorem qb1 (a : ByteArray) : joinB [a] = a := by
 unfold joinB;rw [List.map_cons, List.map_nil, Lib.join_one]
theorem qa6 (a b : ByteArray) (r : List ByteArray) : joinB (a :: b :: r) = a ++ spB ++ joinB (b :: r) := by
 unfold joinB spB;simp only [List.map_cons, Lib.join];apply ByteArray.ext;simp [ByteArray.data_append]
theorem qa4 (n : Int) (h0 : -9223372036854775808 ≤ n) (h1 : n ≤ 9223372036854775807) : (dec n).size ≤ 21 := by
 have := Lib.itoa_length_le n h0 h1
 simpa [dec, ByteArray.size] using this
def upT (u : UD) : ByteArray := (if u.stack then ⟨#[117, 112, 32, 115, 116, 97, 99, 107, 32]⟩ else ⟨#[117, 112, 32, 99, 101, 108, 108, 32]⟩) ++ dec u.index
theorem qd4 (n : Int) (h0 : -9223372036854775808 ≤ n) (h1 : n ≤ 9223372036854775807) (w : World) :
  Calls Tryz.prog 111 #[.int .i64 n] w fun e w' => e = .returned (.string (dec n)) ∧ Below w.heap.size w w' := by
 have h := show Hid _ from specShowInt n h0 h1 w;generalize dec n = d at h ⊢;go_enter Tryz.func111, Tryz.ntmps111;go_wp2_with fail;refine Calls.mono h.out ?_;rintro e y ⟨rfl, hb⟩;go_wp2_with fail;go_ret;exact ⟨rfl, hb⟩
theorem l6Up_in (u : UD) (h0 : -9223372036854775808 ≤ u.index) (h1 : u.index ≤ 9223372036854775807) (w : World) :
  Calls Tryz.prog 61 #[.agg #[.bool u.stack, .int .i64 u.index]] w fun e w' => e = .returned (.string (upT u)) ∧ Below w.heap.size w w' := by
 obtain ⟨st, ix⟩ := u;dsimp only at h0 h1 ⊢;have h := show Hid (∀ y, _) from fun y => qd4 ix h0 h1 y;have hd := qa4 ix h0 h1;unfold upT;dsimp only;generalize dec ix = d at h hd ⊢
 cases st with
 | true =>
  have hz : (⟨#[117, 112, 32, 115, 116, 97, 99, 107, 32]⟩ : ByteArray).size + d.size ≤ 9223372036854775807 := by have : (⟨#[117, 112, 32, 115, 116, 97, 99, 107, 32]⟩ : ByteArray).size = 9 := rfl; omega
  rw [if_pos rfl];go_enter Tryz.func61, Tryz.ntmps61;go_wp2_with fail;refine Calls.mono (h.out _) ?_;rintro e y ⟨rfl, hb⟩;go_wp2_with fail;go_ret;exact ⟨rfl, by first | exact hb | exact Below.trans (by go_grown) (hb.mono (by simp only [World.size_alloc]; omega))⟩
 | false =>
  have hz : (⟨#[117, 112, 32, 99, 101, 108, 108, 32]⟩ : ByteArray).size + d.size ≤ 9223372036854775807 := by have : (⟨#[117, 112, 32, 99, 101, 108, 108, 32]⟩ : ByteArray).size = 8 := rfl; omega
  rw [if_neg (by simp)];go_enter Tryz.func61, Tryz.ntmps61;go_wp2_with fail;refine Calls.mono (h.out _) ?_;rintro e y ⟨rfl, hb⟩;go_wp2_with fail;go_ret;exact ⟨rfl, by first | exact hb | exact Below.trans (by go_grown) (hb.mono (by simp only [World.size_alloc]; omega))⟩
theorem cellsOf {w : World} {L : List Value} {t : TypeId} {j : Nat} {x : Value} (h : L[j]? = some x) : (w.alloc (.cells L.toArray t)).cell? ⟨w.heap.size, 0 + j, none⟩ = some x := by
 rw [Nat.zero_add];exact (RowL.new w L t).cell j h
theorem qd9 (a b : ByteArray) : (joinB [a, b]).size = a.size + 1 + b.size := by
 rw [qa6, qb1]; simp only [ByteArray.size_append]; rfl
theorem qe9 (a b c : ByteArray) : (joinB [a, b, c]).size = a.size + 1 + b.size + 1 + c.size := by
 rw [qa6, qa6, qb1]; simp only [ByteArray.size_append]; have : spB.size = 1 := rfl; omega
theorem upT_line (u : UD) : lineB [⟨#[117, 112]⟩, (if u.stack then ⟨#[115, 116, 97, 99, 107]⟩ else ⟨#[99, 101, 108, 108]⟩), dec u.index] = upT u ++ ⟨#[10]⟩ := by
 unfold lineB upT;rw [qa6, qa6, qb1]
 congr 1
 rw [← ByteArray.append_assoc, ← ByteArray.append_assoc]
 congr 1
 cases u.stack <;> rfl
theorem lup_in (P : Nat) (U : List Value) (hU : U.length = 640) (u : UD) (h0 : -9223372036854775808 ≤ u.index) (h1 : u.index ≤ 9223372036854775807) (w0 : World) (v0 : Value) (y : World) (v : Value) (X : ByteArray) (h : Lw P U w0 v0 y v X) (ht : PowTab y) (hs : X.size ≤ 70368744177664) :
  Calls Tryz.prog 54 #[.pointer (some ⟨P, 0, none⟩), .agg #[.bool u.stack, .int .i64 u.index]] y fun e w' => ∃ v', e = .returned (.tuple #[]) ∧ Lw P U w0 v0 w' v' (X ++ (upT u ++ ⟨#[10]⟩)) := by
 have hup := upT_line u;generalize upT u ++ ⟨#[10]⟩ = Z at hup ⊢;obtain ⟨st, ix⟩ := u;dsimp only at h0 h1 hup ⊢;have hd := qa4 ix h0 h1;obtain ⟨d, hde⟩ : ∃ d, dec ix = d := ⟨_, rfl⟩
 cases st with
 | true =>
  rw [if_pos rfl, hde] at hup;rw [hde] at hd;have hb0 : Below y.heap.size y ((y.alloc (.cells #[.bool true, .int .i64 ix] 99)).alloc (.cells #[.int .i64 ix] 3)) := ((Below.refl _ _).alloc (Nat.le_refl _) _).alloc (by rw [World.size_alloc]; omega) _
  have hdm := show Hid _ from qg6 [ix] (y.heap.size + 1) 0 1 ((y.alloc (.cells #[.bool true, .int .i64 ix] 99)).alloc (.cells #[.int .i64 ix] 3)) (fun j x hx => by
    have e : (y.alloc (.cells #[.bool true, .int .i64 ix] 99)).heap.size = y.heap.size + 1 := World.size_alloc _ _;rw [← e];refine cellsOf (L := [.int .i64 ix]) ?_
    cases j with
    | zero => simp at hx; simp [hx]
    | succ j => simp at hx) (by simp only [World.size_alloc]; omega) (by simp) (by simp) (fun x hx => by simp at hx; subst hx; exact ⟨h0, h1⟩) (qa2 ht hb0) (by rw [List.map_cons, List.map_nil, qb1, hde]; omega) (by omega)
  rw [List.map_cons, List.map_nil, qb1, hde] at hdm
  have hjs : (joinB [⟨#[117, 112]⟩, ⟨#[115, 116, 97, 99, 107]⟩, d]).size ≤ 100000 := by
   rw [qe9];have e1 : (⟨#[117, 112]⟩ : ByteArray).size = 2 := rfl;have e2 : (⟨#[115, 116, 97, 99, 107]⟩ : ByteArray).size ≤ 5 := by decide
   omega
  have hln := show Hid (∀ (y1 : World) (bk : Nat), Lw P U w0 v0 y1 v X → bk < y1.heap.size → (∀ (j : Nat) x, [⟨#[117, 112]⟩, ⟨#[115, 116, 97, 99, 107]⟩, d][j]? = some x → y1.cell? ⟨bk, 0 + j, none⟩ = some (.string x)) → Calls Tryz.prog 52 #[.pointer (some ⟨P, 0, none⟩), .slice (some ⟨bk, 0, none⟩) 3 3] y1 fun e w' => ∃ v', e = .returned (.tuple #[]) ∧ Lw P U w0 v0 w' v' (X ++ lineB [⟨#[117, 112]⟩, ⟨#[115, 116, 97, 99, 107]⟩, d])) from
   fun y1 bk hl hbk hc => qg5 P U hU bk 0 3 [⟨#[117, 112]⟩, ⟨#[115, 116, 97, 99, 107]⟩, d] w0 v0 y1 v X hl hc hbk (by simp) (by simp) hjs hs
  rw [hup] at hln;have hL := show Hid _ from h;have hz := h.lt;clear h ht hup;go_enter Tryz.func54, Tryz.ntmps54;go_wp2_with fail;refine Calls.mono hdm.out ?_;rintro e y2 ⟨rfl, b2⟩;have b3 := hb0.trans (b2.mono hb0.size);have b4 : Below y.heap.size y (y2.alloc (.cells #[.string ⟨#[117, 112]⟩, .string ⟨#[115, 116, 97, 99, 107]⟩, .string d] 9)) := b3.alloc b3.size _
  have hl4 := show Hid _ from hln.out _ y2.heap.size (hL.out.later b4) (by rw [World.size_alloc]; omega) (fun j x hx => by
   refine cellsOf (L := [.string ⟨#[117, 112]⟩, .string ⟨#[115, 116, 97, 99, 107]⟩, .string d]) ?_;rcases j with _ | _ | _ | j
   ·simp at hx; simp [hx]
   ·simp at hx; simp [hx]
   ·simp at hx; simp [hx]
   ·simp at hx)
  clear hdm hln hL b2 b3 b4 hb0;go_wp2_with fail;refine Calls.mono hl4.out ?_;rintro e y5 ⟨v5, rfl, h5⟩;replace h5 := show Hid _ from h5;clear hl4;go_wp2_with fail
  go_end0
  exact ⟨_, rfl, h5.out⟩
 | false =>
  rw [if_neg (by simp), hde] at hup;rw [hde] at hd;have hb0 : Below y.heap.size y ((y.alloc (.cells #[.bool false, .int .i64 ix] 99)).alloc (.cells #[.int .i64 ix] 3)) := ((Below.refl _ _).alloc (Nat.le_refl _) _).alloc (by rw [World.size_alloc]; omega) _
  have hdm := show Hid _ from qg6 [ix] (y.heap.size + 1) 0 1 ((y.alloc (.cells #[.bool false, .int .i64 ix] 99)).alloc (.cells #[.int .i64 ix] 3)) (fun j x hx => by
    have e : (y.alloc (.cells #[.bool false, .int .i64 ix] 99)).heap.size = y.heap.size + 1 := World.size_alloc _ _;rw [← e];refine cellsOf (L := [.int .i64 ix]) ?_
    cases j with
    | zero => simp at hx; simp [hx]
    | succ j => simp at hx) (by simp only [World.size_alloc]; omega) (by simp) (by simp) (fun x hx => by simp at hx; subst hx; exact ⟨h0, h1⟩) (qa2 ht hb0) (by rw [List.map_cons, List.map_nil, qb1, hde]; omega) (by omega)
  rw [List.map_cons, List.map_nil, qb1, hde] at hdm
  have hjs : (joinB [⟨#[117, 112]⟩, ⟨#[99, 101, 108, 108]⟩, d]).size ≤ 100000 := by
   rw [qe9];have e1 : (⟨#[117, 112]⟩ : ByteArray).size = 2 := rfl;have e2 : (⟨#[99, 101, 108, 108]⟩ : ByteArray).size ≤ 5 := by decide
   omega
  have hln := show Hid (∀ (y1 : World) (bk : Nat), Lw P U w0 v0 y1 v X → bk < y1.heap.size → (∀ (j : Nat) x, [⟨#[117, 112]⟩, ⟨#[99, 101, 108, 108]⟩, d][j]? = some x → y1.cell? ⟨bk, 0 + j, none⟩ = some (.string x)) → Calls Tryz.prog 52 #[.pointer (some ⟨P, 0, none⟩), .slice (some ⟨bk, 0, none⟩) 3 3] y1 fun e w' => ∃ v', e = .returned (.tuple #[]) ∧ Lw P U w0 v0 w' v' (X ++ lineB [⟨#[117, 112]⟩, ⟨#[99, 101, 108, 108]⟩, d])) from
   fun y1 bk hl hbk hc => qg5 P U hU bk 0 3 [⟨#[117, 112]⟩, ⟨#[99, 101, 108, 108]⟩, d] w0 v0 y1 v X hl hc hbk (by simp) (by simp) hjs hs
  rw [hup] at hln;have hL := show Hid _ from h;have hz := h.lt;clear h ht hup;go_enter Tryz.func54, Tryz.ntmps54;go_wp2_with fail;refine Calls.mono hdm.out ?_;rintro e y2 ⟨rfl, b2⟩;have b3 := hb0.trans (b2.mono hb0.size);have b4 : Below y.heap.size y (y2.alloc (.cells #[.string ⟨#[117, 112]⟩, .string ⟨#[99, 101, 108, 108]⟩, .string d] 9)) := b3.alloc b3.size _
  have hl4 := show Hid _ from hln.out _ y2.heap.size (hL.out.later b4) (by rw [World.size_alloc]; omega) (fun j x hx => by
   refine cellsOf (L := [.string ⟨#[117, 112]⟩, .string ⟨#[99, 101, 108, 108]⟩, .string d]) ?_;rcases j with _ | _ | _ | j
   ·simp at hx; simp [hx]
   ·simp at hx; simp [hx]
   ·simp at hx; simp [hx]
   ·simp at hx)
  clear hdm hln hL b2 b3 b4 hb0;go_wp2_with fail;refine Calls.mono hl4.out ?_;rintro e y5 ⟨v5, rfl, h5⟩;replace h5 := show Hid _ from h5;clear hl4;go_wp2_with fail
  go_end0
  exact ⟨_, rfl, h5.out⟩
end Go.Proofs.YtplijnfaiofckaaGreatDoor

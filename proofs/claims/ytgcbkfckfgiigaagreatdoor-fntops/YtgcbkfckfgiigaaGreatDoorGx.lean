import Derived.Test.YtgcbkfckfgiigaaGreatDoorGv
import Derived.Test.YtgcbkfckfgiigaaGreatDoorGo
import Derived.Test.YtgcbkfckfgiigaaGreatDoorVfJ
import Derived.Test.YtgcbkfckfgiigaaGreatDoorVmP
namespace Go.Proofs.YtgcbkfckfgiigaaGreatDoor
open Go.RowKit Go.Shelf
set_option linter.unusedVariables false
set_option linter.unusedSimpArgs false
set_option maxRecDepth 100000
set_option maxHeartbeats 9000000
theorem implVerify_no (s : Sl PD) (v : Value) (w : World) (hv : IsProtos (· < w.heap.size) w v s) (hn : ¬ Wf s) :
  Calls Tryz.prog 9 #[.agg #[v]] w fun e w' => (∃ c pr pc, e = .returned (.agg #[.int .i64 c, .int .i64 pr, .int .i64 pc]) ∧ VerD s c pr pc) ∧ Below w.heap.size w w' := by
 have hv' : Hid (IsProtos (· < w.heap.size) w v s) := hv;clear hv;go_enter Tryz.func9, Tryz.ntmps9;go_wp2_with fail;have R0 := (RowL.new w [v] 25).alloc (.cells #[.int .i64 0, .int .i64 0, .int .i64 0] 39);have Q0 := RowL.new (w.alloc (.cells #[v] 25)) [.int .i64 0, .int .i64 0, .int .i64 0] 39;rw [World.size_alloc] at Q0;have bw : Below w.heap.size w ((w.alloc (.cells #[v] 25)).alloc (.cells #[.int .i64 0, .int .i64 0, .int .i64 0] 39)) := ((Below.refl _ _).alloc (Nat.le_refl _) _).alloc (by rw [World.size_alloc]; omega) _;generalize (w.alloc (.cells #[v] 25)).alloc (.cells #[.int .i64 0, .int .i64 0, .int .i64 0] 39) = w2 at R0 Q0 bw ⊢;refine (implWF_in s v w2 (hv'.out.later bw)).mono ?_;rintro e y ⟨⟨r, rfl, hr⟩, b9⟩
 obtain rfl : r = false := by
  cases r with
  | true => exact absurd (hr.1 rfl) hn
  | false => rfl
 replace Q0 := Q0.call b9;replace bw := bw.trans (b9.mono bw.size);have hno : Hid (VerD s 12 0 0) := .inl ⟨hn, rfl, rfl, rfl⟩;have e0 := Q0.cell 0 rfl;have e1 := Q0.cell 1 rfl;have e2 := Q0.cell 2 rfl;have ef := Q0.frozen;have hq2 := Q0.lt;have L := (((Q0.set 0 (.int .i64 12)).set 1 (.int .i64 0)).set 2 (.int .i64 0));have bf := (Below.setCell (Below.setCell (Below.setCell bw (p := ⟨w.heap.size + 1, 0, none⟩) (Nat.le_succ _) (.int .i64 12)) (p := ⟨w.heap.size + 1, 1, none⟩) (Nat.le_succ _) (.int .i64 0)) (p := ⟨w.heap.size + 1, 2, none⟩) (Nat.le_succ _) (.int .i64 0));have l0 := L.cell 0 rfl;have l1 := L.cell 1 rfl;have l2 := L.cell 2 rfl;replace L : Hid _ := L;replace Q0 : Hid _ := Q0;clear hr b9 R0;go_wp2_with fail;refine bodyPost_ret (v := .agg #[.int .i64 12, .int .i64 0, .int .i64 0]) ?_ rfl ⟨⟨_, _, _, rfl, hno.out⟩, bf⟩;simp [results, Tryz.results9, go_sem, l0, l1, l2]
end Go.Proofs.YtgcbkfckfgiigaaGreatDoor
namespace Go.Proofs.YtgcbkfckfgiigaaGreatDoor
open Go.RowKit
set_option linter.unusedVariables false
set_option linter.unusedSimpArgs false
set_option maxRecDepth 100000
set_option maxHeartbeats 9000000
theorem ints_of_row {w : World} {B n lo : Nat} {t : TypeId} {f : Nat → Int} (h : w.rowIs B t n (fun i => .int .i64 (f i))) (hn : n ≤ 9223372036854775807) (hl : lo ≤ B) : IsInts .i64 (fun b => lo ≤ b ∧ b < w.heap.size) w (.slice (some ⟨B, 0, none⟩) n n) ⟨n, f⟩ := by
 refine ⟨_, _, rfl, hn, fun _ => ⟨B, 0, rfl, ⟨hl, World.rowIs.lt h⟩, fun i hi j hj => ?_⟩⟩;obtain rfl : j = 0 := by omega
 have := World.rowIs.cell h hi
 simpa [iC] using this
theorem implVerify_in (s : Sl PD) (v : Value) (w : World) (hv : IsProtos (· < w.heap.size) w v s) (hC : CodeB s) (hS : Spans w) :
  Calls Tryz.prog 9 #[.agg #[v]] w fun e w' => (∃ c pr pc, e = .returned (.agg #[.int .i64 c, .int .i64 pr, .int .i64 pc]) ∧ VerD s c pr pc) ∧ Below w.heap.size w w' := by
 by_cases hw : Wf s
 ·exact (implVerify_yes s v w hv hw hC hS).mono fun e w' ⟨⟨c, pr, pc, he, hR⟩, hb⟩ => ⟨⟨c, pr, pc, he, .inr ⟨hw, hR⟩⟩, hb⟩
 ·exact implVerify_no s v w hv hw
def TopsD (s : Sl PD) (i : Int) (n : Nat) (f : Nat → Int) : Prop := (Wf s ∧ ∃ k : Nat, k < s.n ∧ i = (k : Int) ∧ n = (s.f k).code.n ∧ ∀ t, t < n → TopAt (s.f k).code t (f t)) ∨ (n = 0 ∧ ¬ (Wf s ∧ 0 ≤ i ∧ i < (s.n : Int)))
theorem TopsD.det {s : Sl PD} {i : Int} {n n' : Nat} {f f' : Nat → Int} (h : TopsD s i n f) (h' : TopsD s i n' f') : n = n' ∧ ∀ t, t < n → f t = f' t := by
 rcases h with ⟨w, k, hk, rfl, rfl, hf⟩ | ⟨rfl, hn⟩ <;> rcases h' with ⟨w', k', hk', he, rfl, hf'⟩ | ⟨rfl, hn'⟩
 ·obtain rfl : k = k' := by omega
  exact ⟨rfl, fun t ht => (hf t ht).det (hf' t ht)⟩
 ·exact absurd ⟨w, by omega, by omega⟩ hn'
 ·exact absurd ⟨w', by omega, by omega⟩ hn
 ·exact ⟨rfl, fun t ht => absurd ht (by omega)⟩
theorem specTops_in (s : Sl PD) (v : Value) (i : Int) (w : World) (hv : IsProtos (· < w.heap.size) w v s) (hb : CodeB s) :
  Calls Tryz.prog 5 #[.agg #[v], .int .i64 i] w fun e w' => (∃ u n f, e = .returned u ∧ IsInts .i64 (fun b => w.heap.size ≤ b ∧ b < w'.heap.size) w' u ⟨n, f⟩ ∧ TopsD s i n f) ∧ Below w.heap.size w w' := by
 have hv' : Hid (IsProtos (· < w.heap.size) w v s) := hv;obtain ⟨-, -, -, -, -, ⟨ao, cap, rfl, hn, -⟩, -⟩ := hv;replace hb : Hid (CodeB s) := hb;go_enter Tryz.func5, Tryz.ntmps5;go_wp2_with fail;have R0 := RowL.new w [.slice ao s.n cap] 25;have bw : Below w.heap.size w (w.alloc (.cells #[.slice ao s.n cap] 25)) := by go_grown
 generalize w.alloc (.cells #[.slice ao s.n cap] 25) = w0 at R0 bw ⊢;refine (specWF_in s _ _ (hv'.out.later bw)).mono ?_;rintro e y ⟨⟨r, rfl, hr⟩, b1⟩;replace R0 := R0.call b1;replace bw := bw.trans (b1.mono bw.size);clear b1;have r0 := R0.cell 0 rfl;have hbu := built_ints bw [] (by simp);have hbel : Hid (Below w.heap.size w y) := bw;have hem : Hid (Below w.heap.size w (y.alloc (.cells #[] 3)) ∧ IsInts .i64 (fun b => w.heap.size ≤ b ∧ b < (y.alloc (.cells #[] 3)).heap.size) (y.alloc (.cells #[] 3)) (.slice (some ⟨y.heap.size, 0, none⟩) 0 0) ⟨0, (slI []).f⟩) := hbu;clear hbu;obtain rfl | rfl : r = false ∨ r = true := by cases r <;> simp
 ·have hno : Hid (TopsD s i 0 (slI []).f) := .inr ⟨rfl, fun h => by simpa using hr.2 h.1⟩;clear hr hv' bw;go_wp2_with fail;go_ret;exact ⟨⟨_, 0, (slI []).f, rfl, hem.out.2, hno.out⟩, hem.out.1⟩
 have hwf : Hid (Wf s) := hr.1 rfl;clear hr;by_cases h0 : i < 0
 ·have hno : Hid (TopsD s i 0 (slI []).f) := .inr ⟨rfl, fun h => by omega⟩;clear hv' bw;go_wp2_with fail;go_ret;exact ⟨⟨_, 0, (slI []).f, rfl, hem.out.2, hno.out⟩, hem.out.1⟩
 by_cases h1 : (s.n : Int) ≤ i
 ·have hno : Hid (TopsD s i 0 (slI []).f) := .inr ⟨rfl, fun h => by omega⟩;clear hv' bw;go_wp2_with fail;go_ret;exact ⟨⟨_, 0, (slI []).f, rfl, hem.out.2, hno.out⟩, hem.out.1⟩
 obtain ⟨k, rfl⟩ : ∃ k : Nat, i = (k : Int) := ⟨i.toNat, by omega⟩;have hkn : k < s.n := by omega
 obtain ⟨b, o, rfl, hbb, hpr⟩ := (hv'.out.later bw).proto (by omega);obtain ⟨ac, cc, o4, c4, o5, c5, o8, c8, o9, c9, hp⟩ := hpr k hkn;have q0 := hp.f0;have q1 := hp.f1;have q2 := hp.f2;have q3 := hp.f3;have q4 := hp.f4;have q5 := hp.f5;have q6 := hp.f6;have q7 := hp.f7;have q8 := hp.f8;have q9 := hp.f9;have hok := hwf.out.each k hkn;replace hok : Hid (ProtoOk (s.f k)) := hok;have hcode : Hid (IsInts .u32 (· < y.heap.size) y (.slice ac (s.f k).code.n cc) (s.f k).code) := hp.code;clear hv' hpr bw hem hp;go_wp2_with fail;refine (l4Tops_in (s.f k).code (hb.out k hkn) (by have := hok.out.code1; omega) (by have := hok.out.code2; omega) (s.f k).params (s.f k).regs (s.f k).kids (s.f k).vararg (s.f k).name o4 o5 o8 o9 (s.f k).consts.n c4 (s.f k).ups.n c5 (s.f k).lines.n c8 (s.f k).upNames.n c9 ac cc y hcode.out).mono ?_;rintro e y2 ⟨u, f, rfl, b2, hI, hf⟩;have hfin : Hid (Below w.heap.size w y2) := hbel.out.trans (b2.mono hbel.out.size);have hI2 : Hid (IsInts .i64 (fun b => w.heap.size ≤ b ∧ b < y2.heap.size) y2 u ⟨(s.f k).code.n, f⟩) := IsArr.mono hI fun b hb => ⟨Nat.le_trans hbel.out.size hb.1, hb.2⟩;have hyes : Hid (TopsD s (k : Int) (s.f k).code.n f) := .inl ⟨hwf.out, k, hkn, rfl, rfl, hf⟩;clear hI hf b2 hbel q0 q1 q2 q3 q4 q5 q6 q7 q8 q9 r0 R0;go_wp2_with fail;go_ret;exact ⟨⟨_, _, f, rfl, hI2.out, hyes.out⟩, hfin.out⟩
theorem implTops_in (s : Sl PD) (v : Value) (i : Int) (w : World) (hv : IsProtos (· < w.heap.size) w v s) (hb : CodeB s) (hS : Spans w) :
  Calls Tryz.prog 7 #[.agg #[v], .int .i64 i] w fun e w' => (∃ u n f, e = .returned u ∧ IsInts .i64 (fun b => w.heap.size ≤ b ∧ b < w'.heap.size) w' u ⟨n, f⟩ ∧ TopsD s i n f) ∧ Below w.heap.size w w' := by
 have hv' : Hid (IsProtos (· < w.heap.size) w v s) := hv;obtain ⟨-, -, -, -, -, ⟨ao, cap, rfl, hn, -⟩, -⟩ := hv;replace hb : Hid (CodeB s) := hb;go_enter Tryz.func7, Tryz.ntmps7;go_wp2_with fail;have R0 := RowL.new w [.slice ao s.n cap] 25;have bw : Below w.heap.size w (w.alloc (.cells #[.slice ao s.n cap] 25)) := by go_grown
 generalize w.alloc (.cells #[.slice ao s.n cap] 25) = w0 at R0 bw ⊢;refine (implWF_in s _ _ (hv'.out.later bw)).mono ?_;rintro e y ⟨⟨r, rfl, hr⟩, b1⟩;replace R0 := R0.call b1;replace bw := bw.trans (b1.mono bw.size);clear b1;have r0 := R0.cell 0 rfl;obtain rfl | rfl : r = false ∨ r = true := by cases r <;> simp
 ·have hno : Hid (TopsD s i 0 (fun _ => 0)) := .inr ⟨rfl, fun h => by simpa using hr.2 h.1⟩;clear hr hv';go_wp2_with fail;go_ret;exact ⟨⟨_, 0, fun _ => 0, rfl, ⟨none, 0, rfl, Nat.zero_le _, fun h => absurd h (Nat.lt_irrefl 0)⟩, hno.out⟩, bw⟩
 have hwf : Hid (Wf s) := hr.1 rfl;clear hr;have hlow := hwf.out.low;have hhigh := hwf.out.high;go_wp2_with fail;refine (within_in i 0 ((s.n : Int) - 1) _).mono ?_;rintro e y1 ⟨⟨r, rfl, hr⟩, rfl⟩;obtain rfl | rfl : r = false ∨ r = true := by cases r <;> simp
 ·have hno : Hid (TopsD s i 0 (fun _ => 0)) := .inr ⟨rfl, fun h => by have := hr.2 ⟨h.2.1, by omega⟩; simp at this⟩;clear hr hv';go_wp2_with fail;go_ret;exact ⟨⟨_, 0, fun _ => 0, rfl, ⟨none, 0, rfl, Nat.zero_le _, fun h => absurd h (Nat.lt_irrefl 0)⟩, hno.out⟩, bw⟩
 have hi := hr.1 rfl;clear hr;obtain ⟨k, rfl⟩ : ∃ k : Nat, i = (k : Int) := ⟨i.toNat, by omega⟩;have hkn : k < s.n := by omega
 have hkI : (k : Int) < (s.n : Int) := by omega
 clear hi;go_wp2_with fail;refine (allUsages_in y).mono ?_;rintro e yU ⟨rfl, bU⟩;replace R0 := R0.call bU;replace bw := bw.trans (bU.mono bw.size);clear bU r0;have b0 : Below yU.heap.size yU (yU.alloc (.cells Tryz.zeroCells56 56)) := (Below.refl _ _).alloc (Nat.le_refl _) _;have bx : Below yU.heap.size yU ((yU.alloc (.cells Tryz.zeroCells56 56)).setRow yU.heap.size usTab) := ⟨b0.os, b0.tape, b0.output, by rw [setRow_size]; exact b0.size, fun k hk => (setRow_other _ _ _ _ (by omega)).trans (b0.block k hk)⟩
 have hUs : Hid (UsO ((yU.alloc (.cells Tryz.zeroCells56 56)).setRow yU.heap.size usTab) yU.heap.size 0) := fun n j hn hj => by
  rw [Nat.zero_add, Nat.mul_comm n 10];exact (cell_setRow_same _ _ _ _ _ _ _ (heap_alloc_new _ _)).trans (usTab_get hn hj)
 have hlx : yU.heap.size < ((yU.alloc (.cells Tryz.zeroCells56 56)).setRow yU.heap.size usTab).heap.size := by rw [setRow_size, World.size_alloc]; omega
 replace R0 := R0.call bx;replace bw := bw.trans (bx.mono bw.size);have hcl := R0.cell 0 rfl;have hll := R0.lt;obtain ⟨b, o, rfl, hbb, hpr⟩ := (hv'.out.later bw).proto (by omega);obtain ⟨ac, cc, o4, c4, o5, c5, o8, c8, o9, c9, hp⟩ := hpr k hkn;have hPp := hp.ptr;have hSx := hS.below bw;have hok := hwf.out.each k hkn;replace hPp : Hid (PtrP ((yU.alloc (.cells Tryz.zeroCells56 56)).setRow yU.heap.size usTab) b (o + k * 10) (s.f k) (.slice ac (s.f k).code.n cc) (.slice o4 (s.f k).consts.n c4) (.slice o5 (s.f k).ups.n c5)) := hPp;replace hSx : Hid (Spans ((yU.alloc (.cells Tryz.zeroCells56 56)).setRow yU.heap.size usTab)) := hSx;replace hok : Hid (ProtoOk (s.f k)) := hok;clear hp hpr hv' b0 bx;go_wp2_with (refine wpList_store_row rfl 56 _ _ rfl yU.heap.size usTab rfl rfl 56 Tryz.zeroCells56 (heap_alloc_new _ _) us_info us_zero us_one ?_);generalize ((yU.alloc (.cells Tryz.zeroCells56 56)).setRow yU.heap.size usTab) = yV at hPp hSx hUs hlx bw ⊢;refine (topsOf_in yV b (o + k * 10) yU.heap.size 0 (s.f k) _ _ _ hPp.out hSx.out hUs.out hlx (hb.out k hkn) hok.out.code2 (by have := hok.out.code1; omega)).mono ?_;rintro e y2 ⟨rfl, b2, f, hrow, hf⟩;have hfin : Hid (Below w.heap.size w y2) := bw.trans (b2.mono bw.size);have hO : Hid (IsInts .i64 (fun b => w.heap.size ≤ b ∧ b < y2.heap.size) y2 (.slice (some ⟨yV.heap.size, 0, none⟩) (s.f k).code.n (s.f k).code.n) ⟨(s.f k).code.n, f⟩) := ints_of_row hrow (by have := hok.out.code2; omega) bw.size;have hyes : Hid (TopsD s (k : Int) (s.f k).code.n f) := .inl ⟨hwf.out, k, hkn, rfl, rfl, hf⟩;have hB2 := bw.size;clear hrow hf b2 bw;go_wp2_with fail;go_ret;exact ⟨⟨_, _, f, rfl, hO.out, hyes.out⟩, hfin.out⟩
end Go.Proofs.YtgcbkfckfgiigaaGreatDoor
namespace Go.Proofs.YtgcbkfckfgiigaaGreatDoor
set_option linter.unusedVariables false
def blankP (p : PD) : PD := { p with consts := ⟨p.consts.n, fun _ => ⟨0, 0, ⟨#[]⟩⟩⟩ }
def blankS (s : Sl PD) : Sl PD := ⟨s.n, fun k => blankP (s.f k)⟩
def plainP (p : PD) : PD := ⟨p.params, false, p.regs, p.code, ⟨0, fun _ => ⟨0, 0, ⟨#[]⟩⟩⟩, ⟨0, fun _ => ⟨false, 0⟩⟩, p.kids, ⟨#[]⟩, ⟨0, fun _ => 0⟩, ⟨0, fun _ => ⟨#[]⟩⟩⟩
def plainS (s : Sl PD) (i : Nat) : Sl PD := ⟨s.n, fun k => if k = i then plainP (s.f k) else s.f k⟩
theorem blank_wf {s : Sl PD} (h : Wf s) : Wf (blankS s) :=
 ⟨h.low, h.high, h.tree, fun i hi => by
  have q := h.each i hi;exact { q with allConsts := fun j hj => .inl ⟨rfl, rfl, rfl⟩ }⟩
theorem plain_wf {s : Sl PD} (h : Wf s) (i : Nat) : Wf (plainS s i) := by
 have hk : kidsOf (plainS s i) = kidsOf s := by
  funext k;show (if k = i then plainP (s.f k) else s.f k).kids = (s.f k).kids;split <;> rfl
 refine ⟨h.low, h.high, by rw [hk]; exact h.tree, fun k hk => ?_⟩;have q := h.each k hk;show ProtoOk (if k = i then plainP (s.f k) else s.f k);split
 ·exact ⟨q.regs1, q.regs2, q.par1, q.par2, q.code1, q.code2, Nat.zero_le _, Nat.zero_le _, Nat.zero_le _, .inl rfl, .inl rfl, fun i hi => absurd hi (Nat.not_lt_zero i), fun i hi => absurd hi (Nat.not_lt_zero i), fun i hi => absurd hi (Nat.not_lt_zero i), fun i hi => absurd hi (Nat.not_lt_zero i)⟩
 ·exact q
theorem blank_chain (p : PD) (pc : Nat) (z : Int) : chainOf (blankP p) pc z = chainOf p pc z := by
 have h1 : PairOk (blankP p) pc z = PairOk p pc z := propext ⟨fun h => ⟨h.jump, h.loop⟩, fun h => ⟨h.jump, h.loop⟩⟩;have h2 : EndOk (blankP p) pc z = EndOk p pc z := propext ⟨fun h => ⟨h.one, h.two⟩, fun h => ⟨h.one, h.two⟩⟩;unfold chainOf;rw [h1, h2];rfl
theorem blank_flt (p : PD) : Flt (blankP p) = Flt p := by
 funext pc c;show Chain (chainOf (blankP p) pc (p.code.f pc)) c = Chain (chainOf p pc (p.code.f pc)) c;rw [blank_chain]
theorem blank_desc (E : Nat → Nat) (s : Sl PD) (k : Nat) : Desc E (blankS s) k = Desc E s k := propext ⟨fun h => ⟨h.root, h.kids⟩, fun h => ⟨h.root, h.kids⟩⟩
theorem blank_rep1 (E : Nat → Nat) (s : Sl PD) : Rep1 E (blankS s) = Rep1 E s := by
 funext k c pr pc;unfold Rep1;rw [blank_desc];show (∃ q c0, Fst (s.f k).code.n (Flt (blankP (s.f k))) q c0 ∧ _) = _;rw [blank_flt];rfl
theorem blank_ver {s : Sl PD} {c pr pc : Int} (h : Wf s) (hv : VerD (blankS s) c pr pc) : VerD s c pr pc := by
 rcases hv with ⟨hn, _⟩ | ⟨_, hr⟩
 ·exact absurd (blank_wf h) hn
 ·refine .inr ⟨h, ?_⟩;unfold Rep at hr ⊢;rw [blank_rep1] at hr;exact hr
theorem plain_tops {s : Sl PD} {i n : Nat} {f : Nat → Int} (h : Wf s) (hi : i < s.n) (hv : TopsD (plainS s i) i n f) : TopsD s i n f := by
 rcases hv with ⟨_, k, hk, he, hn, hf⟩ | ⟨_, hn⟩
 ·obtain rfl : i = k := by omega
  have e : (plainS s i).f i = plainP (s.f i) := if_pos rfl;rw [e] at hn hf;exact .inl ⟨h, i, hi, rfl, hn, hf⟩
 ·exact absurd ⟨plain_wf h i, by omega, by show (i : Int) < (s.n : Int); omega⟩ hn
end Go.Proofs.YtgcbkfckfgiigaaGreatDoor

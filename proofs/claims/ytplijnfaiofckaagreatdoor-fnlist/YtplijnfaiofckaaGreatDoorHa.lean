import Derived.Test.YtplijnfaiofckaaGreatDoorGz
namespace Go.Proofs.YtplijnfaiofckaaGreatDoor
open Go.RowKit Go.Shelf
set_option linter.unusedVariables false
set_option linter.unusedSimpArgs false
set_option maxRecDepth 100000
set_option maxHeartbeats 9000000
def UpIn (R : Option UD) (e : Ending) : Prop := (∃ u, R = some u ∧ e = .returned (.tuple #[.agg #[.bool u.stack, .int .i64 u.index], .bool true])) ∨ (R = none ∧ e = .returned (.tuple #[.agg #[.bool false, .int .i64 0], .bool false]))
theorem upIn_nil (g o c : Nat) (w : World) : Calls Tryz.prog 69 #[.slice (some ⟨g, o, none⟩) 0 c] w fun e w' => UpIn (upP []) e ∧ Below w.heap.size w w' := by
 have hR : Hid (UpIn (upP []) (.returned (.tuple #[.agg #[.bool false, .int .i64 0], .bool false]))) := .inr ⟨rfl, rfl⟩;go_enter Tryz.func69, Tryz.ntmps69;go_wp2_with fail;exact bodyPost_ret (v := .tuple #[.agg #[.bool false, .int .i64 0], .bool false]) (by simp [results, Tryz.results69, go_sem]) rfl ⟨hR.out, by go_grown⟩
theorem upP_no {p : ByteArray} {r : List ByteArray} (h1 : p ≠ stackB) (h2 : p ≠ cellB) : upP (p :: r) = none := by
 unfold upP;split
 ·rename_i p' q' h;simp only [List.cons.injEq] at h;obtain ⟨rfl, -⟩ := h;exact if_neg fun h => h.1.elim h1 h2
 ·rfl
theorem upIn_no (p : ByteArray) (r : List ByteArray) (g o c : Nat) (w : World) (c0 : w.cell? ⟨g, o, none⟩ = some (.string p)) (hg : g < w.heap.size) (hN : r.length ≤ 100000) (h1 : p ≠ stackB) (h2 : p ≠ cellB) :
  Calls Tryz.prog 69 #[.slice (some ⟨g, o, none⟩) (r.length + 1) c] w fun e w' => UpIn (upP (p :: r)) e ∧ Below w.heap.size w w' := by
 have hR : Hid (UpIn (upP (p :: r)) (.returned (.tuple #[.agg #[.bool false, .int .i64 0], .bool false]))) := .inr ⟨upP_no h1 h2, rfl⟩;have b1 : (p.toList == [115, 116, 97, 99, 107]) = false := lit_no (q := stackB) rfl h1;have b2 : (p.toList == [99, 101, 108, 108]) = false := lit_no (q := cellB) rfl h2;have hl : (((r.length : Int) + 1) == 0) = false := by simp; omega
 have hl2 : (0 : Int) < (r.length : Int) + 1 := by omega
 have hng : ¬ (g = w.heap.size) := by omega
 have hgl : g < w.heap.size + 1 := by omega
 generalize r.length = n at *;clear h1 h2;go_enter Tryz.func69, Tryz.ntmps69;go_wp2_with fail;exact bodyPost_ret (v := .tuple #[.agg #[.bool false, .int .i64 0], .bool false]) (by simp [results, Tryz.results69, go_sem]) rfl ⟨hR.out, by go_grown⟩
theorem upIn_stack2 (r : List ByteArray) (g o c : Nat) (w : World) (hcap : r.length + 1 ≤ c) (hc2 : 2 ≤ c) (ho : o + 1 ≤ 1000) (hN : r.length ≤ 100000) (c0 : w.cell? ⟨g, o, none⟩ = some (.string stackB))
  (hc : ∀ (j : Nat) x, r[j]? = some x → w.cell? ⟨g, o + 1 + j, none⟩ = some (.string x)) (hg : g < w.heap.size) (hz : ∀ x ∈ r, x.size ≤ 100000) (hv : Env w) :
  Calls Tryz.prog 69 #[.slice (some ⟨g, o, none⟩) (r.length + 1) c] w fun e w' => UpIn (upP (stackB :: r)) e ∧ Below w.heap.size w w' := by
 obtain ⟨w2, hw2⟩ : ∃ w2, w.alloc (.cells #[.bool false, .int .i64 0] 99) = w2 := ⟨_, rfl⟩;have RB : RowL w2 w.heap.size 99 [.bool false, .int .i64 0] := by rw [← hw2]; exact RowL.new w _ _
 have bw : Below w.heap.size w w2 := by rw [← hw2]; exact (Below.refl _ _).alloc (Nat.le_refl _) _
 obtain ⟨w1, hw1⟩ : ∃ w1, w2.alloc (.cells #[.func (.func 98) #[] #[]] 105) = w1 := ⟨_, rfl⟩;have bA : Below w2.heap.size w2 w1 := by rw [← hw1]; exact (Below.refl _ _).alloc (Nat.le_refl _) _
 have RF : RowL w1 w2.heap.size 105 [.func (.func 98) #[] #[]] := by rw [← hw1]; exact RowL.new w2 _ 105
 have hg2 : g < w2.heap.size := Nat.lt_of_lt_of_le hg bw.size;have d0 : w2.cell? ⟨g, o, none⟩ = some (.string ⟨#[115, 116, 97, 99, 107]⟩) := (bw.cell (p := ⟨g, o, none⟩) hg).trans c0;have bB : Below w.heap.size w w1 := bw.trans (bA.mono bw.size);have hlb : (((r.length : Int) + 1) == 0) = false := by simp; omega
 have hl2 : (0 : Int) < (r.length : Int) + 1 := by omega
 have hl3 : (1 : Int) ≤ (r.length : Int) + 1 := by omega
 have hwl := RF.lt;have hE : Hid (qh3 r [fitN] w1.heap.size = qh3 r [fitN] w1.heap.size) := rfl
 have hcall : Hid (Calls Tryz.prog 116 #[.slice (some ⟨g, o + 1, none⟩) r.length (c - 1), .slice (some ⟨w2.heap.size, 0, none⟩) 1 1] w1 fun e w' => ((∃ n, upP (stackB :: r) = some ⟨true, n⟩ ∧ w'.cell? ⟨w1.heap.size, 0, none⟩ = some (.int .i64 n) ∧ w1.heap.size < w'.heap.size ∧ e = .returned (.tuple #[.slice (some ⟨w1.heap.size, 0, none⟩) 1 1, .bool true])) ∨ (upP (stackB :: r) = none ∧ e = .returned (.tuple #[.slice none 0 0, .bool false]))) ∧ Below w1.heap.size w1 w') := by
  by_cases hl : r.length = 1
  ·match r, hl, hc, hz, hcap with
   | [q], _, hc, hz, hcap =>
    refine (qe1 [q] [fitN] g (o + 1) (c - 1) w2.heap.size 1 w1 rfl (by simp) (by simp at hcap ⊢; omega) (by omega) (fun j x hx => (bB.cell (p := ⟨g, o + 1 + j, none⟩) hg).trans (hc j x hx)) (by omega) hz (fun j t ht => by
     match j, ht with
     | 0, ht => simp at ht; subst ht; exact RF.cell 0 rfl) hwl (by simp) (fun t ht => by simp at ht; subst ht; exact fitN_ok w1) (qa2 hv.pow bB) (hv.err.below bB)).mono ?_
    rintro e w' ⟨hEn, hb⟩;refine ⟨?_, hb⟩;rcases hEn with ⟨hok, he, hrow⟩ | ⟨hno, he⟩
    ·obtain ⟨n, t, h1, h2, h3⟩ := hok 0 (by simp);simp only [List.getElem?_cons_zero, Option.some.injEq] at h2;subst h2;have h4 : 0 ≤ n ∧ n ≤ 16777215 := of_decide_eq_true h3;have e0 := hrow.cell (i := 0) (by simp);rw [h1] at e0;refine .inl ⟨n, ?_, e0, hrow.lt, he⟩;show (if (stackB = stackB ∨ stackB = cellB) ∧ 0 ≤ natOf q 16777215 then some (⟨decide (stackB = stackB), natOf q 16777215⟩ : UD) else none) = _;rw [qf2 (hi := 16777215) (show decOf q = some n from h1) h4.1 h4.2, if_pos ⟨by simp, h4.1⟩];rfl
    ·refine .inr ⟨?_, he⟩;show (if (stackB = stackB ∨ stackB = cellB) ∧ 0 ≤ natOf q 16777215 then some (⟨decide (stackB = stackB), natOf q 16777215⟩ : UD) else none) = _;refine if_neg fun h2 => hno fun j hj => ?_;obtain rfl : j = 0 := by simp at hj; omega
     obtain ⟨h3, h4⟩ := qd6 h2.2;exact ⟨_, fitN, h3, rfl, decide_eq_true ⟨h2.2, h4⟩⟩
  ·refine (qb7 r [fitN] (some ⟨g, o + 1, none⟩) (some ⟨w2.heap.size, 0, none⟩) (c - 1) 1 w1 hl hN (by simp)).mono ?_;rintro e w' ⟨he, hb⟩;refine ⟨.inr ⟨?_, he⟩, hb⟩;unfold upP;split
   ·rename_i p' q' h;simp only [List.cons.injEq] at h;obtain ⟨-, rfl⟩ := h;exact absurd rfl hl
   ·rfl
 generalize upP (stackB :: r) = R at hcall ⊢;clear hc hz hv RF hE c0;replace hw1 := hidR hw1;replace hw2 := hidR hw2;generalize r.length = n at *;go_enter Tryz.func69, Tryz.ntmps69;go_upto_region 1 with fail;rw [hw2.out];have hc3 : ¬ (c - 1 = 0) := by omega
 have hc4 : ¬ (c = 1) := by omega
 go_wp2_with fail;rw [hw1.out];refine Calls.mono hcall.out ?_;rintro e y ⟨hE, b1⟩;have bz := bB.trans (b1.mono bB.size);have bq := bA.trans (b1.mono bA.size);have RBy := RB.call bq;have dy : y.cell? ⟨g, o, none⟩ = some (.string ⟨#[115, 116, 97, 99, 107]⟩) := (bq.cell (p := ⟨g, o, none⟩) hg2).trans d0;have hgy : g < y.heap.size := Nat.lt_of_lt_of_le hg2 bq.size;clear hcall b1 hw1 hw2 bA bB d0 RB;rcases hE with ⟨nn, hR, hcl, hlt, rfl⟩ | ⟨hR, rfl⟩
 ·have hRR : Hid (UpIn R (.returned (.tuple #[.agg #[.bool true, .int .i64 nn], .bool true]))) := .inl ⟨_, hR, rfl⟩;have e0 := RBy.cell 0 rfl;have e1 := RBy.cell 1 rfl;have ef := RBy.frozen;have el := RBy.lt;have L := (RBy.set 0 (.bool true)).set 1 (.int .i64 nn);have l0 := L.cell 0 rfl;have l1 := L.cell 1 rfl;have bf := Below.setCell (Below.setCell bz (p := ⟨w.heap.size, 0, none⟩) (Nat.le_refl _) (.bool true)) (p := ⟨w.heap.size, 1, none⟩) (Nat.le_refl _) (.int .i64 nn);replace L := hidR L;replace RBy := hidR RBy;clear hR;go_wp2_with fail
  go_region
  go_wp2_with fail;exact bodyPost_ret (v := .tuple #[.agg #[.bool true, .int .i64 nn], .bool true]) (by simp [results, Tryz.results69, go_sem, l0, l1]) rfl ⟨hRR.out, bf.drew⟩
 ·have hRR : Hid (UpIn R (.returned (.tuple #[.agg #[.bool false, .int .i64 0], .bool false]))) := .inr ⟨hR, rfl⟩;have e0 := RBy.cell 0 rfl;have e1 := RBy.cell 1 rfl;have ef := RBy.frozen;have el := RBy.lt;have L := (RBy.set 0 (.bool false)).set 1 (.int .i64 0);have l0 := L.cell 0 rfl;have l1 := L.cell 1 rfl;have bf := Below.setCell (Below.setCell bz (p := ⟨w.heap.size, 0, none⟩) (Nat.le_refl _) (.bool false)) (p := ⟨w.heap.size, 1, none⟩) (Nat.le_refl _) (.int .i64 0);replace L := hidR L;replace RBy := hidR RBy;clear hR;go_wp2_with fail;exact bodyPost_ret (v := .tuple #[.agg #[.bool false, .int .i64 0], .bool false]) (by simp [results, Tryz.results69, go_sem, l0, l1]) rfl ⟨hRR.out, bf⟩
theorem upIn_cell2 (r : List ByteArray) (g o c : Nat) (w : World) (hcap : r.length + 1 ≤ c) (hc2 : 2 ≤ c) (ho : o + 1 ≤ 1000) (hN : r.length ≤ 100000) (c0 : w.cell? ⟨g, o, none⟩ = some (.string cellB))
  (hc : ∀ (j : Nat) x, r[j]? = some x → w.cell? ⟨g, o + 1 + j, none⟩ = some (.string x)) (hg : g < w.heap.size) (hz : ∀ x ∈ r, x.size ≤ 100000) (hv : Env w) :
  Calls Tryz.prog 69 #[.slice (some ⟨g, o, none⟩) (r.length + 1) c] w fun e w' => UpIn (upP (cellB :: r)) e ∧ Below w.heap.size w w' := by
 obtain ⟨w2, hw2⟩ : ∃ w2, w.alloc (.cells #[.bool false, .int .i64 0] 99) = w2 := ⟨_, rfl⟩;have RB : RowL w2 w.heap.size 99 [.bool false, .int .i64 0] := by rw [← hw2]; exact RowL.new w _ _
 have bw : Below w.heap.size w w2 := by rw [← hw2]; exact (Below.refl _ _).alloc (Nat.le_refl _) _
 obtain ⟨w1, hw1⟩ : ∃ w1, w2.alloc (.cells #[.func (.func 98) #[] #[]] 105) = w1 := ⟨_, rfl⟩;have bA : Below w2.heap.size w2 w1 := by rw [← hw1]; exact (Below.refl _ _).alloc (Nat.le_refl _) _
 have RF : RowL w1 w2.heap.size 105 [.func (.func 98) #[] #[]] := by rw [← hw1]; exact RowL.new w2 _ 105
 have hg2 : g < w2.heap.size := Nat.lt_of_lt_of_le hg bw.size;have d0 : w2.cell? ⟨g, o, none⟩ = some (.string ⟨#[99, 101, 108, 108]⟩) := (bw.cell (p := ⟨g, o, none⟩) hg).trans c0;have bB : Below w.heap.size w w1 := bw.trans (bA.mono bw.size);have hlb : (((r.length : Int) + 1) == 0) = false := by simp; omega
 have hl2 : (0 : Int) < (r.length : Int) + 1 := by omega
 have hl3 : (1 : Int) ≤ (r.length : Int) + 1 := by omega
 have hwl := RF.lt;have hE : Hid (qh3 r [fitN] w1.heap.size = qh3 r [fitN] w1.heap.size) := rfl
 have hcall : Hid (Calls Tryz.prog 116 #[.slice (some ⟨g, o + 1, none⟩) r.length (c - 1), .slice (some ⟨w2.heap.size, 0, none⟩) 1 1] w1 fun e w' => ((∃ n, upP (cellB :: r) = some ⟨false, n⟩ ∧ w'.cell? ⟨w1.heap.size, 0, none⟩ = some (.int .i64 n) ∧ w1.heap.size < w'.heap.size ∧ e = .returned (.tuple #[.slice (some ⟨w1.heap.size, 0, none⟩) 1 1, .bool true])) ∨ (upP (cellB :: r) = none ∧ e = .returned (.tuple #[.slice none 0 0, .bool false]))) ∧ Below w1.heap.size w1 w') := by
  by_cases hl : r.length = 1
  ·match r, hl, hc, hz, hcap with
   | [q], _, hc, hz, hcap =>
    refine (qe1 [q] [fitN] g (o + 1) (c - 1) w2.heap.size 1 w1 rfl (by simp) (by simp at hcap ⊢; omega) (by omega) (fun j x hx => (bB.cell (p := ⟨g, o + 1 + j, none⟩) hg).trans (hc j x hx)) (by omega) hz (fun j t ht => by
     match j, ht with
     | 0, ht => simp at ht; subst ht; exact RF.cell 0 rfl) hwl (by simp) (fun t ht => by simp at ht; subst ht; exact fitN_ok w1) (qa2 hv.pow bB) (hv.err.below bB)).mono ?_
    rintro e w' ⟨hEn, hb⟩;refine ⟨?_, hb⟩;rcases hEn with ⟨hok, he, hrow⟩ | ⟨hno, he⟩
    ·obtain ⟨n, t, h1, h2, h3⟩ := hok 0 (by simp);simp only [List.getElem?_cons_zero, Option.some.injEq] at h2;subst h2;have h4 : 0 ≤ n ∧ n ≤ 16777215 := of_decide_eq_true h3;have e0 := hrow.cell (i := 0) (by simp);rw [h1] at e0;refine .inl ⟨n, ?_, e0, hrow.lt, he⟩;show (if (cellB = stackB ∨ cellB = cellB) ∧ 0 ≤ natOf q 16777215 then some (⟨decide (cellB = stackB), natOf q 16777215⟩ : UD) else none) = _;rw [qf2 (hi := 16777215) (show decOf q = some n from h1) h4.1 h4.2, if_pos ⟨by simp, h4.1⟩];rfl
    ·refine .inr ⟨?_, he⟩;show (if (cellB = stackB ∨ cellB = cellB) ∧ 0 ≤ natOf q 16777215 then some (⟨decide (cellB = stackB), natOf q 16777215⟩ : UD) else none) = _;refine if_neg fun h2 => hno fun j hj => ?_;obtain rfl : j = 0 := by simp at hj; omega
     obtain ⟨h3, h4⟩ := qd6 h2.2;exact ⟨_, fitN, h3, rfl, decide_eq_true ⟨h2.2, h4⟩⟩
  ·refine (qb7 r [fitN] (some ⟨g, o + 1, none⟩) (some ⟨w2.heap.size, 0, none⟩) (c - 1) 1 w1 hl hN (by simp)).mono ?_;rintro e w' ⟨he, hb⟩;refine ⟨.inr ⟨?_, he⟩, hb⟩;unfold upP;split
   ·rename_i p' q' h;simp only [List.cons.injEq] at h;obtain ⟨-, rfl⟩ := h;exact absurd rfl hl
   ·rfl
 generalize upP (cellB :: r) = R at hcall ⊢;clear hc hz hv RF hE c0;replace hw1 := hidR hw1;replace hw2 := hidR hw2;generalize r.length = n at *;go_enter Tryz.func69, Tryz.ntmps69;go_upto_region 1 with fail;rw [hw2.out];have hc3 : ¬ (c - 1 = 0) := by omega
 have hc4 : ¬ (c = 1) := by omega
 go_wp2_with fail;rw [hw1.out];refine Calls.mono hcall.out ?_;rintro e y ⟨hE, b1⟩;have bz := bB.trans (b1.mono bB.size);have bq := bA.trans (b1.mono bA.size);have RBy := RB.call bq;have dy : y.cell? ⟨g, o, none⟩ = some (.string ⟨#[99, 101, 108, 108]⟩) := (bq.cell (p := ⟨g, o, none⟩) hg2).trans d0;have hgy : g < y.heap.size := Nat.lt_of_lt_of_le hg2 bq.size;clear hcall b1 hw1 hw2 bA bB d0 RB;rcases hE with ⟨nn, hR, hcl, hlt, rfl⟩ | ⟨hR, rfl⟩
 ·have hRR : Hid (UpIn R (.returned (.tuple #[.agg #[.bool false, .int .i64 nn], .bool true]))) := .inl ⟨_, hR, rfl⟩;have e0 := RBy.cell 0 rfl;have e1 := RBy.cell 1 rfl;have ef := RBy.frozen;have el := RBy.lt;have L := (RBy.set 0 (.bool false)).set 1 (.int .i64 nn);have l0 := L.cell 0 rfl;have l1 := L.cell 1 rfl;have bf := Below.setCell (Below.setCell bz (p := ⟨w.heap.size, 0, none⟩) (Nat.le_refl _) (.bool false)) (p := ⟨w.heap.size, 1, none⟩) (Nat.le_refl _) (.int .i64 nn);replace L := hidR L;replace RBy := hidR RBy;clear hR;go_wp2_with fail
  go_region
  go_wp2_with fail;exact bodyPost_ret (v := .tuple #[.agg #[.bool false, .int .i64 nn], .bool true]) (by simp [results, Tryz.results69, go_sem, l0, l1]) rfl ⟨hRR.out, bf.drew⟩
 ·have hRR : Hid (UpIn R (.returned (.tuple #[.agg #[.bool false, .int .i64 0], .bool false]))) := .inr ⟨hR, rfl⟩;have e0 := RBy.cell 0 rfl;have e1 := RBy.cell 1 rfl;have ef := RBy.frozen;have el := RBy.lt;have L := (RBy.set 0 (.bool false)).set 1 (.int .i64 0);have l0 := L.cell 0 rfl;have l1 := L.cell 1 rfl;have bf := Below.setCell (Below.setCell bz (p := ⟨w.heap.size, 0, none⟩) (Nat.le_refl _) (.bool false)) (p := ⟨w.heap.size, 1, none⟩) (Nat.le_refl _) (.int .i64 0);replace L := hidR L;replace RBy := hidR RBy;clear hR;go_wp2_with fail;exact bodyPost_ret (v := .tuple #[.agg #[.bool false, .int .i64 0], .bool false]) (by simp [results, Tryz.results69, go_sem, l0, l1]) rfl ⟨hRR.out, bf⟩
theorem upIn_stack1 (g o : Nat) (w : World) (c0 : w.cell? ⟨g, o, none⟩ = some (.string stackB)) (hg : g < w.heap.size) :
  Calls Tryz.prog 69 #[.slice (some ⟨g, o, none⟩) 1 1] w fun e w' => UpIn (upP [stackB]) e ∧ Below w.heap.size w w' := by
 have hRR : Hid (UpIn (upP [stackB]) (.returned (.tuple #[.agg #[.bool false, .int .i64 0], .bool false]))) := .inr ⟨rfl, rfl⟩;obtain ⟨w2, hw2⟩ : ∃ w2, w.alloc (.cells #[.bool false, .int .i64 0] 99) = w2 := ⟨_, rfl⟩;have RB : RowL w2 w.heap.size 99 [.bool false, .int .i64 0] := by rw [← hw2]; exact RowL.new w _ _
 have bw : Below w.heap.size w w2 := by rw [← hw2]; exact (Below.refl _ _).alloc (Nat.le_refl _) _
 obtain ⟨w1, hw1⟩ : ∃ w1, w2.alloc (.cells #[.func (.func 98) #[] #[]] 105) = w1 := ⟨_, rfl⟩;have bA : Below w2.heap.size w2 w1 := by rw [← hw1]; exact (Below.refl _ _).alloc (Nat.le_refl _) _
 have hg2 : g < w2.heap.size := Nat.lt_of_lt_of_le hg bw.size;have d0 : w2.cell? ⟨g, o, none⟩ = some (.string ⟨#[115, 116, 97, 99, 107]⟩) := (bw.cell (p := ⟨g, o, none⟩) hg).trans c0;have bB : Below w.heap.size w w1 := bw.trans (bA.mono bw.size)
 have hcall : Hid (Calls Tryz.prog 116 #[.slice (some ⟨g, o, none⟩) 0 0, .slice (some ⟨w2.heap.size, 0, none⟩) 1 1] w1 fun e w' => e = .returned (.tuple #[.slice none 0 0, .bool false]) ∧ Below w1.heap.size w1 w') :=
  qb7 [] [fitN] (some ⟨g, o, none⟩) (some ⟨w2.heap.size, 0, none⟩) 0 1 w1 (by simp) (by simp) (by simp)
 clear c0;replace hw1 := hidR hw1;replace hw2 := hidR hw2;go_enter Tryz.func69, Tryz.ntmps69;go_upto_region 1 with fail;rw [hw2.out];go_wp2_with fail;rw [hw1.out];refine Calls.mono hcall.out ?_;rintro e y ⟨rfl, b1⟩;have bz := bB.trans (b1.mono bB.size);have bq := bA.trans (b1.mono bA.size);have RBy := RB.call bq;clear hcall b1 hw1 hw2 bA bB d0 RB;have e0 := RBy.cell 0 rfl;have e1 := RBy.cell 1 rfl;have ef := RBy.frozen;have el := RBy.lt;have L := (RBy.set 0 (.bool false)).set 1 (.int .i64 0);have l0 := L.cell 0 rfl;have l1 := L.cell 1 rfl;have bf := Below.setCell (Below.setCell bz (p := ⟨w.heap.size, 0, none⟩) (Nat.le_refl _) (.bool false)) (p := ⟨w.heap.size, 1, none⟩) (Nat.le_refl _) (.int .i64 0);replace L := hidR L;replace RBy := hidR RBy;go_wp2_with fail;exact bodyPost_ret (v := .tuple #[.agg #[.bool false, .int .i64 0], .bool false]) (by simp [results, Tryz.results69, go_sem, l0, l1]) rfl ⟨hRR.out, bf⟩
theorem upIn_cell1 (g o : Nat) (w : World) (c0 : w.cell? ⟨g, o, none⟩ = some (.string cellB)) (hg : g < w.heap.size) :
  Calls Tryz.prog 69 #[.slice (some ⟨g, o, none⟩) 1 1] w fun e w' => UpIn (upP [cellB]) e ∧ Below w.heap.size w w' := by
 have hRR : Hid (UpIn (upP [cellB]) (.returned (.tuple #[.agg #[.bool false, .int .i64 0], .bool false]))) := .inr ⟨rfl, rfl⟩;obtain ⟨w2, hw2⟩ : ∃ w2, w.alloc (.cells #[.bool false, .int .i64 0] 99) = w2 := ⟨_, rfl⟩;have RB : RowL w2 w.heap.size 99 [.bool false, .int .i64 0] := by rw [← hw2]; exact RowL.new w _ _
 have bw : Below w.heap.size w w2 := by rw [← hw2]; exact (Below.refl _ _).alloc (Nat.le_refl _) _
 obtain ⟨w1, hw1⟩ : ∃ w1, w2.alloc (.cells #[.func (.func 98) #[] #[]] 105) = w1 := ⟨_, rfl⟩;have bA : Below w2.heap.size w2 w1 := by rw [← hw1]; exact (Below.refl _ _).alloc (Nat.le_refl _) _
 have hg2 : g < w2.heap.size := Nat.lt_of_lt_of_le hg bw.size;have d0 : w2.cell? ⟨g, o, none⟩ = some (.string ⟨#[99, 101, 108, 108]⟩) := (bw.cell (p := ⟨g, o, none⟩) hg).trans c0;have bB : Below w.heap.size w w1 := bw.trans (bA.mono bw.size)
 have hcall : Hid (Calls Tryz.prog 116 #[.slice (some ⟨g, o, none⟩) 0 0, .slice (some ⟨w2.heap.size, 0, none⟩) 1 1] w1 fun e w' => e = .returned (.tuple #[.slice none 0 0, .bool false]) ∧ Below w1.heap.size w1 w') :=
  qb7 [] [fitN] (some ⟨g, o, none⟩) (some ⟨w2.heap.size, 0, none⟩) 0 1 w1 (by simp) (by simp) (by simp)
 clear c0;replace hw1 := hidR hw1;replace hw2 := hidR hw2;go_enter Tryz.func69, Tryz.ntmps69;go_upto_region 1 with fail;rw [hw2.out];go_wp2_with fail;rw [hw1.out];refine Calls.mono hcall.out ?_;rintro e y ⟨rfl, b1⟩;have bz := bB.trans (b1.mono bB.size);have bq := bA.trans (b1.mono bA.size);have RBy := RB.call bq;clear hcall b1 hw1 hw2 bA bB d0 RB;have e0 := RBy.cell 0 rfl;have e1 := RBy.cell 1 rfl;have ef := RBy.frozen;have el := RBy.lt;have L := (RBy.set 0 (.bool false)).set 1 (.int .i64 0);have l0 := L.cell 0 rfl;have l1 := L.cell 1 rfl;have bf := Below.setCell (Below.setCell bz (p := ⟨w.heap.size, 0, none⟩) (Nat.le_refl _) (.bool false)) (p := ⟨w.heap.size, 1, none⟩) (Nat.le_refl _) (.int .i64 0);replace L := hidR L;replace RBy := hidR RBy;go_wp2_with fail;exact bodyPost_ret (v := .tuple #[.agg #[.bool false, .int .i64 0], .bool false]) (by simp [results, Tryz.results69, go_sem, l0, l1]) rfl ⟨hRR.out, bf⟩
theorem upIn_in (r : List ByteArray) (g o c : Nat) (w : World) (hcap : r.length ≤ c) (ho : o + 1 ≤ 1000) (hN : r.length ≤ 100000)
  (hc : ∀ (j : Nat) x, r[j]? = some x → w.cell? ⟨g, o + j, none⟩ = some (.string x)) (hg : g < w.heap.size) (hz : ∀ x ∈ r, x.size ≤ 100000) (hv : Env w) :
  Calls Tryz.prog 69 #[.slice (some ⟨g, o, none⟩) r.length c] w fun e w' => UpIn (upP r) e ∧ Below w.heap.size w w' := by
 cases r with
 | nil => exact upIn_nil g o c w
 | cons p r =>
  have c0 : w.cell? ⟨g, o, none⟩ = some (.string p) := hc 0 p rfl
  have hc' : ∀ (j : Nat) x, r[j]? = some x → w.cell? ⟨g, o + 1 + j, none⟩ = some (.string x) := fun j x hx => by
   have := hc (j + 1) x hx;rw [show o + 1 + j = o + (j + 1) by omega];exact this
  have hN' : r.length ≤ 100000 := by simp at hN; omega
  have hcap' : r.length + 1 ≤ c := by simpa using hcap
  have hz' : ∀ x ∈ r, x.size ≤ 100000 := fun x hx => hz x (List.mem_cons_of_mem _ hx);by_cases h1 : p = stackB
  ·subst h1;by_cases hc1 : c = 1
   ·subst hc1;obtain rfl : r = [] := List.eq_nil_of_length_eq_zero (by omega);exact upIn_stack1 g o w c0 hg
   ·exact upIn_stack2 r g o c w hcap' (by omega) ho hN' c0 hc' hg hz' hv
  by_cases h2 : p = cellB
  ·subst h2;by_cases hc1 : c = 1
   ·subst hc1;obtain rfl : r = [] := List.eq_nil_of_length_eq_zero (by omega);exact upIn_cell1 g o w c0 hg
   ·exact upIn_cell2 r g o c w hcap' (by omega) ho hN' c0 hc' hg hz' hv
  ·exact upIn_no p r g o c w c0 hg hN' h1 h2
end Go.Proofs.YtplijnfaiofckaaGreatDoor

import Derived.Test.YtckapapejfnojaaGreatDoorUxDV
namespace Go.Proofs.YtckapapejfnojaaGreatDoor
open Go.RowKit
set_option linter.unusedVariables false
set_option linter.unusedSimpArgs false
set_option maxRecDepth 100000
set_option maxHeartbeats 1000000
theorem below_drewN {B : Nat} {a w : World} (h : Below B a w) (n : Nat) : Below B a (w.drewN n) := ⟨h.os, h.tape, h.output, h.size, h.block⟩
theorem us8a : ∀ n, n < 64 → (n = 22 ∨ n = 30 ∨ n = 31) → usC n 8 = .func (.func 84) #[] #[] := by
  rintro n - (rfl | rfl | rfl) <;> rfl
theorem us8b : usC 24 8 = .func (.func 90) #[] #[] := rfl
theorem us8c : ∀ n, n < 64 → n ≠ 22 → n ≠ 30 → n ≠ 31 → n ≠ 24 → usC n 8 = .nilFunc := by
  intro n h1 h2 h3 h4 h5
  refine isNilF_eq ?_
  have : ∀ n, n < 64 → (n = 22 ∨ n = 30 ∨ n = 31 ∨ n = 24 ∨ isNilF (usC n 8) = true) := by decide
  rcases this n h1 with h | h | h | h | h
  · exact absurd h h2
  · exact absurd h h3
  · exact absurd h h4
  · exact absurd h h5
  · exact h
theorem qn57 (w : World) : (binOp .neq 75 .nilFunc .nilFunc).run Tryz.prog w = .ok (.bool false) w := by kernel_rfl
theorem qf57 (w : World) (k : Nat) : (binOp .neq 75 (.func (.func k) #[] #[]) .nilFunc).run Tryz.prog w = .ok (.bool true) w := by kernel_rfl
attribute [local go_sem] qn57 qf57
theorem leaves_nil (w : World) (pb po B uo : Nat) (pc z : Int) (hB : B < w.heap.size) (hu : w.cell? ⟨B, uo + (opW z).toNat * 10 + 8, none⟩ = some .nilFunc) :
    Calls Tryz.prog 99 #[plV pb po B uo pc z] w fun e w' => e = .returned (.int .i64 (-1)) ∧ Below w.heap.size w w' := by
  unfold plV
  go_enter Tryz.func99, Tryz.ntmps99
  go_wp2_with fail
  go_quiet ((fail))
  all_goals go_wp2_with fail
  all_goals go_ret
  all_goals exact ⟨rfl, below_drewN ((Below.refl _ _).alloc (Nat.le_refl _) _) _⟩
theorem leaves_c (w : World) (pb po B uo : Nat) (pc z : Int) (hB : B < w.heap.size) (hu : w.cell? ⟨B, uo + (opW z).toNat * 10 + 8, none⟩ = some (.func (.func 84) #[] #[])) (q : Bool) (hq : (cW z == 511) = q) :
    Calls Tryz.prog 99 #[plV pb po B uo pc z] w fun e w' => e = .returned (.int .i64 (if q = true then aW z else -1)) ∧ Below w.heap.size w w' := by
  unfold plV
  go_enter Tryz.func99, Tryz.ntmps99
  go_wp2_with fail
  have R0 := RowL.new w [.pointer (some ⟨pb, po, none⟩), .pointer (some ⟨B, uo + (opW z).toNat * 10, none⟩), .int .i64 pc, .int .i64 (opW z), .int .i64 (aW z), .int .i64 (bW z), .int .i64 (cW z), .int .i64 (sW z)] 150
  have bw : Below w.heap.size w (w.alloc (.cells #[.pointer (some ⟨pb, po, none⟩), .pointer (some ⟨B, uo + (opW z).toNat * 10, none⟩), .int .i64 pc, .int .i64 (opW z), .int .i64 (aW z), .int .i64 (bW z), .int .i64 (cW z), .int .i64 (sW z)] 150)) := (Below.refl _ _).alloc (Nat.le_refl _) _
  have sx : (w.alloc (.cells #[.pointer (some ⟨pb, po, none⟩), .pointer (some ⟨B, uo + (opW z).toNat * 10, none⟩), .int .i64 pc, .int .i64 (opW z), .int .i64 (aW z), .int .i64 (bW z), .int .i64 (cW z), .int .i64 (sW z)] 150)).heap.size = w.heap.size + 1 := World.size_alloc _ _
  generalize w.alloc (.cells #[.pointer (some ⟨pb, po, none⟩), .pointer (some ⟨B, uo + (opW z).toNat * 10, none⟩), .int .i64 pc, .int .i64 (opW z), .int .i64 (aW z), .int .i64 (bW z), .int .i64 (cW z), .int .i64 (sW z)] 150) = w0 at R0 bw sx ⊢
  have hu0 : w0.cell? ⟨B, uo + (opW z).toNat * 10 + 8, none⟩ = some (.func (.func 84) #[] #[]) := (bw.cell (p := ⟨B, uo + (opW z).toNat * 10 + 8, none⟩) hB).trans hu
  have hk : Hid (∀ y, Below w0.heap.size w0 y → (y.cell? ⟨w.heap.size, 1, none⟩ = some (.pointer (some ⟨B, uo + (opW z).toNat * 10, none⟩)) ∧ y.cell? ⟨w.heap.size, 3, none⟩ = some (.int .i64 (opW z)) ∧ y.cell? ⟨w.heap.size, 4, none⟩ = some (.int .i64 (aW z)) ∧ y.cell? ⟨w.heap.size, 5, none⟩ = some (.int .i64 (bW z)) ∧ y.cell? ⟨w.heap.size, 6, none⟩ = some (.int .i64 (cW z)) ∧ y.cell? ⟨w.heap.size, 7, none⟩ = some (.int .i64 (sW z)) ∧ y.cell? ⟨B, uo + (opW z).toNat * 10 + 8, none⟩ = some (.func (.func 84) #[] #[]))) := fun y hy =>
    ⟨(R0.call hy).cell 1 rfl, (R0.call hy).cell 3 rfl, (R0.call hy).cell 4 rfl, (R0.call hy).cell 5 rfl, (R0.call hy).cell 6 rfl, (R0.call hy).cell 7 rfl, (hy.cell (p := ⟨B, uo + (opW z).toNat * 10 + 8, none⟩) (by show B < w0.heap.size; omega)).trans hu0⟩
  have hc : Hid (∀ y, Below w0.heap.size w0 y → Calls Tryz.prog 84 #[insV (opW z) (aW z) (bW z) (cW z) (sW z)] y fun e w' => e = .returned (.bool q) ∧ Below w0.heap.size w0 w') := fun y hy =>
    (opensByC_in (opW z) (aW z) (bW z) (cW z) (sW z) y).mono fun e w' ⟨he, hb⟩ => ⟨by rw [he, hq], hy.trans (hb.mono hy.size)⟩
  have hb9 : Hid (Below w.heap.size w w0) := bw
  replace hq : Hid _ := hq
  clear R0 hu0 hu bw
  go_region_held3 (fun y => y.cell? ⟨w.heap.size, 1, none⟩ = some (.pointer (some ⟨B, uo + (opW z).toNat * 10, none⟩)) ∧ y.cell? ⟨w.heap.size, 3, none⟩ = some (.int .i64 (opW z)) ∧ y.cell? ⟨w.heap.size, 4, none⟩ = some (.int .i64 (aW z)) ∧ y.cell? ⟨w.heap.size, 5, none⟩ = some (.int .i64 (bW z)) ∧ y.cell? ⟨w.heap.size, 6, none⟩ = some (.int .i64 (cW z)) ∧ y.cell? ⟨w.heap.size, 7, none⟩ = some (.int .i64 (sW z)) ∧ y.cell? ⟨B, uo + (opW z).toNat * 10 + 8, none⟩ = some (.func (.func 84) #[] #[])) (first | exact hk.out _ (Below.refl _ _).drew | assumption)
    (first | (go_at_call 84; refine (hc.out _ (Below.refl _ _).drew).mono ?_; rintro e y ⟨rfl, hy⟩; have hy9 := hk.out y hy))
  have hf := hb9.out.trans (hy.mono hb9.out.size)
  cases q with
  | true =>
    go_wp2_with fail
    go_ret
    exact ⟨rfl, hf⟩
  | false =>
    go_wp2_with fail
    go_ret
    exact ⟨rfl, hf⟩
theorem leaves_b (w : World) (pb po B uo : Nat) (pc z : Int) (hB : B < w.heap.size) (hu : w.cell? ⟨B, uo + (opW z).toNat * 10 + 8, none⟩ = some (.func (.func 90) #[] #[])) (q : Bool) (hq : (bW z == 511) = q) :
    Calls Tryz.prog 99 #[plV pb po B uo pc z] w fun e w' => e = .returned (.int .i64 (if q = true then aW z else -1)) ∧ Below w.heap.size w w' := by
  unfold plV
  go_enter Tryz.func99, Tryz.ntmps99
  go_wp2_with fail
  have R0 := RowL.new w [.pointer (some ⟨pb, po, none⟩), .pointer (some ⟨B, uo + (opW z).toNat * 10, none⟩), .int .i64 pc, .int .i64 (opW z), .int .i64 (aW z), .int .i64 (bW z), .int .i64 (cW z), .int .i64 (sW z)] 150
  have bw : Below w.heap.size w (w.alloc (.cells #[.pointer (some ⟨pb, po, none⟩), .pointer (some ⟨B, uo + (opW z).toNat * 10, none⟩), .int .i64 pc, .int .i64 (opW z), .int .i64 (aW z), .int .i64 (bW z), .int .i64 (cW z), .int .i64 (sW z)] 150)) := (Below.refl _ _).alloc (Nat.le_refl _) _
  have sx : (w.alloc (.cells #[.pointer (some ⟨pb, po, none⟩), .pointer (some ⟨B, uo + (opW z).toNat * 10, none⟩), .int .i64 pc, .int .i64 (opW z), .int .i64 (aW z), .int .i64 (bW z), .int .i64 (cW z), .int .i64 (sW z)] 150)).heap.size = w.heap.size + 1 := World.size_alloc _ _
  generalize w.alloc (.cells #[.pointer (some ⟨pb, po, none⟩), .pointer (some ⟨B, uo + (opW z).toNat * 10, none⟩), .int .i64 pc, .int .i64 (opW z), .int .i64 (aW z), .int .i64 (bW z), .int .i64 (cW z), .int .i64 (sW z)] 150) = w0 at R0 bw sx ⊢
  have hu0 : w0.cell? ⟨B, uo + (opW z).toNat * 10 + 8, none⟩ = some (.func (.func 90) #[] #[]) := (bw.cell (p := ⟨B, uo + (opW z).toNat * 10 + 8, none⟩) hB).trans hu
  have hk : Hid (∀ y, Below w0.heap.size w0 y → (y.cell? ⟨w.heap.size, 1, none⟩ = some (.pointer (some ⟨B, uo + (opW z).toNat * 10, none⟩)) ∧ y.cell? ⟨w.heap.size, 3, none⟩ = some (.int .i64 (opW z)) ∧ y.cell? ⟨w.heap.size, 4, none⟩ = some (.int .i64 (aW z)) ∧ y.cell? ⟨w.heap.size, 5, none⟩ = some (.int .i64 (bW z)) ∧ y.cell? ⟨w.heap.size, 6, none⟩ = some (.int .i64 (cW z)) ∧ y.cell? ⟨w.heap.size, 7, none⟩ = some (.int .i64 (sW z)) ∧ y.cell? ⟨B, uo + (opW z).toNat * 10 + 8, none⟩ = some (.func (.func 90) #[] #[]))) := fun y hy =>
    ⟨(R0.call hy).cell 1 rfl, (R0.call hy).cell 3 rfl, (R0.call hy).cell 4 rfl, (R0.call hy).cell 5 rfl, (R0.call hy).cell 6 rfl, (R0.call hy).cell 7 rfl, (hy.cell (p := ⟨B, uo + (opW z).toNat * 10 + 8, none⟩) (by show B < w0.heap.size; omega)).trans hu0⟩
  have hc : Hid (∀ y, Below w0.heap.size w0 y → Calls Tryz.prog 90 #[insV (opW z) (aW z) (bW z) (cW z) (sW z)] y fun e w' => e = .returned (.bool q) ∧ Below w0.heap.size w0 w') := fun y hy =>
    (opensByB_in (opW z) (aW z) (bW z) (cW z) (sW z) y).mono fun e w' ⟨he, hb⟩ => ⟨by rw [he, hq], hy.trans (hb.mono hy.size)⟩
  have hb9 : Hid (Below w.heap.size w w0) := bw
  replace hq : Hid _ := hq
  clear R0 hu0 hu bw
  go_region_held3 (fun y => y.cell? ⟨w.heap.size, 1, none⟩ = some (.pointer (some ⟨B, uo + (opW z).toNat * 10, none⟩)) ∧ y.cell? ⟨w.heap.size, 3, none⟩ = some (.int .i64 (opW z)) ∧ y.cell? ⟨w.heap.size, 4, none⟩ = some (.int .i64 (aW z)) ∧ y.cell? ⟨w.heap.size, 5, none⟩ = some (.int .i64 (bW z)) ∧ y.cell? ⟨w.heap.size, 6, none⟩ = some (.int .i64 (cW z)) ∧ y.cell? ⟨w.heap.size, 7, none⟩ = some (.int .i64 (sW z)) ∧ y.cell? ⟨B, uo + (opW z).toNat * 10 + 8, none⟩ = some (.func (.func 90) #[] #[])) (first | exact hk.out _ (Below.refl _ _).drew | assumption)
    (first | (go_at_call 90; refine (hc.out _ (Below.refl _ _).drew).mono ?_; rintro e y ⟨rfl, hy⟩; have hy9 := hk.out y hy))
  have hf := hb9.out.trans (hy.mono hb9.out.size)
  cases q with
  | true =>
    go_wp2_with fail
    go_ret
    exact ⟨rfl, hf⟩
  | false =>
    go_wp2_with fail
    go_ret
    exact ⟨rfl, hf⟩
/-- how a place that follows is come to. -/
theorem leaves_in (w : World) (pb po B uo : Nat) (pc z : Int) (hU : UsO w B uo) (hB : B < w.heap.size) (hz1 : 0 ≤ z) (hz2 : z ≤ 4294967295) :
    Calls Tryz.prog 99 #[plV pb po B uo pc z] w fun e w' => e = .returned (.int .i64 (wayW z)) ∧ Below w.heap.size w w' := by
  have o1 : 0 ≤ opW z := by unfold opW; omega
  have o2 : opW z < 64 := by unfold opW; omega
  have hu := hU.at o1 o2 8 (by omega)
  by_cases c1 : opW z = 22 ∨ opW z = 30 ∨ opW z = 31
  · rw [us8a _ (by omega) (by omega)] at hu
    refine (leaves_c w pb po B uo pc z hB hu _ rfl).mono fun e w' ⟨he, hb⟩ => ⟨?_, hb⟩
    rw [he]
    unfold wayW
    by_cases c : cW z = 511
    · rw [if_pos (by simp [c]), if_pos ⟨c1, c⟩]
    · rw [if_neg (by simp [c]), if_neg (fun h => c h.2), if_neg (fun h => by omega)]
  · by_cases c2 : opW z = 24
    · rw [show (opW z).toNat = 24 by omega, us8b, ← show (opW z).toNat = 24 by omega] at hu
      refine (leaves_b w pb po B uo pc z hB hu _ rfl).mono fun e w' ⟨he, hb⟩ => ⟨?_, hb⟩
      rw [he]
      unfold wayW
      by_cases c : bW z = 511
      · rw [if_pos (by simp [c]), if_neg (fun h => c1 h.1), if_pos ⟨c2, c⟩]
      · rw [if_neg (by simp [c]), if_neg (fun h => c1 h.1), if_neg (fun h => c h.2)]
    · rw [us8c _ (by omega) (by omega) (by omega) (by omega) (by omega)] at hu
      refine (leaves_nil w pb po B uo pc z hB hu).mono fun e w' ⟨he, hb⟩ => ⟨?_, hb⟩
      rw [he]
      unfold wayW
      rw [if_neg (fun h => c1 h.1), if_neg (fun h => c2 h.1)]
theorem inCode_in (w : World) (pb po B uo : Nat) (pc z : Int) (p : PD) (a3 a4 a5 : Value) (hP : PtrP w pb po p a3 a4 a5) (x : Int) (hn : p.code.n ≤ 2000) (hn0 : 0 < p.code.n) (q : Bool) (hq : q = decide (0 ≤ x ∧ x < (p.code.n : Int))) :
    Calls Tryz.prog 97 #[plV pb po B uo pc z, .int .i64 x] w fun e w' => e = .returned (.bool q) ∧ Below w.heap.size w w' := by
  obtain ⟨b, o, cap, rfl, hb, hc⟩ := hP.word hn0
  have c3 := hP.c3
  have lt := hP.lt
  replace hP : Hid _ := hP
  clear hc
  unfold plV
  by_cases h0 : 0 ≤ x
  · by_cases h1 : x ≤ (p.code.n : Int) - 1
    · have : q = true := by rw [hq]; simp; omega
      subst this
      clear hq
      go_enter Tryz.func97, Tryz.ntmps97
      go_wp2
      go_ret
      exact ⟨rfl, by go_grown⟩
    · have : q = false := by rw [hq]; simp; omega
      subst this
      clear hq
      go_enter Tryz.func97, Tryz.ntmps97
      go_wp2
      go_ret
      exact ⟨rfl, by go_grown⟩
  · have : q = false := by rw [hq]; simp; omega
    subst this
    clear hq
    go_enter Tryz.func97, Tryz.ntmps97
    go_wp2
    go_ret
    exact ⟨rfl, by go_grown⟩
end Go.Proofs.YtckapapejfnojaaGreatDoor

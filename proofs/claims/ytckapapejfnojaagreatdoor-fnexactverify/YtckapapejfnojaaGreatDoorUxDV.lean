import Derived.Test.YtckapapejfnojaaGreatDoorGBV
import Derived.Laws.EntriesVeiled
namespace Go.Proofs.YtckapapejfnojaaGreatDoor
open Go.RowKit
set_option linter.unusedVariables false
set_option linter.unusedSimpArgs false
set_option maxRecDepth 100000
set_option maxHeartbeats 1000000
theorem us6a : ∀ n, n < 64 → (n = 23 ∨ n = 33) → usC n 6 = .func (.func 88) #[] #[] := by
  rintro n - (rfl | rfl) <;> rfl
theorem us6b : usC 18 6 = .func (.func 86) #[] #[] := rfl
theorem us6c : ∀ n, n < 64 → (n = 27 ∨ n = 28) → usC n 6 = .func (.func 92) #[] #[] := by
  rintro n - (rfl | rfl) <;> rfl
theorem us6d : ∀ n, n < 64 → (n = 19 ∨ n = 20 ∨ n = 21) → usC n 6 = .func (.func 80) #[] #[] := by
  rintro n - (rfl | rfl | rfl) <;> rfl
theorem us6e : ∀ n, n < 64 → n ≠ 23 → n ≠ 33 → n ≠ 18 → n ≠ 27 → n ≠ 28 → n ≠ 19 → n ≠ 20 → n ≠ 21 → usC n 6 = .nilFunc := by
  intro n h1 h2 h3 h4 h5 h6 h7 h8 h9
  refine isNilF_eq ?_
  have : ∀ n, n < 64 → (n = 23 ∨ n = 33 ∨ n = 18 ∨ n = 27 ∨ n = 28 ∨ n = 19 ∨ n = 20 ∨ n = 21 ∨ isNilF (usC n 6) = true) := by decide
  rcases this n h1 with h | h | h | h | h | h | h | h | h
  · exact absurd h h2
  · exact absurd h h3
  · exact absurd h h4
  · exact absurd h h5
  · exact absurd h h6
  · exact absurd h h7
  · exact absurd h h8
  · exact absurd h h9
  · exact h
theorem qn55 (w : World) : (binOp .eql 73 .nilFunc .nilFunc).run Tryz.prog w = .ok (.bool true) w := by kernel_rfl
theorem qf55 (w : World) (k : Nat) : (binOp .eql 73 (.func (.func k) #[] #[]) .nilFunc).run Tryz.prog w = .ok (.bool false) w := by kernel_rfl
attribute [local go_sem] qn55 qf55
theorem next_any (w : World) (pb po B uo : Nat) (pc z : Int) (hB : B < w.heap.size) (h1 : 0 ≤ pc) (h2 : pc ≤ 100000) (hu : w.cell? ⟨B, uo + (opW z).toNat * 10 + 6, none⟩ = some .nilFunc) :
    Calls Tryz.prog 96 #[plV pb po B uo pc z] w fun e w' => ∃ u, e = .returned u ∧ Below w.heap.size w w' ∧ IsInts .i64 (fun b => w.heap.size ≤ b ∧ b < w'.heap.size) w' u (slI [pc + 1]) := by
  have hb0 : Below w.heap.size w (w.alloc (.cells #[.pointer (some ⟨pb, po, none⟩), .pointer (some ⟨B, uo + (opW z).toNat * 10, none⟩), .int .i64 pc, .int .i64 (opW z), .int .i64 (aW z), .int .i64 (bW z), .int .i64 (cW z), .int .i64 (sW z)] 150)) := (Below.refl _ _).alloc (Nat.le_refl _) _
  have h := built_ints hb0 [pc + 1] (by simp)
  rw [show (w.alloc (.cells #[.pointer (some ⟨pb, po, none⟩), .pointer (some ⟨B, uo + (opW z).toNat * 10, none⟩), .int .i64 pc, .int .i64 (opW z), .int .i64 (aW z), .int .i64 (bW z), .int .i64 (cW z), .int .i64 (sW z)] 150)).heap.size = w.heap.size + 1 from World.size_alloc _ _] at h
  replace hb0 : Hid _ := hb0
  replace h : Hid _ := h
  unfold plV
  go_enter Tryz.func96, Tryz.ntmps96
  go_wp2_with fail
  go_ret
  exact ⟨_, rfl, h.out.1, h.out.2⟩
theorem next_sk (w : World) (pb po B uo : Nat) (pc z : Int) (hB : B < w.heap.size) (h1 : 0 ≤ pc) (h2 : pc ≤ 100000) (hz1 : 0 ≤ z) (hz2 : z ≤ 4294967295) (hu : w.cell? ⟨B, uo + (opW z).toNat * 10 + 6, none⟩ = some (.func (.func 80) #[] #[])) :
    Calls Tryz.prog 96 #[plV pb po B uo pc z] w fun e w' => ∃ u, e = .returned u ∧ Below w.heap.size w w' ∧ IsInts .i64 (fun b => w.heap.size ≤ b ∧ b < w'.heap.size) w' u (slI [pc + 1, pc + 2]) := by
  have s1 : -1000000 ≤ sW z := by unfold sW bW cW; omega
  have s2 : sW z ≤ 1000000 := by unfold sW bW cW; omega
  unfold plV
  go_enter Tryz.func96, Tryz.ntmps96
  go_wp2_with fail
  have R0 := RowL.new w [.pointer (some ⟨pb, po, none⟩), .pointer (some ⟨B, uo + (opW z).toNat * 10, none⟩), .int .i64 pc, .int .i64 (opW z), .int .i64 (aW z), .int .i64 (bW z), .int .i64 (cW z), .int .i64 (sW z)] 150
  have bw : Below w.heap.size w (w.alloc (.cells #[.pointer (some ⟨pb, po, none⟩), .pointer (some ⟨B, uo + (opW z).toNat * 10, none⟩), .int .i64 pc, .int .i64 (opW z), .int .i64 (aW z), .int .i64 (bW z), .int .i64 (cW z), .int .i64 (sW z)] 150)) := (Below.refl _ _).alloc (Nat.le_refl _) _
  have sx : (w.alloc (.cells #[.pointer (some ⟨pb, po, none⟩), .pointer (some ⟨B, uo + (opW z).toNat * 10, none⟩), .int .i64 pc, .int .i64 (opW z), .int .i64 (aW z), .int .i64 (bW z), .int .i64 (cW z), .int .i64 (sW z)] 150)).heap.size = w.heap.size + 1 := World.size_alloc _ _
  generalize w.alloc (.cells #[.pointer (some ⟨pb, po, none⟩), .pointer (some ⟨B, uo + (opW z).toNat * 10, none⟩), .int .i64 pc, .int .i64 (opW z), .int .i64 (aW z), .int .i64 (bW z), .int .i64 (cW z), .int .i64 (sW z)] 150) = w0 at R0 bw sx ⊢
  have hu0 : w0.cell? ⟨B, uo + (opW z).toNat * 10 + 6, none⟩ = some (.func (.func 80) #[] #[]) := (bw.cell (p := ⟨B, uo + (opW z).toNat * 10 + 6, none⟩) hB).trans hu
  have hk : Hid (∀ y, Below w0.heap.size w0 y → (y.cell? ⟨w.heap.size, 1, none⟩ = some (.pointer (some ⟨B, uo + (opW z).toNat * 10, none⟩)) ∧ y.cell? ⟨w.heap.size, 2, none⟩ = some (.int .i64 pc) ∧ y.cell? ⟨w.heap.size, 3, none⟩ = some (.int .i64 (opW z)) ∧ y.cell? ⟨w.heap.size, 4, none⟩ = some (.int .i64 (aW z)) ∧ y.cell? ⟨w.heap.size, 5, none⟩ = some (.int .i64 (bW z)) ∧ y.cell? ⟨w.heap.size, 6, none⟩ = some (.int .i64 (cW z)) ∧ y.cell? ⟨w.heap.size, 7, none⟩ = some (.int .i64 (sW z)) ∧ y.cell? ⟨B, uo + (opW z).toNat * 10 + 6, none⟩ = some (.func (.func 80) #[] #[]))) := fun y hy =>
    ⟨(R0.call hy).cell 1 rfl, (R0.call hy).cell 2 rfl, (R0.call hy).cell 3 rfl, (R0.call hy).cell 4 rfl, (R0.call hy).cell 5 rfl, (R0.call hy).cell 6 rfl, (R0.call hy).cell 7 rfl, (hy.cell (p := ⟨B, uo + (opW z).toNat * 10 + 6, none⟩) (by show B < w0.heap.size; omega)).trans hu0⟩
  have hc : Hid (∀ y, Below w0.heap.size w0 y → Calls Tryz.prog 80 #[.int .i64 pc, insV (opW z) (aW z) (bW z) (cW z) (sW z)] y fun e w' => (∃ u, e = .returned u ∧ IsInts .i64 (fun b => w.heap.size ≤ b ∧ b < w'.heap.size) w' u (slI [pc + 1, pc + 2])) ∧ Below w0.heap.size w0 w') := fun y hy =>
    (nextOrSkip_in pc (opW z) (aW z) (bW z) (cW z) (sW z) y h1 h2).mono fun e w' H => by
      obtain ⟨u, he, hb, hi⟩ := H
      have := hy.size
      exact ⟨⟨u, he, IsArr.mono hi fun b hb => ⟨by omega, hb.2⟩⟩, hy.trans (hb.mono hy.size)⟩
  have hb9 : Hid (Below w.heap.size w w0) := bw
  clear R0 hu0 hu bw
  go_region_held3 (fun y => y.cell? ⟨w.heap.size, 1, none⟩ = some (.pointer (some ⟨B, uo + (opW z).toNat * 10, none⟩)) ∧ y.cell? ⟨w.heap.size, 2, none⟩ = some (.int .i64 pc) ∧ y.cell? ⟨w.heap.size, 3, none⟩ = some (.int .i64 (opW z)) ∧ y.cell? ⟨w.heap.size, 4, none⟩ = some (.int .i64 (aW z)) ∧ y.cell? ⟨w.heap.size, 5, none⟩ = some (.int .i64 (bW z)) ∧ y.cell? ⟨w.heap.size, 6, none⟩ = some (.int .i64 (cW z)) ∧ y.cell? ⟨w.heap.size, 7, none⟩ = some (.int .i64 (sW z)) ∧ y.cell? ⟨B, uo + (opW z).toNat * 10 + 6, none⟩ = some (.func (.func 80) #[] #[])) (first | exact hk.out _ (Below.refl _ _).drew | assumption)
    (first | (go_at_call 80; refine (hc.out _ (Below.refl _ _).drew).mono ?_; rintro e y ⟨⟨u, rfl, hu⟩, hy⟩; have hy9 := hk.out y hy))
  go_wp2_with fail
  go_ret
  exact ⟨_, rfl, hb9.out.trans (hy.mono hb9.out.size), hu⟩
theorem next_ta (w : World) (pb po B uo : Nat) (pc z : Int) (hB : B < w.heap.size) (h1 : 0 ≤ pc) (h2 : pc ≤ 100000) (hz1 : 0 ≤ z) (hz2 : z ≤ 4294967295) (hu : w.cell? ⟨B, uo + (opW z).toNat * 10 + 6, none⟩ = some (.func (.func 86) #[] #[])) :
    Calls Tryz.prog 96 #[plV pb po B uo pc z] w fun e w' => ∃ u, e = .returned u ∧ Below w.heap.size w w' ∧ IsInts .i64 (fun b => w.heap.size ≤ b ∧ b < w'.heap.size) w' u (slI [pc + 1 + sW z]) := by
  have s1 : -1000000 ≤ sW z := by unfold sW bW cW; omega
  have s2 : sW z ≤ 1000000 := by unfold sW bW cW; omega
  unfold plV
  go_enter Tryz.func96, Tryz.ntmps96
  go_wp2_with fail
  have R0 := RowL.new w [.pointer (some ⟨pb, po, none⟩), .pointer (some ⟨B, uo + (opW z).toNat * 10, none⟩), .int .i64 pc, .int .i64 (opW z), .int .i64 (aW z), .int .i64 (bW z), .int .i64 (cW z), .int .i64 (sW z)] 150
  have bw : Below w.heap.size w (w.alloc (.cells #[.pointer (some ⟨pb, po, none⟩), .pointer (some ⟨B, uo + (opW z).toNat * 10, none⟩), .int .i64 pc, .int .i64 (opW z), .int .i64 (aW z), .int .i64 (bW z), .int .i64 (cW z), .int .i64 (sW z)] 150)) := (Below.refl _ _).alloc (Nat.le_refl _) _
  have sx : (w.alloc (.cells #[.pointer (some ⟨pb, po, none⟩), .pointer (some ⟨B, uo + (opW z).toNat * 10, none⟩), .int .i64 pc, .int .i64 (opW z), .int .i64 (aW z), .int .i64 (bW z), .int .i64 (cW z), .int .i64 (sW z)] 150)).heap.size = w.heap.size + 1 := World.size_alloc _ _
  generalize w.alloc (.cells #[.pointer (some ⟨pb, po, none⟩), .pointer (some ⟨B, uo + (opW z).toNat * 10, none⟩), .int .i64 pc, .int .i64 (opW z), .int .i64 (aW z), .int .i64 (bW z), .int .i64 (cW z), .int .i64 (sW z)] 150) = w0 at R0 bw sx ⊢
  have hu0 : w0.cell? ⟨B, uo + (opW z).toNat * 10 + 6, none⟩ = some (.func (.func 86) #[] #[]) := (bw.cell (p := ⟨B, uo + (opW z).toNat * 10 + 6, none⟩) hB).trans hu
  have hk : Hid (∀ y, Below w0.heap.size w0 y → (y.cell? ⟨w.heap.size, 1, none⟩ = some (.pointer (some ⟨B, uo + (opW z).toNat * 10, none⟩)) ∧ y.cell? ⟨w.heap.size, 2, none⟩ = some (.int .i64 pc) ∧ y.cell? ⟨w.heap.size, 3, none⟩ = some (.int .i64 (opW z)) ∧ y.cell? ⟨w.heap.size, 4, none⟩ = some (.int .i64 (aW z)) ∧ y.cell? ⟨w.heap.size, 5, none⟩ = some (.int .i64 (bW z)) ∧ y.cell? ⟨w.heap.size, 6, none⟩ = some (.int .i64 (cW z)) ∧ y.cell? ⟨w.heap.size, 7, none⟩ = some (.int .i64 (sW z)) ∧ y.cell? ⟨B, uo + (opW z).toNat * 10 + 6, none⟩ = some (.func (.func 86) #[] #[]))) := fun y hy =>
    ⟨(R0.call hy).cell 1 rfl, (R0.call hy).cell 2 rfl, (R0.call hy).cell 3 rfl, (R0.call hy).cell 4 rfl, (R0.call hy).cell 5 rfl, (R0.call hy).cell 6 rfl, (R0.call hy).cell 7 rfl, (hy.cell (p := ⟨B, uo + (opW z).toNat * 10 + 6, none⟩) (by show B < w0.heap.size; omega)).trans hu0⟩
  have hc : Hid (∀ y, Below w0.heap.size w0 y → Calls Tryz.prog 86 #[.int .i64 pc, insV (opW z) (aW z) (bW z) (cW z) (sW z)] y fun e w' => (∃ u, e = .returned u ∧ IsInts .i64 (fun b => w.heap.size ≤ b ∧ b < w'.heap.size) w' u (slI [pc + 1 + sW z])) ∧ Below w0.heap.size w0 w') := fun y hy =>
    (targetAlone_in pc (opW z) (aW z) (bW z) (cW z) (sW z) y h1 h2 s1 s2).mono fun e w' H => by
      obtain ⟨u, he, hb, hi⟩ := H
      have := hy.size
      exact ⟨⟨u, he, IsArr.mono hi fun b hb => ⟨by omega, hb.2⟩⟩, hy.trans (hb.mono hy.size)⟩
  have hb9 : Hid (Below w.heap.size w w0) := bw
  clear R0 hu0 hu bw
  go_region_held3 (fun y => y.cell? ⟨w.heap.size, 1, none⟩ = some (.pointer (some ⟨B, uo + (opW z).toNat * 10, none⟩)) ∧ y.cell? ⟨w.heap.size, 2, none⟩ = some (.int .i64 pc) ∧ y.cell? ⟨w.heap.size, 3, none⟩ = some (.int .i64 (opW z)) ∧ y.cell? ⟨w.heap.size, 4, none⟩ = some (.int .i64 (aW z)) ∧ y.cell? ⟨w.heap.size, 5, none⟩ = some (.int .i64 (bW z)) ∧ y.cell? ⟨w.heap.size, 6, none⟩ = some (.int .i64 (cW z)) ∧ y.cell? ⟨w.heap.size, 7, none⟩ = some (.int .i64 (sW z)) ∧ y.cell? ⟨B, uo + (opW z).toNat * 10 + 6, none⟩ = some (.func (.func 86) #[] #[])) (first | exact hk.out _ (Below.refl _ _).drew | assumption)
    (first | (go_at_call 86; refine (hc.out _ (Below.refl _ _).drew).mono ?_; rintro e y ⟨⟨u, rfl, hu⟩, hy⟩; have hy9 := hk.out y hy))
  go_wp2_with fail
  go_ret
  exact ⟨_, rfl, hb9.out.trans (hy.mono hb9.out.size), hu⟩
theorem next_nt (w : World) (pb po B uo : Nat) (pc z : Int) (hB : B < w.heap.size) (h1 : 0 ≤ pc) (h2 : pc ≤ 100000) (hz1 : 0 ≤ z) (hz2 : z ≤ 4294967295) (hu : w.cell? ⟨B, uo + (opW z).toNat * 10 + 6, none⟩ = some (.func (.func 92) #[] #[])) :
    Calls Tryz.prog 96 #[plV pb po B uo pc z] w fun e w' => ∃ u, e = .returned u ∧ Below w.heap.size w w' ∧ IsInts .i64 (fun b => w.heap.size ≤ b ∧ b < w'.heap.size) w' u (slI [pc + 1, pc + 1 + sW z]) := by
  have s1 : -1000000 ≤ sW z := by unfold sW bW cW; omega
  have s2 : sW z ≤ 1000000 := by unfold sW bW cW; omega
  unfold plV
  go_enter Tryz.func96, Tryz.ntmps96
  go_wp2_with fail
  have R0 := RowL.new w [.pointer (some ⟨pb, po, none⟩), .pointer (some ⟨B, uo + (opW z).toNat * 10, none⟩), .int .i64 pc, .int .i64 (opW z), .int .i64 (aW z), .int .i64 (bW z), .int .i64 (cW z), .int .i64 (sW z)] 150
  have bw : Below w.heap.size w (w.alloc (.cells #[.pointer (some ⟨pb, po, none⟩), .pointer (some ⟨B, uo + (opW z).toNat * 10, none⟩), .int .i64 pc, .int .i64 (opW z), .int .i64 (aW z), .int .i64 (bW z), .int .i64 (cW z), .int .i64 (sW z)] 150)) := (Below.refl _ _).alloc (Nat.le_refl _) _
  have sx : (w.alloc (.cells #[.pointer (some ⟨pb, po, none⟩), .pointer (some ⟨B, uo + (opW z).toNat * 10, none⟩), .int .i64 pc, .int .i64 (opW z), .int .i64 (aW z), .int .i64 (bW z), .int .i64 (cW z), .int .i64 (sW z)] 150)).heap.size = w.heap.size + 1 := World.size_alloc _ _
  generalize w.alloc (.cells #[.pointer (some ⟨pb, po, none⟩), .pointer (some ⟨B, uo + (opW z).toNat * 10, none⟩), .int .i64 pc, .int .i64 (opW z), .int .i64 (aW z), .int .i64 (bW z), .int .i64 (cW z), .int .i64 (sW z)] 150) = w0 at R0 bw sx ⊢
  have hu0 : w0.cell? ⟨B, uo + (opW z).toNat * 10 + 6, none⟩ = some (.func (.func 92) #[] #[]) := (bw.cell (p := ⟨B, uo + (opW z).toNat * 10 + 6, none⟩) hB).trans hu
  have hk : Hid (∀ y, Below w0.heap.size w0 y → (y.cell? ⟨w.heap.size, 1, none⟩ = some (.pointer (some ⟨B, uo + (opW z).toNat * 10, none⟩)) ∧ y.cell? ⟨w.heap.size, 2, none⟩ = some (.int .i64 pc) ∧ y.cell? ⟨w.heap.size, 3, none⟩ = some (.int .i64 (opW z)) ∧ y.cell? ⟨w.heap.size, 4, none⟩ = some (.int .i64 (aW z)) ∧ y.cell? ⟨w.heap.size, 5, none⟩ = some (.int .i64 (bW z)) ∧ y.cell? ⟨w.heap.size, 6, none⟩ = some (.int .i64 (cW z)) ∧ y.cell? ⟨w.heap.size, 7, none⟩ = some (.int .i64 (sW z)) ∧ y.cell? ⟨B, uo + (opW z).toNat * 10 + 6, none⟩ = some (.func (.func 92) #[] #[]))) := fun y hy =>
    ⟨(R0.call hy).cell 1 rfl, (R0.call hy).cell 2 rfl, (R0.call hy).cell 3 rfl, (R0.call hy).cell 4 rfl, (R0.call hy).cell 5 rfl, (R0.call hy).cell 6 rfl, (R0.call hy).cell 7 rfl, (hy.cell (p := ⟨B, uo + (opW z).toNat * 10 + 6, none⟩) (by show B < w0.heap.size; omega)).trans hu0⟩
  have hc : Hid (∀ y, Below w0.heap.size w0 y → Calls Tryz.prog 92 #[.int .i64 pc, insV (opW z) (aW z) (bW z) (cW z) (sW z)] y fun e w' => (∃ u, e = .returned u ∧ IsInts .i64 (fun b => w.heap.size ≤ b ∧ b < w'.heap.size) w' u (slI [pc + 1, pc + 1 + sW z])) ∧ Below w0.heap.size w0 w') := fun y hy =>
    (nextOrTarget_in pc (opW z) (aW z) (bW z) (cW z) (sW z) y h1 h2 s1 s2).mono fun e w' H => by
      obtain ⟨u, he, hb, hi⟩ := H
      have := hy.size
      exact ⟨⟨u, he, IsArr.mono hi fun b hb => ⟨by omega, hb.2⟩⟩, hy.trans (hb.mono hy.size)⟩
  have hb9 : Hid (Below w.heap.size w w0) := bw
  clear R0 hu0 hu bw
  go_region_held3 (fun y => y.cell? ⟨w.heap.size, 1, none⟩ = some (.pointer (some ⟨B, uo + (opW z).toNat * 10, none⟩)) ∧ y.cell? ⟨w.heap.size, 2, none⟩ = some (.int .i64 pc) ∧ y.cell? ⟨w.heap.size, 3, none⟩ = some (.int .i64 (opW z)) ∧ y.cell? ⟨w.heap.size, 4, none⟩ = some (.int .i64 (aW z)) ∧ y.cell? ⟨w.heap.size, 5, none⟩ = some (.int .i64 (bW z)) ∧ y.cell? ⟨w.heap.size, 6, none⟩ = some (.int .i64 (cW z)) ∧ y.cell? ⟨w.heap.size, 7, none⟩ = some (.int .i64 (sW z)) ∧ y.cell? ⟨B, uo + (opW z).toNat * 10 + 6, none⟩ = some (.func (.func 92) #[] #[])) (first | exact hk.out _ (Below.refl _ _).drew | assumption)
    (first | (go_at_call 92; refine (hc.out _ (Below.refl _ _).drew).mono ?_; rintro e y ⟨⟨u, rfl, hu⟩, hy⟩; have hy9 := hk.out y hy))
  go_wp2_with fail
  go_ret
  exact ⟨_, rfl, hb9.out.trans (hy.mono hb9.out.size), hu⟩
theorem next_no (w : World) (pb po B uo : Nat) (pc z : Int) (hB : B < w.heap.size) (h1 : 0 ≤ pc) (h2 : pc ≤ 100000) (hz1 : 0 ≤ z) (hz2 : z ≤ 4294967295) (hu : w.cell? ⟨B, uo + (opW z).toNat * 10 + 6, none⟩ = some (.func (.func 88) #[] #[])) :
    Calls Tryz.prog 96 #[plV pb po B uo pc z] w fun e w' => ∃ u, e = .returned u ∧ Below w.heap.size w w' ∧ IsInts .i64 (fun b => w.heap.size ≤ b ∧ b < w'.heap.size) w' u (slI []) := by
  have s1 : -1000000 ≤ sW z := by unfold sW bW cW; omega
  have s2 : sW z ≤ 1000000 := by unfold sW bW cW; omega
  unfold plV
  go_enter Tryz.func96, Tryz.ntmps96
  go_wp2_with fail
  have R0 := RowL.new w [.pointer (some ⟨pb, po, none⟩), .pointer (some ⟨B, uo + (opW z).toNat * 10, none⟩), .int .i64 pc, .int .i64 (opW z), .int .i64 (aW z), .int .i64 (bW z), .int .i64 (cW z), .int .i64 (sW z)] 150
  have bw : Below w.heap.size w (w.alloc (.cells #[.pointer (some ⟨pb, po, none⟩), .pointer (some ⟨B, uo + (opW z).toNat * 10, none⟩), .int .i64 pc, .int .i64 (opW z), .int .i64 (aW z), .int .i64 (bW z), .int .i64 (cW z), .int .i64 (sW z)] 150)) := (Below.refl _ _).alloc (Nat.le_refl _) _
  have sx : (w.alloc (.cells #[.pointer (some ⟨pb, po, none⟩), .pointer (some ⟨B, uo + (opW z).toNat * 10, none⟩), .int .i64 pc, .int .i64 (opW z), .int .i64 (aW z), .int .i64 (bW z), .int .i64 (cW z), .int .i64 (sW z)] 150)).heap.size = w.heap.size + 1 := World.size_alloc _ _
  generalize w.alloc (.cells #[.pointer (some ⟨pb, po, none⟩), .pointer (some ⟨B, uo + (opW z).toNat * 10, none⟩), .int .i64 pc, .int .i64 (opW z), .int .i64 (aW z), .int .i64 (bW z), .int .i64 (cW z), .int .i64 (sW z)] 150) = w0 at R0 bw sx ⊢
  have hu0 : w0.cell? ⟨B, uo + (opW z).toNat * 10 + 6, none⟩ = some (.func (.func 88) #[] #[]) := (bw.cell (p := ⟨B, uo + (opW z).toNat * 10 + 6, none⟩) hB).trans hu
  have hk : Hid (∀ y, Below w0.heap.size w0 y → (y.cell? ⟨w.heap.size, 1, none⟩ = some (.pointer (some ⟨B, uo + (opW z).toNat * 10, none⟩)) ∧ y.cell? ⟨w.heap.size, 2, none⟩ = some (.int .i64 pc) ∧ y.cell? ⟨w.heap.size, 3, none⟩ = some (.int .i64 (opW z)) ∧ y.cell? ⟨w.heap.size, 4, none⟩ = some (.int .i64 (aW z)) ∧ y.cell? ⟨w.heap.size, 5, none⟩ = some (.int .i64 (bW z)) ∧ y.cell? ⟨w.heap.size, 6, none⟩ = some (.int .i64 (cW z)) ∧ y.cell? ⟨w.heap.size, 7, none⟩ = some (.int .i64 (sW z)) ∧ y.cell? ⟨B, uo + (opW z).toNat * 10 + 6, none⟩ = some (.func (.func 88) #[] #[]))) := fun y hy =>
    ⟨(R0.call hy).cell 1 rfl, (R0.call hy).cell 2 rfl, (R0.call hy).cell 3 rfl, (R0.call hy).cell 4 rfl, (R0.call hy).cell 5 rfl, (R0.call hy).cell 6 rfl, (R0.call hy).cell 7 rfl, (hy.cell (p := ⟨B, uo + (opW z).toNat * 10 + 6, none⟩) (by show B < w0.heap.size; omega)).trans hu0⟩
  have hc : Hid (∀ y, Below w0.heap.size w0 y → Calls Tryz.prog 88 #[.int .i64 pc, insV (opW z) (aW z) (bW z) (cW z) (sW z)] y fun e w' => (∃ u, e = .returned u ∧ IsInts .i64 (fun b => w.heap.size ≤ b ∧ b < w'.heap.size) w' u (slI [])) ∧ Below w0.heap.size w0 w') := fun y hy =>
    (nowhere_in pc (opW z) (aW z) (bW z) (cW z) (sW z) y).mono fun e w' H => by
      obtain ⟨he, hb⟩ := H
      exact ⟨⟨_, he, ⟨none, 0, rfl, Nat.zero_le _, fun h => absurd h (Nat.lt_irrefl 0)⟩⟩, hy.trans (hb.mono hy.size)⟩
  have hb9 : Hid (Below w.heap.size w w0) := bw
  clear R0 hu0 hu bw
  go_region_held3 (fun y => y.cell? ⟨w.heap.size, 1, none⟩ = some (.pointer (some ⟨B, uo + (opW z).toNat * 10, none⟩)) ∧ y.cell? ⟨w.heap.size, 2, none⟩ = some (.int .i64 pc) ∧ y.cell? ⟨w.heap.size, 3, none⟩ = some (.int .i64 (opW z)) ∧ y.cell? ⟨w.heap.size, 4, none⟩ = some (.int .i64 (aW z)) ∧ y.cell? ⟨w.heap.size, 5, none⟩ = some (.int .i64 (bW z)) ∧ y.cell? ⟨w.heap.size, 6, none⟩ = some (.int .i64 (cW z)) ∧ y.cell? ⟨w.heap.size, 7, none⟩ = some (.int .i64 (sW z)) ∧ y.cell? ⟨B, uo + (opW z).toNat * 10 + 6, none⟩ = some (.func (.func 88) #[] #[])) (first | exact hk.out _ (Below.refl _ _).drew | assumption)
    (first | (go_at_call 88; refine (hc.out _ (Below.refl _ _).drew).mono ?_; rintro e y ⟨⟨u, rfl, hu⟩, hy⟩; have hy9 := hk.out y hy))
  go_wp2_with fail
  go_ret
  exact ⟨_, rfl, hb9.out.trans (hy.mono hb9.out.size), hu⟩
/-- what can follow. -/
theorem next_in (w : World) (pb po B uo : Nat) (pc z : Int) (hU : UsO w B uo) (hB : B < w.heap.size) (h1 : 0 ≤ pc) (h2 : pc ≤ 100000) (hz1 : 0 ≤ z) (hz2 : z ≤ 4294967295) :
    Calls Tryz.prog 96 #[plV pb po B uo pc z] w fun e w' => ∃ u, e = .returned u ∧ Below w.heap.size w w' ∧ IsInts .i64 (fun b => w.heap.size ≤ b ∧ b < w'.heap.size) w' u (slI (folW pc z)) := by
  have o1 : 0 ≤ opW z := by unfold opW; omega
  have o2 : opW z < 64 := by unfold opW; omega
  have hu := hU.at o1 o2 6 (by omega)
  unfold folW
  split
  · next h =>
    rw [us6a _ (by omega) (by omega)] at hu
    exact next_no w pb po B uo pc z hB h1 h2 hz1 hz2 hu
  · split
    · next h =>
      rw [show (opW z).toNat = 18 by omega, us6b, ← show (opW z).toNat = 18 by omega] at hu
      exact next_ta w pb po B uo pc z hB h1 h2 hz1 hz2 hu
    · split
      · next h =>
        rw [us6c _ (by omega) (by omega)] at hu
        exact next_nt w pb po B uo pc z hB h1 h2 hz1 hz2 hu
      · split
        · next h =>
          rw [us6d _ (by omega) (by omega)] at hu
          exact next_sk w pb po B uo pc z hB h1 h2 hz1 hz2 hu
        · rw [us6e _ (by omega) (by omega) (by omega) (by omega) (by omega) (by omega) (by omega) (by omega) (by omega)] at hu
          exact next_any w pb po B uo pc z hB h1 h2 hu
end Go.Proofs.YtckapapejfnojaaGreatDoor

import Derived.Test.YtckapapejfnojaaGreatDoorTpU
import Derived.Laws.EntriesVeiled
namespace Go.Proofs.YtckapapejfnojaaGreatDoor
open Go.RowKit
set_option linter.unusedVariables false
set_option linter.unusedSimpArgs false
set_option maxRecDepth 100000
set_option maxHeartbeats 1000000
theorem target_in (pc op a b c s : Int) (w : World) (h1 : 0 ≤ pc) (h2 : pc ≤ 100000) (h3 : -1000000 ≤ s) (h4 : s ≤ 1000000) : Calls Tryz.prog 161 #[.int .i64 pc, insV op a b c s] w fun e w' => e = .returned (.int .i64 (pc + 1 + s)) ∧ Below w.heap.size w w' := by
  go_enter Tryz.func161, Tryz.ntmps161
  go_wp2
  go_ret
  exact ⟨rfl, by go_grown⟩
theorem nowhere_in (pc op a b c s : Int) (w : World) : Calls Tryz.prog 88 #[.int .i64 pc, insV op a b c s] w fun e w' => e = .returned (.slice none 0 0) ∧ Below w.heap.size w w' := by
  go_enter Tryz.func88, Tryz.ntmps88
  go_wp2
  go_ret
  exact ⟨rfl, by go_grown⟩
theorem nextOrSkip_in (pc op a b c s : Int) (w : World) (h1 : 0 ≤ pc) (h2 : pc ≤ 100000) : Calls Tryz.prog 80 #[.int .i64 pc, insV op a b c s] w fun e w' => ∃ u, e = .returned u ∧ Below w.heap.size w w' ∧ IsInts .i64 (fun b => w.heap.size ≤ b ∧ b < w'.heap.size) w' u (slI [pc + 1, pc + 2]) := by
  have hw1 : IntKind.i64.wrap (pc + 1) = pc + 1 := by simp [IntKind.wrap, IntKind.bits, IntKind.signed]; omega
  have hw2 : IntKind.i64.wrap (pc + 2) = pc + 2 := by simp [IntKind.wrap, IntKind.bits, IntKind.signed]; omega
  have hb0 : Below w.heap.size w (w.alloc (.cells #[.int .i64 op, .int .i64 a, .int .i64 b, .int .i64 c, .int .i64 s] 88)) := (Below.refl _ _).alloc (Nat.le_refl _) _
  have h := built_ints hb0 [pc + 1, pc + 2] (by simp)
  rw [show (w.alloc (.cells #[.int .i64 op, .int .i64 a, .int .i64 b, .int .i64 c, .int .i64 s] 88)).heap.size = w.heap.size + 1 from World.size_alloc _ _] at h
  go_enter Tryz.func80, Tryz.ntmps80
  go_wp2_with fail
  go_ret
  exact ⟨_, rfl, h.1, h.2⟩
theorem targetAlone_in (pc op a b c s : Int) (w : World) (h1 : 0 ≤ pc) (h2 : pc ≤ 100000) (h3 : -1000000 ≤ s) (h4 : s ≤ 1000000) : Calls Tryz.prog 86 #[.int .i64 pc, insV op a b c s] w fun e w' => ∃ u, e = .returned u ∧ Below w.heap.size w w' ∧ IsInts .i64 (fun b => w.heap.size ≤ b ∧ b < w'.heap.size) w' u (slI [pc + 1 + s]) := by
  have hb0 : Below w.heap.size w (w.alloc (.cells #[.int .i64 op, .int .i64 a, .int .i64 b, .int .i64 c, .int .i64 s] 88)) := (Below.refl _ _).alloc (Nat.le_refl _) _
  go_enter Tryz.func86, Tryz.ntmps86
  go_wp2_with fail
  refine (target_in pc op a b c s _ h1 h2 h3 h4).mono ?_
  rintro e y ⟨rfl, b1⟩
  have h := built_ints (hb0.trans (b1.mono hb0.size)) [pc + 1 + s] (by simp)
  go_wp2_with fail
  go_ret
  exact ⟨_, rfl, h.1, h.2⟩
theorem nextOrTarget_in (pc op a b c s : Int) (w : World) (h1 : 0 ≤ pc) (h2 : pc ≤ 100000) (h3 : -1000000 ≤ s) (h4 : s ≤ 1000000) : Calls Tryz.prog 92 #[.int .i64 pc, insV op a b c s] w fun e w' => ∃ u, e = .returned u ∧ Below w.heap.size w w' ∧ IsInts .i64 (fun b => w.heap.size ≤ b ∧ b < w'.heap.size) w' u (slI [pc + 1, pc + 1 + s]) := by
  have hw1 : IntKind.i64.wrap (pc + 1) = pc + 1 := by simp [IntKind.wrap, IntKind.bits, IntKind.signed]; omega
  have hb0 : Below w.heap.size w (w.alloc (.cells #[.int .i64 op, .int .i64 a, .int .i64 b, .int .i64 c, .int .i64 s] 88)) := (Below.refl _ _).alloc (Nat.le_refl _) _
  go_enter Tryz.func92, Tryz.ntmps92
  go_wp2_with fail
  refine (target_in pc op a b c s _ h1 h2 h3 h4).mono ?_
  rintro e y ⟨rfl, b1⟩
  have h := built_ints (hb0.trans (b1.mono hb0.size)) [pc + 1, pc + 1 + s] (by simp)
  go_wp2_with fail
  go_ret
  exact ⟨_, rfl, h.1, h.2⟩
theorem opensByB_in (op a b c s : Int) (w : World) : Calls Tryz.prog 90 #[insV op a b c s] w fun e w' => e = .returned (.bool (b == 511)) ∧ Below w.heap.size w w' := by
  go_enter Tryz.func90, Tryz.ntmps90
  go_wp2
  go_ret
  exact ⟨rfl, by go_grown⟩
theorem opensByC_in (op a b c s : Int) (w : World) : Calls Tryz.prog 84 #[insV op a b c s] w fun e w' => e = .returned (.bool (c == 511)) ∧ Below w.heap.size w w' := by
  go_enter Tryz.func84, Tryz.ntmps84
  go_wp2
  go_ret
  exact ⟨rfl, by go_grown⟩
theorem topOfBoth_in (v y : Int) (w : World) (hv : -3 ≤ v) (hy : -1 ≤ y) : Calls Tryz.prog 98 #[.int .i64 v, .int .i64 y] w fun e w' => e = .returned (.int .i64 (meet v y)) ∧ w = w' := by
  by_cases h2 : v = -2
  · subst h2
    have : meet (-2) y = y := if_pos rfl
    rw [this]
    go_enter Tryz.func98, Tryz.ntmps98
    go_wp2
    go_ret
    exact ⟨rfl, rfl⟩
  · have n2 : (v == -2) = false := by simp; omega
    by_cases he : v = y
    · subst he
      have : meet v v = v := by unfold meet; rw [if_neg h2, if_neg (by omega), if_neg (by omega)]
      rw [this]
      go_enter Tryz.func98, Tryz.ntmps98
      go_wp2
      go_ret
      exact ⟨rfl, rfl⟩
    · have ne : (v == y) = false := by simp; omega
      by_cases h0 : 0 ≤ v
      · by_cases hy0 : 0 ≤ y
        · by_cases hlt : v < y
          · have : meet v y = v := by unfold meet; rw [if_neg h2, if_neg (by omega), if_pos hlt]
            rw [this]
            go_enter Tryz.func98, Tryz.ntmps98
            go_wp2
            go_ret
            exact ⟨rfl, rfl⟩
          · have : meet v y = y := by unfold meet; rw [if_neg h2, if_neg (by omega), if_neg hlt]
            rw [this]
            go_enter Tryz.func98, Tryz.ntmps98
            go_wp2
            go_ret
            exact ⟨rfl, rfl⟩
        · have : meet v y = -3 := by unfold meet; rw [if_neg h2, if_pos (by omega)]
          rw [this]
          go_enter Tryz.func98, Tryz.ntmps98
          go_wp2
          go_ret
          exact ⟨rfl, rfl⟩
      · have : meet v y = -3 := by unfold meet; rw [if_neg h2, if_pos (by omega)]
        rw [this]
        go_enter Tryz.func98, Tryz.ntmps98
        go_wp2
        go_ret
        exact ⟨rfl, rfl⟩
end Go.Proofs.YtckapapejfnojaaGreatDoor

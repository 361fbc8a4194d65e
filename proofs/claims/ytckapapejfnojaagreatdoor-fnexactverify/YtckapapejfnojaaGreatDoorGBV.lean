import Derived.Test.YtckapapejfnojaaGreatDoorTpAV
import Derived.LaidMore
import Derived.WalkSmall
import Derived.Deep.QuietTactic
import Derived.Deep.RegionWith
import Derived.BigQuiet
import Derived.Deep.RegionHeld3
import Derived.Laws.EntriesVeiled
namespace Go.Proofs.YtckapapejfnojaaGreatDoor
section
open Go.RowKit
set_option linter.unusedVariables false
set_option linter.unusedSimpArgs false
/-- The table of the parts' shifts and sizes, as it lies in memory . -/
structure Spans (w : World) : Prop where
  c0 : w.cell? ⟨1, 0, none⟩ = some (.int .i64 0)
  c1 : w.cell? ⟨1, 1, none⟩ = some (.int .i64 6)
  c2 : w.cell? ⟨1, 2, none⟩ = some (.int .i64 6)
  c3 : w.cell? ⟨1, 3, none⟩ = some (.int .i64 8)
  c4 : w.cell? ⟨1, 4, none⟩ = some (.int .i64 14)
  c5 : w.cell? ⟨1, 5, none⟩ = some (.int .i64 9)
  c6 : w.cell? ⟨1, 6, none⟩ = some (.int .i64 23)
  c7 : w.cell? ⟨1, 7, none⟩ = some (.int .i64 9)
  pos : 1 < w.heap.size
theorem Spans.below {w w' : World} (h : Spans w) (hb : Below w.heap.size w w') : Spans w' := by
  obtain ⟨c0, c1, c2, c3, c4, c5, c6, c7, pos⟩ := h
  have hz : w.heap.size ≤ w'.heap.size := hb.size
  exact ⟨by rw [hb.cell pos]; exact c0, by rw [hb.cell pos]; exact c1, by rw [hb.cell pos]; exact c2, by rw [hb.cell pos]; exact c3, by rw [hb.cell pos]; exact c4, by rw [hb.cell pos]; exact c5, by rw [hb.cell pos]; exact c6, by rw [hb.cell pos]; exact c7, by omega⟩
theorem and_low (k : Nat) (x m : Nat) (hm : m = 2 ^ k - 1) (hx : x < 4294967296) (hm2 : m < 4294967296) : bits .and .u32 (x : Int) (m : Int) = ((x % 2 ^ k : Nat) : Int) := by
  rw [u32_and_nat x m hx hm2, hm, Nat.and_two_pow_sub_one_eq_mod]
theorem wideOf_any (b c : Int) (w : World) (h1 : 0 ≤ b) (h2 : b ≤ 511) (h3 : 0 ≤ c) (h4 : c ≤ 511) :
    Calls Tryz.prog 185 #[.int .i64 b, .int .i64 c] w fun e w' => e = .returned (.int .i64 (b + 512 * c + -131072)) ∧ w' = w := by
  go_enter Tryz.func185, Tryz.ntmps185
  go_wp2
  go_ret
  exact ⟨rfl, rfl⟩
set_option maxHeartbeats 1000000 in
theorem unpack_impl (x : Nat) (w : World) (hS : Spans w) (h2 : x ≤ 4294967295) :
    Calls Tryz.prog 162 #[.int .u32 x] w fun e w' => e = .returned (.agg #[.int .i64 (x % 64), .int .i64 (x / 64 % 256), .int .i64 (x / 16384 % 512), .int .i64 (x / 8388608), .int .i64 (x / 16384 % 512 + 512 * (x / 8388608) + -131072)]) ∧ Below w.heap.size w w' := by
  obtain ⟨c0, c1, c2, c3, c4, c5, c6, c7, pos⟩ := hS
  have m1 : ¬ (1 = w.heap.size) := by omega
  have m2 : ¬ (1 = w.heap.size + 1) := by omega
  have m3 : ¬ (w.heap.size = 1) := by omega
  have m4 : ¬ (w.heap.size + 1 = 1) := by omega
  have m5 : ¬ (w.heap.size = 0) := by omega
  have m6 : 0 < w.heap.size := by omega
  have m7 : 1 < w.heap.size + 1 := by omega
  have m8 : 1 < w.heap.size + 1 + 1 := by omega
  have e0 : bits .and .u32 (x : Int) 63 = (x : Int) % 64 := and_low 6 x 63 rfl (by omega) (by omega)
  have e1 : bits .and .u32 ((x : Int) / 64) 255 = (x : Int) / 64 % 256 := and_low 8 (x / 64) 255 rfl (by omega) (by omega)
  have e2 : bits .and .u32 ((x : Int) / 16384) 511 = (x : Int) / 16384 % 512 := and_low 9 (x / 16384) 511 rfl (by omega) (by omega)
  have e3 : bits .and .u32 ((x : Int) / 8388608) 511 = (x : Int) / 8388608 := by
    rw [show (x : Int) / 8388608 = ((x / 8388608 : Nat) : Int) from by omega, show (511 : Int) = ((511 : Nat) : Int) from rfl, and_low 9 (x / 8388608) 511 rfl (by omega) (by omega)]; omega
  go_enter Tryz.func162, Tryz.ntmps162
  go_wp2
  refine wp_loop_rounds 5 ?_
  rw [rounds_succ]
  go_wp2
  go_region
  go_wp2
  rw [rounds_succ]
  go_wp2
  go_region
  go_wp2
  rw [rounds_succ]
  go_wp2
  go_region
  go_wp2
  rw [rounds_succ]
  go_wp2
  go_region
  go_wp2
  rw [rounds_succ]
  go_wp2
  go_region_held3 (fun w' => w'.cell? ⟨w.heap.size + 1, 0, none⟩ = some (.int .i64 (x % 64)) ∧ w'.cell? ⟨w.heap.size + 1, 1, none⟩ = some (.int .i64 (x / 64 % 256)) ∧ w'.cell? ⟨w.heap.size + 1, 2, none⟩ = some (.int .i64 (x / 16384 % 512)) ∧ w'.cell? ⟨w.heap.size + 1, 3, none⟩ = some (.int .i64 (x / 8388608))) (go_keep)
    (first | (go_at_call 185; refine (wideOf_any _ _ _ (by omega) (by omega) (by omega) (by omega)).mono ?_; rintro e w' ⟨rfl, rfl⟩))
  go_wp2
  exact bodyPost_ret (v := .agg #[.int .i64 (x % 64), .int .i64 (x / 64 % 256), .int .i64 (x / 16384 % 512), .int .i64 (x / 8388608), .int .i64 (x / 16384 % 512 + 512 * (x / 8388608) + -131072)]) (by simp [results, Tryz.results162, go_sem]) rfl ⟨rfl, by go_grown⟩
theorem unpackI (z : Int) (w : World) (hS : Spans w) (h1 : 0 ≤ z) (h2 : z ≤ 4294967295) :
    Calls Tryz.prog 162 #[.int .u32 z] w fun e w' => e = .returned (insV (opW z) (aW z) (bW z) (cW z) (sW z)) ∧ Below w.heap.size w w' := by
  obtain ⟨x, rfl⟩ := Int.eq_ofNat_of_zero_le h1
  refine (unpack_impl x w hS (by omega)).mono fun e w' ⟨he, hb⟩ => ⟨?_, hb⟩
  rw [he]
  unfold insV opW aW bW cW sW bW cW
  rw [Int.sub_eq_add_neg]
end
section
open Go.RowKit
set_option linter.unusedVariables false
set_option linter.unusedSimpArgs false
set_option maxRecDepth 100000
set_option maxHeartbeats 1000000
theorem target_in (pc op a b c s : Int) (w : World) (h1 : 0 ≤ pc) (h2 : pc ≤ 100000) (h3 : -1000000 ≤ s) (h4 : s ≤ 1000000) : Calls Tryz.prog 161 #[.int .i64 pc, insV op a b c s] w fun e w' => e = .returned (.int .i64 (pc + 1 + s)) ∧ Below w.heap.size w w' := by
  go_enter Tryz.func161, Tryz.ntmps161
  go_wp2
  go_ret
  exact ⟨rfl, by go_grown⟩
theorem nowhere_in (pc op a b c s : Int) (w : World) : Calls Tryz.prog 88 #[.int .i64 pc, insV op a b c s] w fun e w' => e = .returned (.slice none 0 0) ∧ Below w.heap.size w w' := by
  go_enter Tryz.func88, Tryz.ntmps88
  go_wp2
  go_ret
  exact ⟨rfl, by go_grown⟩
theorem nextOrSkip_in (pc op a b c s : Int) (w : World) (h1 : 0 ≤ pc) (h2 : pc ≤ 100000) : Calls Tryz.prog 80 #[.int .i64 pc, insV op a b c s] w fun e w' => ∃ u, e = .returned u ∧ Below w.heap.size w w' ∧ IsInts .i64 (fun b => w.heap.size ≤ b ∧ b < w'.heap.size) w' u (slI [pc + 1, pc + 2]) := by
  have hw1 : IntKind.i64.wrap (pc + 1) = pc + 1 := by simp [IntKind.wrap, IntKind.bits, IntKind.signed]; omega
  have hw2 : IntKind.i64.wrap (pc + 2) = pc + 2 := by simp [IntKind.wrap, IntKind.bits, IntKind.signed]; omega
  have hb0 : Below w.heap.size w (w.alloc (.cells #[.int .i64 op, .int .i64 a, .int .i64 b, .int .i64 c, .int .i64 s] 88)) := (Below.refl _ _).alloc (Nat.le_refl _) _
  have h := built_ints hb0 [pc + 1, pc + 2] (by simp)
  rw [show (w.alloc (.cells #[.int .i64 op, .int .i64 a, .int .i64 b, .int .i64 c, .int .i64 s] 88)).heap.size = w.heap.size + 1 from World.size_alloc _ _] at h
  go_enter Tryz.func80, Tryz.ntmps80
  go_wp2_with fail
  go_ret
  exact ⟨_, rfl, h.1, h.2⟩
theorem targetAlone_in (pc op a b c s : Int) (w : World) (h1 : 0 ≤ pc) (h2 : pc ≤ 100000) (h3 : -1000000 ≤ s) (h4 : s ≤ 1000000) : Calls Tryz.prog 86 #[.int .i64 pc, insV op a b c s] w fun e w' => ∃ u, e = .returned u ∧ Below w.heap.size w w' ∧ IsInts .i64 (fun b => w.heap.size ≤ b ∧ b < w'.heap.size) w' u (slI [pc + 1 + s]) := by
  have hb0 : Below w.heap.size w (w.alloc (.cells #[.int .i64 op, .int .i64 a, .int .i64 b, .int .i64 c, .int .i64 s] 88)) := (Below.refl _ _).alloc (Nat.le_refl _) _
  go_enter Tryz.func86, Tryz.ntmps86
  go_wp2_with fail
  refine (target_in pc op a b c s _ h1 h2 h3 h4).mono ?_
  rintro e y ⟨rfl, b1⟩
  have h := built_ints (hb0.trans (b1.mono hb0.size)) [pc + 1 + s] (by simp)
  go_wp2_with fail
  go_ret
  exact ⟨_, rfl, h.1, h.2⟩
theorem nextOrTarget_in (pc op a b c s : Int) (w : World) (h1 : 0 ≤ pc) (h2 : pc ≤ 100000) (h3 : -1000000 ≤ s) (h4 : s ≤ 1000000) : Calls Tryz.prog 92 #[.int .i64 pc, insV op a b c s] w fun e w' => ∃ u, e = .returned u ∧ Below w.heap.size w w' ∧ IsInts .i64 (fun b => w.heap.size ≤ b ∧ b < w'.heap.size) w' u (slI [pc + 1, pc + 1 + s]) := by
  have hw1 : IntKind.i64.wrap (pc + 1) = pc + 1 := by simp [IntKind.wrap, IntKind.bits, IntKind.signed]; omega
  have hb0 : Below w.heap.size w (w.alloc (.cells #[.int .i64 op, .int .i64 a, .int .i64 b, .int .i64 c, .int .i64 s] 88)) := (Below.refl _ _).alloc (Nat.le_refl _) _
  go_enter Tryz.func92, Tryz.ntmps92
  go_wp2_with fail
  refine (target_in pc op a b c s _ h1 h2 h3 h4).mono ?_
  rintro e y ⟨rfl, b1⟩
  have h := built_ints (hb0.trans (b1.mono hb0.size)) [pc + 1, pc + 1 + s] (by simp)
  go_wp2_with fail
  go_ret
  exact ⟨_, rfl, h.1, h.2⟩
theorem opensByB_in (op a b c s : Int) (w : World) : Calls Tryz.prog 90 #[insV op a b c s] w fun e w' => e = .returned (.bool (b == 511)) ∧ Below w.heap.size w w' := by
  go_enter Tryz.func90, Tryz.ntmps90
  go_wp2
  go_ret
  exact ⟨rfl, by go_grown⟩
theorem opensByC_in (op a b c s : Int) (w : World) : Calls Tryz.prog 84 #[insV op a b c s] w fun e w' => e = .returned (.bool (c == 511)) ∧ Below w.heap.size w w' := by
  go_enter Tryz.func84, Tryz.ntmps84
  go_wp2
  go_ret
  exact ⟨rfl, by go_grown⟩
theorem topOfBoth_in (v y : Int) (w : World) (hv : -3 ≤ v) (hy : -1 ≤ y) : Calls Tryz.prog 98 #[.int .i64 v, .int .i64 y] w fun e w' => e = .returned (.int .i64 (meet v y)) ∧ w = w' := by
  by_cases h2 : v = -2
  · subst h2
    have : meet (-2) y = y := if_pos rfl
    rw [this]
    go_enter Tryz.func98, Tryz.ntmps98
    go_wp2
    go_ret
    exact ⟨rfl, rfl⟩
  · have n2 : (v == -2) = false := by simp; omega
    by_cases he : v = y
    · subst he
      have : meet v v = v := by unfold meet; rw [if_neg h2, if_neg (by omega), if_neg (by omega)]
      rw [this]
      go_enter Tryz.func98, Tryz.ntmps98
      go_wp2
      go_ret
      exact ⟨rfl, rfl⟩
    · have ne : (v == y) = false := by simp; omega
      by_cases h0 : 0 ≤ v
      · by_cases hy0 : 0 ≤ y
        · by_cases hlt : v < y
          · have : meet v y = v := by unfold meet; rw [if_neg h2, if_neg (by omega), if_pos hlt]
            rw [this]
            go_enter Tryz.func98, Tryz.ntmps98
            go_wp2
            go_ret
            exact ⟨rfl, rfl⟩
          · have : meet v y = y := by unfold meet; rw [if_neg h2, if_neg (by omega), if_neg hlt]
            rw [this]
            go_enter Tryz.func98, Tryz.ntmps98
            go_wp2
            go_ret
            exact ⟨rfl, rfl⟩
        · have : meet v y = -3 := by unfold meet; rw [if_neg h2, if_pos (by omega)]
          rw [this]
          go_enter Tryz.func98, Tryz.ntmps98
          go_wp2
          go_ret
          exact ⟨rfl, rfl⟩
      · have : meet v y = -3 := by unfold meet; rw [if_neg h2, if_pos (by omega)]
        rw [this]
        go_enter Tryz.func98, Tryz.ntmps98
        go_wp2
        go_ret
        exact ⟨rfl, rfl⟩
end
section
open Go.RowKit
set_option linter.unusedVariables false
set_option linter.unusedSimpArgs false
/-- what an operation uses, cell by cell. -/
def usRow : Nat → List Value
  | 0 => [.int .i64 1, .int .i64 1, .int .i64 0, .int .i64 0, .bool false, .func (.func 77) #[] #[], .nilFunc, .nilFunc, .nilFunc, .nilFunc]
  | 1 => [.int .i64 1, .int .i64 0, .int .i64 0, .int .i64 3, .bool false, .func (.func 76) #[] #[], .nilFunc, .nilFunc, .nilFunc, .nilFunc]
  | 2 => [.int .i64 1, .int .i64 1, .int .i64 0, .int .i64 0, .bool false, .func (.func 85) #[] #[], .nilFunc, .nilFunc, .nilFunc, .nilFunc]
  | 3 => [.int .i64 1, .int .i64 2, .int .i64 0, .int .i64 0, .bool false, .func (.func 76) #[] #[], .nilFunc, .nilFunc, .nilFunc, .nilFunc]
  | 4 => [.int .i64 1, .int .i64 4, .int .i64 0, .int .i64 0, .bool false, .func (.func 76) #[] #[], .nilFunc, .nilFunc, .nilFunc, .nilFunc]
  | 5 => [.int .i64 1, .int .i64 4, .int .i64 0, .int .i64 0, .bool false, .func (.func 76) #[] #[], .nilFunc, .nilFunc, .nilFunc, .nilFunc]
  | 6 => [.int .i64 1, .int .i64 0, .int .i64 0, .int .i64 0, .bool false, .func (.func 76) #[] #[], .nilFunc, .nilFunc, .nilFunc, .nilFunc]
  | 7 => [.int .i64 1, .int .i64 1, .int .i64 1, .int .i64 0, .bool false, .func (.func 78) #[] #[], .nilFunc, .nilFunc, .nilFunc, .nilFunc]
  | 8 => [.int .i64 1, .int .i64 1, .int .i64 1, .int .i64 0, .bool false, .func (.func 78) #[] #[], .nilFunc, .nilFunc, .nilFunc, .nilFunc]
  | 9 => [.int .i64 1, .int .i64 1, .int .i64 1, .int .i64 0, .bool false, .func (.func 78) #[] #[], .nilFunc, .nilFunc, .nilFunc, .nilFunc]
  | 10 => [.int .i64 1, .int .i64 1, .int .i64 1, .int .i64 0, .bool false, .func (.func 78) #[] #[], .nilFunc, .nilFunc, .nilFunc, .nilFunc]
  | 11 => [.int .i64 1, .int .i64 1, .int .i64 1, .int .i64 0, .bool false, .func (.func 78) #[] #[], .nilFunc, .nilFunc, .nilFunc, .nilFunc]
  | 12 => [.int .i64 1, .int .i64 1, .int .i64 1, .int .i64 0, .bool false, .func (.func 78) #[] #[], .nilFunc, .nilFunc, .nilFunc, .nilFunc]
  | 13 => [.int .i64 1, .int .i64 1, .int .i64 1, .int .i64 0, .bool false, .func (.func 78) #[] #[], .nilFunc, .nilFunc, .nilFunc, .nilFunc]
  | 14 => [.int .i64 1, .int .i64 1, .int .i64 1, .int .i64 0, .bool false, .func (.func 78) #[] #[], .nilFunc, .nilFunc, .nilFunc, .nilFunc]
  | 15 => [.int .i64 1, .int .i64 1, .int .i64 0, .int .i64 0, .bool false, .func (.func 77) #[] #[], .nilFunc, .nilFunc, .nilFunc, .nilFunc]
  | 16 => [.int .i64 1, .int .i64 1, .int .i64 0, .int .i64 0, .bool false, .func (.func 77) #[] #[], .nilFunc, .nilFunc, .nilFunc, .nilFunc]
  | 17 => [.int .i64 1, .int .i64 1, .int .i64 0, .int .i64 0, .bool false, .func (.func 77) #[] #[], .nilFunc, .nilFunc, .nilFunc, .nilFunc]
  | 18 => [.int .i64 0, .int .i64 0, .int .i64 0, .int .i64 6, .bool false, .nilFunc, .func (.func 86) #[] #[], .nilFunc, .nilFunc, .nilFunc]
  | 19 => [.int .i64 2, .int .i64 1, .int .i64 1, .int .i64 0, .bool false, .func (.func 79) #[] #[], .func (.func 80) #[] #[], .nilFunc, .nilFunc, .func (.func 81) #[] #[]]
  | 20 => [.int .i64 2, .int .i64 1, .int .i64 1, .int .i64 0, .bool false, .func (.func 79) #[] #[], .func (.func 80) #[] #[], .nilFunc, .nilFunc, .func (.func 81) #[] #[]]
  | 21 => [.int .i64 1, .int .i64 0, .int .i64 2, .int .i64 0, .bool false, .func (.func 76) #[] #[], .func (.func 80) #[] #[], .nilFunc, .nilFunc, .func (.func 81) #[] #[]]
  | 22 => [.int .i64 1, .int .i64 1, .int .i64 1, .int .i64 0, .bool false, .func (.func 82) #[] #[], .nilFunc, .func (.func 83) #[] #[], .func (.func 84) #[] #[], .nilFunc]
  | 23 => [.int .i64 1, .int .i64 1, .int .i64 0, .int .i64 0, .bool false, .func (.func 87) #[] #[], .func (.func 88) #[] #[], .func (.func 89) #[] #[], .nilFunc, .nilFunc]
  | 24 => [.int .i64 1, .int .i64 1, .int .i64 0, .int .i64 0, .bool true, .func (.func 87) #[] #[], .nilFunc, .nilFunc, .func (.func 90) #[] #[], .nilFunc]
  | 25 => [.int .i64 1, .int .i64 0, .int .i64 0, .int .i64 5, .bool false, .func (.func 76) #[] #[], .nilFunc, .nilFunc, .nilFunc, .nilFunc]
  | 26 => [.int .i64 1, .int .i64 0, .int .i64 0, .int .i64 0, .bool false, .func (.func 76) #[] #[], .nilFunc, .nilFunc, .nilFunc, .nilFunc]
  | 27 => [.int .i64 1, .int .i64 0, .int .i64 0, .int .i64 6, .bool false, .func (.func 91) #[] #[], .func (.func 92) #[] #[], .nilFunc, .nilFunc, .func (.func 93) #[] #[]]
  | 28 => [.int .i64 1, .int .i64 0, .int .i64 0, .int .i64 6, .bool false, .func (.func 91) #[] #[], .func (.func 92) #[] #[], .nilFunc, .nilFunc, .nilFunc]
  | 29 => [.int .i64 1, .int .i64 1, .int .i64 0, .int .i64 0, .bool false, .func (.func 77) #[] #[], .nilFunc, .nilFunc, .nilFunc, .nilFunc]
  | 30 => [.int .i64 1, .int .i64 1, .int .i64 1, .int .i64 0, .bool false, .func (.func 82) #[] #[], .nilFunc, .func (.func 83) #[] #[], .func (.func 84) #[] #[], .nilFunc]
  | 31 => [.int .i64 1, .int .i64 1, .int .i64 1, .int .i64 0, .bool false, .func (.func 94) #[] #[], .nilFunc, .func (.func 89) #[] #[], .func (.func 84) #[] #[], .nilFunc]
  | 32 => [.int .i64 1, .int .i64 1, .int .i64 0, .int .i64 0, .bool false, .func (.func 77) #[] #[], .nilFunc, .nilFunc, .nilFunc, .nilFunc]
  | 33 => [.int .i64 1, .int .i64 0, .int .i64 0, .int .i64 0, .bool false, .func (.func 76) #[] #[], .func (.func 88) #[] #[], .nilFunc, .nilFunc, .nilFunc]
  | _ => [.int .i64 0, .int .i64 0, .int .i64 0, .int .i64 0, .bool false, .nilFunc, .nilFunc, .nilFunc, .nilFunc, .nilFunc]
def usC (n j : Nat) : Value := (usRow n).getD j .nilFunc
def usTab : Array Value := Array.ofFn fun i : Fin 640 => usC (i.val / 10) (i.val % 10)
theorem usTab_size : usTab.size = 640 := Array.size_ofFn
theorem usTab_get {n j : Nat} (hn : n < 64) (hj : j < 10) : usTab[10 * n + j]? = some (usC n j) := by
  unfold usTab
  rw [Array.getElem?_ofFn, dif_pos (by omega)]
  have e1 : (10 * n + j) / 10 = n := by omega
  have e2 : (10 * n + j) % 10 = j := by omega
  simp only [e1, e2]
/-- block B holds the table. -/
def UsIn (w : World) (B : Nat) : Prop := ∀ n j, n < 64 → j < 10 → w.cell? ⟨B, 10 * n + j, none⟩ = some (usC n j)
theorem UsIn.keep {w w' : World} {B : Nat} (h : UsIn w B) (hk : w'.heap[B]? = w.heap[B]?) : UsIn w' B := fun n j hn hj => (World.cell?_of_block (a := ⟨B, 10 * n + j, none⟩) hk).trans (h n j hn hj)
def isNilF : Value → Bool
  | .nilFunc => true
  | _ => false
theorem isNilF_eq {v : Value} (h : isNilF v = true) : v = .nilFunc := by
  cases v <;> first | rfl | (simp [isNilF] at h)
end
section
open Go.RowKit
set_option linter.unusedVariables false
/-- block B holds the table from cell uo on. -/
def UsO (w : World) (B uo : Nat) : Prop := ∀ n j, n < 64 → j < 10 → w.cell? ⟨B, uo + n * 10 + j, none⟩ = some (usC n j)
theorem UsO.keep {w w' : World} {B uo : Nat} (h : UsO w B uo) (hk : w'.heap[B]? = w.heap[B]?) : UsO w' B uo := fun n j hn hj => (World.cell?_of_block (a := ⟨B, uo + n * 10 + j, none⟩) hk).trans (h n j hn hj)
theorem UsO.at {w : World} {B uo : Nat} (h : UsO w B uo) {op : Int} (o1 : 0 ≤ op) (o2 : op < 64) (j : Nat) (hj : j < 10) : w.cell? ⟨B, uo + op.toNat * 10 + j, none⟩ = some (usC op.toNat j) := h op.toNat j (by omega) hj
theorem UsO.later {w y : World} {B uo : Nat} (h : UsO w B uo) (hB : B < w.heap.size) (hb : Below w.heap.size w y) : UsO y B uo := h.keep (hb.block _ hB)
end
section
open Go.RowKit
set_option linter.unusedVariables false
set_option linter.unusedSimpArgs false
/-- a prototype behind a pointer. -/
structure PtrP (w : World) (pb po : Nat) (p : PD) (a3 a4 a5 : Value) : Prop where
  lt : pb < w.heap.size
  c1 : w.cell? ⟨pb, po + 1, none⟩ = some (.bool p.vararg)
  c2 : w.cell? ⟨pb, po + 2, none⟩ = some (.int .i64 p.regs)
  c3 : w.cell? ⟨pb, po + 3, none⟩ = some a3
  c4 : w.cell? ⟨pb, po + 4, none⟩ = some a4
  c5 : w.cell? ⟨pb, po + 5, none⟩ = some a5
  c6 : w.cell? ⟨pb, po + 6, none⟩ = some (.int .i64 p.kids)
  code : IsInts .u32 (· < w.heap.size) w a3 p.code
  consts : ∃ ao cap, a4 = .slice ao p.consts.n cap
  ups : IsUps (· < w.heap.size) w a5 p.ups
theorem PtrP.later {w w' : World} {pb po : Nat} {p : PD} {a3 a4 a5 : Value} (h : PtrP w pb po p a3 a4 a5) (hb : Below w.heap.size w w') : PtrP w' pb po p a3 a4 a5 :=
  ⟨Nat.lt_of_lt_of_le h.lt hb.size, (hb.cell (p := ⟨pb, po + 1, none⟩) h.lt).trans h.c1, (hb.cell (p := ⟨pb, po + 2, none⟩) h.lt).trans h.c2, (hb.cell (p := ⟨pb, po + 3, none⟩) h.lt).trans h.c3, (hb.cell (p := ⟨pb, po + 4, none⟩) h.lt).trans h.c4, (hb.cell (p := ⟨pb, po + 5, none⟩) h.lt).trans h.c5, (hb.cell (p := ⟨pb, po + 6, none⟩) h.lt).trans h.c6, IsArr.later h.code hb, h.consts, IsArr.later h.ups hb⟩
/-- the word at a place, as the walk reads it. -/
theorem PtrP.word {w : World} {pb po : Nat} {p : PD} {a3 a4 a5 : Value} (h : PtrP w pb po p a3 a4 a5) {pc : Nat} (hp : pc < p.code.n) : ∃ b o cap, a3 = .slice (some ⟨b, o, none⟩) p.code.n cap ∧ b < w.heap.size ∧ w.cell? ⟨b, o + pc, none⟩ = some (.int .u32 (p.code.f pc)) := by
  obtain ⟨ao, cap, rfl, -, h2⟩ := h.code
  obtain ⟨b, o, rfl, hb, hc⟩ := h2 (by omega)
  exact ⟨b, o, cap, rfl, hb, by simpa [iC] using hc pc hp 0 (by omega)⟩
/-- a place's value. -/
abbrev plV (pb po B uo : Nat) (pc z : Int) : Value := .agg #[.pointer (some ⟨pb, po, none⟩), .pointer (some ⟨B, uo + (opW z).toNat * 10, none⟩), .int .i64 pc, .int .i64 (opW z), .int .i64 (aW z), .int .i64 (bW z), .int .i64 (cW z), .int .i64 (sW z)]
set_option maxRecDepth 100000 in
set_option maxHeartbeats 1000000 in
theorem placeAt_in (w : World) (pb po B uo : Nat) (p : PD) (a3 a4 a5 : Value) (pc : Nat) (z : Int) (hP : PtrP w pb po p a3 a4 a5) (hS : Spans w) (hp : pc < p.code.n) (hn : p.code.n ≤ 2000) (hz : p.code.f pc = z) (hz1 : 0 ≤ z) (hz2 : z ≤ 4294967295) :
    Calls Tryz.prog 95 #[.pointer (some ⟨pb, po, none⟩), .pointer (some ⟨B, uo, none⟩), .int .i64 pc] w fun e w' => e = .returned (plV pb po B uo pc z) ∧ Below w.heap.size w w' := by
  obtain ⟨b, o, cap, rfl, hb, hc⟩ := hP.word hp
  rw [hz] at hc
  have c3 := hP.c3
  have lt := hP.lt
  have hpI : (pc : Int) < (p.code.n : Int) := by omega
  replace hP : Hid _ := hP
  replace hz : Hid _ := hz
  go_enter Tryz.func95, Tryz.ntmps95
  go_wp2_with fail
  have bw : Below w.heap.size w (w.alloc (.cells #[.pointer none, .pointer none, .int .i64 0, .int .i64 0, .int .i64 0, .int .i64 0, .int .i64 0, .int .i64 0] 150)) := (Below.refl _ _).alloc (Nat.le_refl _) _
  have R0 := RowL.new w [.pointer none, .pointer none, .int .i64 0, .int .i64 0, .int .i64 0, .int .i64 0, .int .i64 0, .int .i64 0] 150
  have sx : (w.alloc (.cells #[.pointer none, .pointer none, .int .i64 0, .int .i64 0, .int .i64 0, .int .i64 0, .int .i64 0, .int .i64 0] 150)).heap.size = w.heap.size + 1 := World.size_alloc _ _
  generalize w.alloc (.cells #[.pointer none, .pointer none, .int .i64 0, .int .i64 0, .int .i64 0, .int .i64 0, .int .i64 0, .int .i64 0] 150) = w0 at bw R0 sx ⊢
  refine (unpackI z _ (hS.below bw) hz1 hz2).mono ?_
  rintro e y ⟨rfl, bU⟩
  replace R0 := R0.call bU
  replace bw := bw.trans (bU.mono bw.size)
  have sy := bU.size
  clear bU
  have o1 : 0 ≤ opW z := by unfold opW; omega
  have o2 : opW z < 64 := by unfold opW; omega
  go_wp2_with fail
  have I0 := RowL.new y [.int .i64 (opW z), .int .i64 (aW z), .int .i64 (bW z), .int .i64 (cW z), .int .i64 (sW z)] 88
  have bI : Below y.heap.size y (y.alloc (.cells #[.int .i64 (opW z), .int .i64 (aW z), .int .i64 (bW z), .int .i64 (cW z), .int .i64 (sW z)] 88)) := (Below.refl _ _).alloc (Nat.le_refl _) _
  replace R0 := R0.call bI
  replace bw := bw.trans (bI.mono bw.size)
  generalize y.alloc (.cells #[.int .i64 (opW z), .int .i64 (aW z), .int .i64 (bW z), .int .i64 (cW z), .int .i64 (sW z)] 88) = y2 at I0 R0 bw bI ⊢
  generalize hyb : y.heap.size = yb at I0 ⊢
  have ne1 : ¬ (w.heap.size = yb) := by omega
  have ne2 : ¬ (yb = w.heap.size) := by omega
  replace hyb : Hid _ := hyb
  have i0 := I0.cell 0 rfl
  have i1 := I0.cell 1 rfl
  have i2 := I0.cell 2 rfl
  have i3 := I0.cell 3 rfl
  have i4 := I0.cell 4 rfl
  have r0 := R0.cell 0 rfl
  have r1 := R0.cell 1 rfl
  have r2 := R0.cell 2 rfl
  have r3 := R0.cell 3 rfl
  have r4 := R0.cell 4 rfl
  have r5 := R0.cell 5 rfl
  have r6 := R0.cell 6 rfl
  have r7 := R0.cell 7 rfl
  have rf := R0.frozen
  replace I0 : Hid _ := I0
  replace R0 : Hid _ := R0
  replace bI : Hid _ := bI
  go_region_held3 (fun x => x.cell? ⟨yb, 0, none⟩ = some (.int .i64 (opW z)) ∧ x.cell? ⟨yb, 1, none⟩ = some (.int .i64 (aW z)) ∧ x.cell? ⟨yb, 2, none⟩ = some (.int .i64 (bW z)) ∧ x.cell? ⟨yb, 3, none⟩ = some (.int .i64 (cW z)) ∧ x.cell? ⟨yb, 4, none⟩ = some (.int .i64 (sW z))) (go_keep) (first | fail)
  go_wp2_with fail
  have L := (RowL.set ((RowL.set ((RowL.set ((RowL.set ((RowL.set ((RowL.set ((RowL.set ((RowL.set (show RowL y2 w.heap.size 150 _ from R0.out) 0 (.pointer (some ⟨pb, po, none⟩)))) 1 (.pointer (some ⟨B, uo + (opW z).toNat * 10, none⟩)))) 2 (.int .i64 pc))) 3 (.int .i64 (opW z)))) 4 (.int .i64 (aW z)))) 5 (.int .i64 (bW z)))) 6 (.int .i64 (cW z)))) 7 (.int .i64 (sW z)))
  have bf := (Below.setCell (Below.setCell (Below.setCell (Below.setCell (Below.setCell (Below.setCell (Below.setCell (Below.setCell bw (p := ⟨w.heap.size, 0, none⟩) (Nat.le_refl _) (.pointer (some ⟨pb, po, none⟩))) (p := ⟨w.heap.size, 1, none⟩) (Nat.le_refl _) (.pointer (some ⟨B, uo + (opW z).toNat * 10, none⟩))) (p := ⟨w.heap.size, 2, none⟩) (Nat.le_refl _) (.int .i64 pc)) (p := ⟨w.heap.size, 3, none⟩) (Nat.le_refl _) (.int .i64 (opW z))) (p := ⟨w.heap.size, 4, none⟩) (Nat.le_refl _) (.int .i64 (aW z))) (p := ⟨w.heap.size, 5, none⟩) (Nat.le_refl _) (.int .i64 (bW z))) (p := ⟨w.heap.size, 6, none⟩) (Nat.le_refl _) (.int .i64 (cW z))) (p := ⟨w.heap.size, 7, none⟩) (Nat.le_refl _) (.int .i64 (sW z)))
  have l0 := L.cell 0 rfl
  have l1 := L.cell 1 rfl
  have l2 := L.cell 2 rfl
  have l3 := L.cell 3 rfl
  have l4 := L.cell 4 rfl
  have l5 := L.cell 5 rfl
  have l6 := L.cell 6 rfl
  have l7 := L.cell 7 rfl
  clear L R0
  refine bodyPost_ret (v := plV pb po B uo pc z) ?_ rfl ⟨rfl, bf.drew⟩
  unfold plV
  simp [results, Tryz.results95, go_sem, l0, l1, l2, l3, l4, l5, l6, l7]
end
end Go.Proofs.YtckapapejfnojaaGreatDoor

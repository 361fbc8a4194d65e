import Derived.Test.YtckapapejfnojaaGreatDoorTpA
import Derived.LaidMore
import Derived.WalkSmall
import Derived.Deep.QuietTactic
import Derived.Deep.RegionWith
import Derived.BigQuiet
import Derived.Deep.RegionHeld3
namespace Go.Proofs.YtckapapejfnojaaGreatDoor
open Go.RowKit
set_option linter.unusedVariables false
set_option linter.unusedSimpArgs false
/-- The table of the parts' shifts and sizes, as it lies in memory . -/
structure Spans (w : World) : Prop where
  c0 : w.cell? ⟨1, 0, none⟩ = some (.int .i64 0)
  c1 : w.cell? ⟨1, 1, none⟩ = some (.int .i64 6)
  c2 : w.cell? ⟨1, 2, none⟩ = some (.int .i64 6)
  c3 : w.cell? ⟨1, 3, none⟩ = some (.int .i64 8)
  c4 : w.cell? ⟨1, 4, none⟩ = some (.int .i64 14)
  c5 : w.cell? ⟨1, 5, none⟩ = some (.int .i64 9)
  c6 : w.cell? ⟨1, 6, none⟩ = some (.int .i64 23)
  c7 : w.cell? ⟨1, 7, none⟩ = some (.int .i64 9)
  pos : 1 < w.heap.size
theorem Spans.below {w w' : World} (h : Spans w) (hb : Below w.heap.size w w') : Spans w' := by
  obtain ⟨c0, c1, c2, c3, c4, c5, c6, c7, pos⟩ := h
  have hz : w.heap.size ≤ w'.heap.size := hb.size
  exact ⟨by rw [hb.cell pos]; exact c0, by rw [hb.cell pos]; exact c1, by rw [hb.cell pos]; exact c2, by rw [hb.cell pos]; exact c3, by rw [hb.cell pos]; exact c4, by rw [hb.cell pos]; exact c5, by rw [hb.cell pos]; exact c6, by rw [hb.cell pos]; exact c7, by omega⟩
theorem and_low (k : Nat) (x m : Nat) (hm : m = 2 ^ k - 1) (hx : x < 4294967296) (hm2 : m < 4294967296) : bits .and .u32 (x : Int) (m : Int) = ((x % 2 ^ k : Nat) : Int) := by
  rw [u32_and_nat x m hx hm2, hm, Nat.and_two_pow_sub_one_eq_mod]
theorem wideOf_any (b c : Int) (w : World) (h1 : 0 ≤ b) (h2 : b ≤ 511) (h3 : 0 ≤ c) (h4 : c ≤ 511) :
    Calls Tryz.prog 185 #[.int .i64 b, .int .i64 c] w fun e w' => e = .returned (.int .i64 (b + 512 * c + -131072)) ∧ w' = w := by
  go_enter Tryz.func185, Tryz.ntmps185
  go_wp2
  go_ret
  exact ⟨rfl, rfl⟩
set_option maxHeartbeats 1000000 in
theorem unpack_impl (x : Nat) (w : World) (hS : Spans w) (h2 : x ≤ 4294967295) :
    Calls Tryz.prog 162 #[.int .u32 x] w fun e w' => e = .returned (.agg #[.int .i64 (x % 64), .int .i64 (x / 64 % 256), .int .i64 (x / 16384 % 512), .int .i64 (x / 8388608), .int .i64 (x / 16384 % 512 + 512 * (x / 8388608) + -131072)]) ∧ Below w.heap.size w w' := by
  obtain ⟨c0, c1, c2, c3, c4, c5, c6, c7, pos⟩ := hS
  have m1 : ¬ (1 = w.heap.size) := by omega
  have m2 : ¬ (1 = w.heap.size + 1) := by omega
  have m3 : ¬ (w.heap.size = 1) := by omega
  have m4 : ¬ (w.heap.size + 1 = 1) := by omega
  have m5 : ¬ (w.heap.size = 0) := by omega
  have m6 : 0 < w.heap.size := by omega
  have m7 : 1 < w.heap.size + 1 := by omega
  have m8 : 1 < w.heap.size + 1 + 1 := by omega
  have e0 : bits .and .u32 (x : Int) 63 = (x : Int) % 64 := and_low 6 x 63 rfl (by omega) (by omega)
  have e1 : bits .and .u32 ((x : Int) / 64) 255 = (x : Int) / 64 % 256 := and_low 8 (x / 64) 255 rfl (by omega) (by omega)
  have e2 : bits .and .u32 ((x : Int) / 16384) 511 = (x : Int) / 16384 % 512 := and_low 9 (x / 16384) 511 rfl (by omega) (by omega)
  have e3 : bits .and .u32 ((x : Int) / 8388608) 511 = (x : Int) / 8388608 := by
    rw [show (x : Int) / 8388608 = ((x / 8388608 : Nat) : Int) from by omega, show (511 : Int) = ((511 : Nat) : Int) from rfl, and_low 9 (x / 8388608) 511 rfl (by omega) (by omega)]; omega
  go_enter Tryz.func162, Tryz.ntmps162
  go_wp2
  refine wp_loop_rounds 5 ?_
  rw [rounds_succ]
  go_wp2
  go_region
  go_wp2
  rw [rounds_succ]
  go_wp2
  go_region
  go_wp2
  rw [rounds_succ]
  go_wp2
  go_region
  go_wp2
  rw [rounds_succ]
  go_wp2
  go_region
  go_wp2
  rw [rounds_succ]
  go_wp2
  go_region_held3 (fun w' => w'.cell? ⟨w.heap.size + 1, 0, none⟩ = some (.int .i64 (x % 64)) ∧ w'.cell? ⟨w.heap.size + 1, 1, none⟩ = some (.int .i64 (x / 64 % 256)) ∧ w'.cell? ⟨w.heap.size + 1, 2, none⟩ = some (.int .i64 (x / 16384 % 512)) ∧ w'.cell? ⟨w.heap.size + 1, 3, none⟩ = some (.int .i64 (x / 8388608))) (go_keep)
    (first | (go_at_call 185; refine (wideOf_any _ _ _ (by omega) (by omega) (by omega) (by omega)).mono ?_; rintro e w' ⟨rfl, rfl⟩))
  go_wp2
  exact bodyPost_ret (v := .agg #[.int .i64 (x % 64), .int .i64 (x / 64 % 256), .int .i64 (x / 16384 % 512), .int .i64 (x / 8388608), .int .i64 (x / 16384 % 512 + 512 * (x / 8388608) + -131072)]) (by simp [results, Tryz.results162, go_sem]) rfl ⟨rfl, by go_grown⟩
theorem unpackI (z : Int) (w : World) (hS : Spans w) (h1 : 0 ≤ z) (h2 : z ≤ 4294967295) :
    Calls Tryz.prog 162 #[.int .u32 z] w fun e w' => e = .returned (insV (opW z) (aW z) (bW z) (cW z) (sW z)) ∧ Below w.heap.size w w' := by
  obtain ⟨x, rfl⟩ := Int.eq_ofNat_of_zero_le h1
  refine (unpack_impl x w hS (by omega)).mono fun e w' ⟨he, hb⟩ => ⟨?_, hb⟩
  rw [he]
  unfold insV opW aW bW cW sW bW cW
  rw [Int.sub_eq_add_neg]
end Go.Proofs.YtckapapejfnojaaGreatDoor

import Derived.Test.YtckapapejfnojaaGreatDoorStB
import Derived.Deep.RegionHeld3
namespace Go.Proofs.YtckapapejfnojaaGreatDoor
open Go.RowKit
set_option linter.unusedVariables false
set_option linter.unusedSimpArgs false

set_option maxRecDepth 100000 in
set_option maxHeartbeats 2000000 in
theorem heldIntS_in (n : Nat) (v : Value) (k : Int) (w : World) (hv : IsArr (· < w.heap.size) w v 1 n (fun i _ => .int .i64 (k + (i : Int)))) (hn : n ≤ 1048576) (h0 : 1 ≤ k) (h1 : k ≤ 1152921504606846976) :
    Calls Tryz.prog 17 #[v, .int .i64 k] w fun e w' => e = .returned (.int .i64 (k + 1 * n)) ∧ Below w.heap.size w w' := by
  obtain ⟨ao, cap, rfl, hm, hc⟩ := hv
  have hc' : Hid (0 < n → ∃ b o, ao = some ⟨b, o, none⟩ ∧ b < w.heap.size ∧ ∀ i, i < n → ∀ j, j < 1 → w.cell? ⟨b, o + i * 1 + j, none⟩ = some ((fun i _ => .int .i64 (k + (i : Int))) i j)) := hc
  clear hc
  go_enter Tryz.func17, Tryz.ntmps17
  go_wp2_with fail
  go_loopw [1, 5] (fun kv i wr => ∃ (i' : Nat), kv = .int .i64 (k + 1 * (i' : Int)) ∧ i = .int .i64 (i' : Int) ∧ i' ≤ n ∧ Below w.heap.size w wr) (fun _ i _ => n - (intOf i).toNat)
  case atStart => exact ⟨0, by simp, rfl, by omega, Below.refl _ _⟩
  case round =>
    obtain ⟨i', rfl, rfl, q1, q2⟩ := hrel
    by_cases hi : i' < n
    · obtain ⟨b, o, rfl, hb, hcc⟩ := hc'.out (by omega)
      have c0 := hcc i' hi 0 (by omega)
      rw [← q2.cell (p := ⟨b, _, none⟩) hb] at c0
      simp only [Nat.add_zero, Nat.mul_one] at c0
      clear hcc hc'
      go_wp2_with fail
      go_roundw
      case rel => exact ⟨i' + 1, by simp; omega, rfl, by omega, q2⟩
      case measure => simp [intOf]; omega
    · obtain rfl : i' = n := by omega
      go_wp2_with fail
      go_ret
      exact ⟨by simp, q2⟩

end Go.Proofs.YtckapapejfnojaaGreatDoor

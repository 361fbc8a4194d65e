import Derived.Test.YtpobiffihiaakaaGreatDoorSgB
import Derived.Deep.RegionHeld3
namespace Go.Proofs.YtpobiffihiaakaaGreatDoor
section
open Go.RowKit
set_option linter.unusedVariables false
set_option linter.unusedSimpArgs false

set_option maxRecDepth 100000 in
set_option maxHeartbeats 2000000 in
theorem heldIntS_in (n : Nat) (v : Value) (k : Int) (w : World) (hv : IsArr (· < w.heap.size) w v 1 n (fun i _ => .int .i64 (k + (i : Int)))) (hn : n ≤ 1048576) (h0 : 1 ≤ k) (h1 : k ≤ 1152921504606846976) :
    Calls Tryz.prog 38 #[v, .int .i64 k] w fun e w' => e = .returned (.int .i64 (k + 1 * n)) ∧ Below w.heap.size w w' := by
  obtain ⟨ao, cap, rfl, hm, hc⟩ := hv
  have hc' : Hid (0 < n → ∃ b o, ao = some ⟨b, o, none⟩ ∧ b < w.heap.size ∧ ∀ i, i < n → ∀ j, j < 1 → w.cell? ⟨b, o + i * 1 + j, none⟩ = some ((fun i _ => .int .i64 (k + (i : Int))) i j)) := hc
  clear hc
  go_enter Tryz.func38, Tryz.ntmps38
  go_wp2_with fail
  go_loopw [1, 5] (fun kv i wr => ∃ (i' : Nat), kv = .int .i64 (k + 1 * (i' : Int)) ∧ i = .int .i64 (i' : Int) ∧ i' ≤ n ∧ Below w.heap.size w wr) (fun _ i _ => n - (intOf i).toNat)
  case atStart => exact ⟨0, by simp, rfl, by omega, Below.refl _ _⟩
  case round =>
    obtain ⟨i', rfl, rfl, q1, q2⟩ := hrel
    by_cases hi : i' < n
    · obtain ⟨b, o, rfl, hb, hcc⟩ := hc'.out (by omega)
      have c0 := hcc i' hi 0 (by omega)
      rw [← q2.cell (p := ⟨b, _, none⟩) hb] at c0
      simp only [Nat.add_zero, Nat.mul_one] at c0
      clear hcc hc'
      go_wp2_with fail
      go_roundw
      case rel => exact ⟨i' + 1, by simp; omega, rfl, by omega, q2⟩
      case measure => simp [intOf]; omega
    · obtain rfl : i' = n := by omega
      go_wp2_with fail
      go_ret
      exact ⟨by simp, q2⟩

end
section
open Go.RowKit
set_option linter.unusedVariables false
set_option linter.unusedSimpArgs false
theorem markChunk_in (n : Nat) (v : Value) (f : Nat → PD) (w : World) (lo hi B0 : Nat) (rng : Nat → Nat) (a : Nat → Nat → Value) (b : Nat → Nat → Nat) (hv : COwn w v n f lo hi B0 rng a b) (hhi : hi ≤ w.heap.size)
    (hs : SmallC ⟨n, f⟩) (hkb : ∀ i, i ≤ n → 1 ≤ kAt 1 f i ∧ kAt 1 f i ≤ 576460752303423488) :
    Calls Tryz.prog 7 #[.agg #[v], .int .i64 1] w fun e w' => e = .returned (.int .i64 (kAt 1 f n)) ∧ COwn w' v n (fun i => mkP (kAt 1 f i) (f i)) lo hi B0 rng a b ∧ Fr B0 (rng 0) hi w w' := by
  have hv' : Hid _ := hv
  have hk' : Hid _ := hkb
  obtain ⟨⟨ao, cap, rfl, -, -⟩, -, -, -, -, -⟩ := hv
  clear hkb
  go_enter Tryz.func7, Tryz.ntmps7
  go_wp2_with fail
  have hb0 : Below w.heap.size w (w.alloc (.cells #[.slice ao n cap] 24)) := by go_grown
  generalize w.alloc (.cells #[.slice ao n cap] 24) = w0 at hb0 ⊢
  have hC : COwn w0 (.slice ao n cap) n f lo hi B0 rng a b := by
    obtain ⟨c1, c2, c3, c4, c5, c6⟩ := hv'.out
    refine ⟨c1.keep fun hp => hb0.block _ (c1.lt hp), c2, c3, c4, c5, fun i hi2 => (c6 i hi2).keep fun c h1 h2 h3 => hb0.block _ h3⟩
  refine (markProtoS_in n _ f 1 _ lo hi B0 rng a b hC hs (by omega) hk'.out).mono ?_
  rintro e w1 ⟨rfl, hC1, hF⟩
  have hF' : Hid (Fr B0 (rng 0) hi w w1) := (Fr.of_below hb0).trans hF
  have hC1' : Hid _ := hC1
  clear hv' hk' hC hC1 hF
  go_wp2_with fail
  go_ret
  exact ⟨rfl, hC1'.out, hF'.out⟩
end
end Go.Proofs.YtpobiffihiaakaaGreatDoor

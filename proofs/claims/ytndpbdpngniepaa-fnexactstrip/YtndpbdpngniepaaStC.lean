import Derived.Test.YtndpbdpngniepaaStB
import Derived.Deep.RegionHeld3
namespace Go.Proofs.Ytndpbdpngniepaa
open Go.RowKit
set_option linter.unusedVariables false
set_option linter.unusedSimpArgs false

set_option maxRecDepth 100000 in
set_option maxHeartbeats 2000000 in
theorem heldUint32S_in (n : Nat) (v : Value) (k : Int) (w : World) (hv : IsArr (· < w.heap.size) w v 1 n (fun i _ => .int .u32 ((k + (i : Int)) % 4294967296))) (hn : n ≤ 1048576) (h0 : 1 ≤ k) (h1 : k ≤ 1152921504606846976) :
    Calls Try.prog 68 #[v, .int .i64 k] w fun e w' => e = .returned (.int .i64 (k + 1 * n)) ∧ Below w.heap.size w w' := by
  obtain ⟨ao, cap, rfl, hm, hc⟩ := hv
  have hc' : Hid (0 < n → ∃ b o, ao = some ⟨b, o, none⟩ ∧ b < w.heap.size ∧ ∀ i, i < n → ∀ j, j < 1 → w.cell? ⟨b, o + i * 1 + j, none⟩ = some ((fun i _ => .int .u32 ((k + (i : Int)) % 4294967296)) i j)) := hc
  clear hc
  go_enter Try.func68, Try.ntmps68
  go_wp2_with fail
  go_loopw [1, 5] (fun kv i wr => ∃ (i' : Nat), kv = .int .i64 (k + 1 * (i' : Int)) ∧ i = .int .i64 (i' : Int) ∧ i' ≤ n ∧ Below w.heap.size w wr) (fun _ i _ => n - (intOf i).toNat)
  case atStart => exact ⟨0, by simp, rfl, by omega, Below.refl _ _⟩
  case round =>
    obtain ⟨i', rfl, rfl, q1, q2⟩ := hrel
    by_cases hi : i' < n
    · obtain ⟨b, o, rfl, hb, hcc⟩ := hc'.out (by omega)
      have c0 := hcc i' hi 0 (by omega)
      rw [← q2.cell (p := ⟨b, _, none⟩) hb] at c0
      simp only [Nat.add_zero, Nat.mul_one] at c0
      clear hcc hc'
      go_wp2_with fail
      go_roundw
      case rel => exact ⟨i' + 1, by simp; omega, rfl, by omega, q2⟩
      case measure => simp [intOf]; omega
    · obtain rfl : i' = n := by omega
      go_wp2_with fail
      go_ret
      exact ⟨by simp, q2⟩

set_option maxRecDepth 100000 in
set_option maxHeartbeats 2000000 in
theorem heldIntS_in (n : Nat) (v : Value) (k : Int) (w : World) (hv : IsArr (· < w.heap.size) w v 1 n (fun i _ => .int .i64 (k + (i : Int)))) (hn : n ≤ 1048576) (h0 : 1 ≤ k) (h1 : k ≤ 1152921504606846976) :
    Calls Try.prog 71 #[v, .int .i64 k] w fun e w' => e = .returned (.int .i64 (k + 1 * n)) ∧ Below w.heap.size w w' := by
  obtain ⟨ao, cap, rfl, hm, hc⟩ := hv
  have hc' : Hid (0 < n → ∃ b o, ao = some ⟨b, o, none⟩ ∧ b < w.heap.size ∧ ∀ i, i < n → ∀ j, j < 1 → w.cell? ⟨b, o + i * 1 + j, none⟩ = some ((fun i _ => .int .i64 (k + (i : Int))) i j)) := hc
  clear hc
  go_enter Try.func71, Try.ntmps71
  go_wp2_with fail
  go_loopw [1, 5] (fun kv i wr => ∃ (i' : Nat), kv = .int .i64 (k + 1 * (i' : Int)) ∧ i = .int .i64 (i' : Int) ∧ i' ≤ n ∧ Below w.heap.size w wr) (fun _ i _ => n - (intOf i).toNat)
  case atStart => exact ⟨0, by simp, rfl, by omega, Below.refl _ _⟩
  case round =>
    obtain ⟨i', rfl, rfl, q1, q2⟩ := hrel
    by_cases hi : i' < n
    · obtain ⟨b, o, rfl, hb, hcc⟩ := hc'.out (by omega)
      have c0 := hcc i' hi 0 (by omega)
      rw [← q2.cell (p := ⟨b, _, none⟩) hb] at c0
      simp only [Nat.add_zero, Nat.mul_one] at c0
      clear hcc hc'
      go_wp2_with fail
      go_roundw
      case rel => exact ⟨i' + 1, by simp; omega, rfl, by omega, q2⟩
      case measure => simp [intOf]; omega
    · obtain rfl : i' = n := by omega
      go_wp2_with fail
      go_ret
      exact ⟨by simp, q2⟩

set_option maxRecDepth 100000 in
set_option maxHeartbeats 2000000 in
theorem heldUpS_in (n : Nat) (v : Value) (k : Int) (w : World) (hv : IsArr (· < w.heap.size) w v 2 n (fun i j => match j with | 0 => .bool ((k + 2 * (i : Int)) % 3 == 0) | _ => .int .i64 (k + 2 * (i : Int) + 1))) (hn : n ≤ 1048576) (h0 : 1 ≤ k) (h1 : k ≤ 1152921504606846976) :
    Calls Try.prog 70 #[v, .int .i64 k] w fun e w' => e = .returned (.int .i64 (k + 2 * n)) ∧ Below w.heap.size w w' := by
  obtain ⟨ao, cap, rfl, hm, hc⟩ := hv
  have hc' : Hid (0 < n → ∃ b o, ao = some ⟨b, o, none⟩ ∧ b < w.heap.size ∧ ∀ i, i < n → ∀ j, j < 2 → w.cell? ⟨b, o + i * 2 + j, none⟩ = some ((fun i j => match j with | 0 => .bool ((k + 2 * (i : Int)) % 3 == 0) | _ => .int .i64 (k + 2 * (i : Int) + 1)) i j)) := hc
  clear hc
  go_enter Try.func70, Try.ntmps70
  go_wp2_with fail
  go_loopw [1, 5] (fun kv i wr => ∃ (i' : Nat), kv = .int .i64 (k + 2 * (i' : Int)) ∧ i = .int .i64 (i' : Int) ∧ i' ≤ n ∧ Below w.heap.size w wr) (fun _ i _ => n - (intOf i).toNat)
  case atStart => exact ⟨0, by simp, rfl, by omega, Below.refl _ _⟩
  case round =>
    obtain ⟨i', rfl, rfl, q1, q2⟩ := hrel
    by_cases hi : i' < n
    · obtain ⟨b, o, rfl, hb, hcc⟩ := hc'.out (by omega)
      have c0 := hcc i' hi 0 (by omega)
      have c1 := hcc i' hi 1 (by omega)
      rw [← q2.cell (p := ⟨b, _, none⟩) hb] at c0 c1
      simp only [Nat.add_zero, Nat.mul_one] at c0 c1
      clear hcc hc'
      go_wp2_with fail
      go_roundw
      case rel => exact ⟨i' + 1, by congr 1; omega, rfl, by omega, q2⟩
      case measure => simp [intOf]; omega
    · obtain rfl : i' = n := by omega
      go_wp2_with fail
      go_ret
      exact ⟨rfl, q2⟩

set_option maxRecDepth 100000 in
set_option maxHeartbeats 2000000 in
theorem heldStringS_in (n : Nat) (v : Value) (k : Int) (w : World) (hv : IsArr (· < w.heap.size) w v 1 n (fun i _ => .string (mt (k + (i : Int))))) (hn : n ≤ 1048576) (h0 : 1 ≤ k) (h1 : k ≤ 1152921504606846976) :
    Calls Try.prog 72 #[v, .int .i64 k] w fun e w' => e = .returned (.int .i64 (k + 1 * n)) ∧ Below w.heap.size w w' := by
  obtain ⟨ao, cap, rfl, hm, hc⟩ := hv
  have hc' : Hid (0 < n → ∃ b o, ao = some ⟨b, o, none⟩ ∧ b < w.heap.size ∧ ∀ i, i < n → ∀ j, j < 1 → w.cell? ⟨b, o + i * 1 + j, none⟩ = some ((fun i _ => .string (mt (k + (i : Int)))) i j)) := hc
  clear hc
  go_enter Try.func72, Try.ntmps72
  go_wp2_with fail
  go_loopw [1, 5] (fun kv i wr => ∃ (i' : Nat), kv = .int .i64 (k + 1 * (i' : Int)) ∧ i = .int .i64 (i' : Int) ∧ i' ≤ n ∧ Below w.heap.size w wr) (fun _ i _ => n - (intOf i).toNat)
  case atStart => exact ⟨0, by simp, rfl, by omega, Below.refl _ _⟩
  case round =>
    obtain ⟨i', rfl, rfl, q1, q2⟩ := hrel
    by_cases hi : i' < n
    · obtain ⟨b, o, rfl, hb, hcc⟩ := hc'.out (by omega)
      have c0 := hcc i' hi 0 (by omega)
      rw [← q2.cell (p := ⟨b, _, none⟩) hb] at c0
      simp only [Nat.add_zero, Nat.mul_one] at c0
      clear hcc hc'
      have hk : Hid (∀ y, Below wr.heap.size wr y → y.cell? ⟨b, o + i', none⟩ = some ((.string (mt (k + (i' : Int)))))) := fun y hy => (hy.cell (p := ⟨b, _, none⟩) (Nat.lt_of_lt_of_le hb q2.size)).trans c0
      go_wp2_with fail
      go_region_held3 (fun y => y.cell? ⟨b, o + i', none⟩ = some ((.string (mt (k + (i' : Int)))))) (first | exact hk.out _ (Below.refl _ _).drew | assumption) (first | (go_at_call 65; refine (markText_in (k + (i' : Int)) _ (by omega) (by omega)).mono ?_; rintro e w1 ⟨rfl, b1⟩; have hs1 := hk.out w1 ((Below.refl _ _).drew.trans b1)))
      clear hs1
      have hb1 : Below w.heap.size w w1 := q2.drew.trans (b1.mono q2.size)
      clear hk
      go_wp2_with fail
      go_roundw
      case rel => exact ⟨i' + 1, by simp; omega, rfl, by omega, hb1⟩
      case measure => simp [intOf]; omega
    · obtain rfl : i' = n := by omega
      go_wp2_with fail
      go_ret
      exact ⟨by simp, q2⟩

set_option maxRecDepth 100000 in
set_option maxHeartbeats 2000000 in
theorem heldValueS_in (n : Nat) (v : Value) (k : Int) (w : World) (hv : IsArr (· < w.heap.size) w v 3 n (fun i j => match j with | 0 => .int .i64 (k + 3 * (i : Int)) | 1 => .int .i64 (k + 3 * (i : Int) + 1) | _ => .string (mt (k + 3 * (i : Int) + 1 + 1)))) (hn : n ≤ 1048576) (h0 : 1 ≤ k) (h1 : k ≤ 1152921504606846976) :
    Calls Try.prog 69 #[v, .int .i64 k] w fun e w' => e = .returned (.int .i64 (k + 3 * n)) ∧ Below w.heap.size w w' := by
  obtain ⟨ao, cap, rfl, hm, hc⟩ := hv
  have hc' : Hid (0 < n → ∃ b o, ao = some ⟨b, o, none⟩ ∧ b < w.heap.size ∧ ∀ i, i < n → ∀ j, j < 3 → w.cell? ⟨b, o + i * 3 + j, none⟩ = some ((fun i j => match j with | 0 => .int .i64 (k + 3 * (i : Int)) | 1 => .int .i64 (k + 3 * (i : Int) + 1) | _ => .string (mt (k + 3 * (i : Int) + 1 + 1))) i j)) := hc
  clear hc
  go_enter Try.func69, Try.ntmps69
  go_wp2_with fail
  go_loopw [1, 5] (fun kv i wr => ∃ (i' : Nat), kv = .int .i64 (k + 3 * (i' : Int)) ∧ i = .int .i64 (i' : Int) ∧ i' ≤ n ∧ Below w.heap.size w wr) (fun _ i _ => n - (intOf i).toNat)
  case atStart => exact ⟨0, by simp, rfl, by omega, Below.refl _ _⟩
  case round =>
    obtain ⟨i', rfl, rfl, q1, q2⟩ := hrel
    by_cases hi : i' < n
    · obtain ⟨b, o, rfl, hb, hcc⟩ := hc'.out (by omega)
      have c0 := hcc i' hi 0 (by omega)
      have c1 := hcc i' hi 1 (by omega)
      have c2 := hcc i' hi 2 (by omega)
      rw [← q2.cell (p := ⟨b, _, none⟩) hb] at c0 c1 c2
      simp only [Nat.add_zero, Nat.mul_one] at c0 c1 c2
      clear hcc hc'
      have hk : Hid (∀ y, Below wr.heap.size wr y → y.cell? ⟨b, o + i' * 3 + 2, none⟩ = some ((.string (mt (k + 3 * (i' : Int) + 1 + 1))))) := fun y hy => (hy.cell (p := ⟨b, _, none⟩) (Nat.lt_of_lt_of_le hb q2.size)).trans c2
      go_wp2_with fail
      go_region_held3 (fun y => y.cell? ⟨b, o + i' * 3 + 2, none⟩ = some ((.string (mt (k + 3 * (i' : Int) + 1 + 1))))) (first | exact hk.out _ (Below.refl _ _).drew | assumption) (first | (go_at_call 65; refine (markText_in (k + 3 * (i' : Int) + 1 + 1) _ (by omega) (by omega)).mono ?_; rintro e w1 ⟨rfl, b1⟩; have hs1 := hk.out w1 ((Below.refl _ _).drew.trans b1)))
      clear hs1
      have hb1 : Below w.heap.size w w1 := q2.drew.trans (b1.mono q2.size)
      clear hk
      go_wp2_with fail
      go_roundw
      case rel => exact ⟨i' + 1, by congr 1; omega, rfl, by omega, hb1⟩
      case measure => simp [intOf]; omega
    · obtain rfl : i' = n := by omega
      go_wp2_with fail
      go_ret
      exact ⟨rfl, q2⟩
end Go.Proofs.Ytndpbdpngniepaa

import Derived.Test.YtndpbdpngniepaaVarA
import Derived.Deep.RegionHeld3
namespace Go.Proofs.Ytndpbdpngniepaa
open Go.RowKit
set_option linter.unusedVariables false
set_option maxRecDepth 100000 in
theorem ret_iib {k l : IntKind} {a b a' b' : Int} {c : Bool} (h : a = a') (g : b = b') : Ending.returned (.tuple #[.int k a, .int l b, .bool c]) = .returned (.tuple #[.int k a', .int l b', .bool c]) := by rw [h, g]
set_option maxRecDepth 100000 in
theorem specPutVarint_eq (x N : Int) (w : World) (h : x = N) : Calls Try.prog 10 #[.int .i64 x] w fun e w' => e = .returned (.string (pv N)) ∧ Below w.heap.size w w' := h ▸ specPutVarint x w
set_option maxRecDepth 100000 in
theorem implPutVarint_eq (x N : Int) (w : World) (h : x = N) : Calls Try.prog 11 #[.int .i64 x] w fun e w' => e = .returned (.string (pv N)) ∧ Below w.heap.size w w' := h ▸ implPutVarint x w
set_option maxRecDepth 100000 in
theorem sl_head (r : ByteArray) (n : Nat) (wx : World) (h : (n : Int) ≤ (r.size : Int)) : (Instr.slice 9 (.string r) none (some (.int .i64 n)) none).run Try.prog wx = .ok (.string (r.extract 0 n)) wx := by
  have := run_slice_string_h (P := Try.prog) (t := 9) wx r Try.underlying9 .i64 (n : Int) (by omega) h
  simpa using this
set_option maxRecDepth 100000 in
set_option maxHeartbeats 1000000 in
theorem spec_S0t (s : ByteArray) (a : Nat) (w : World) (N : Int) (hs : s.size ≤ 1048576) (h : a + 0 < s.size)  (gk : (s[a].toNat : Int) < 128)
    (HN : Hid ((s[a].toNat : Int) % 128 = N)) (hz : (((pv N).size : Int) == 1) = true) :
    Calls Try.prog 12 #[.string s, .int .i64 a] w fun e w' => e = .returned (.tuple #[.int .i64 N, .int .i64 (a + 1), .bool true]) ∧ Below w.heap.size w w' := by
  have l0 : (s[a].toNat : Int) ≤ 255 := by have := s[a].toNat_lt; omega
  go_enter Try.func12, Try.ntmps12
  go_wp2_with fail
  refine wp_loop_rounds 5 ?_
  rw [rounds_succ]
  go_wp2_with fail
  refine (specPutVarint_eq ((s[a].toNat : Int) % 128) N _ HN.out).mono ?_
  rintro e w1 ⟨rfl, b1⟩
  go_wp2_with fail
  go_ret3
  exact ⟨ret_iib HN.out (by omega), b1⟩
set_option maxRecDepth 100000 in
set_option maxHeartbeats 1000000 in
theorem spec_S0f (s : ByteArray) (a : Nat) (w : World) (N : Int) (hs : s.size ≤ 1048576) (h : a + 0 < s.size)  (gk : (s[a].toNat : Int) < 128)
    (HN : Hid ((s[a].toNat : Int) % 128 = N)) (hz : (((pv N).size : Int) == 1) = false) :
    Calls Try.prog 12 #[.string s, .int .i64 a] w fun e w' => e = .returned (.tuple #[.int .i64 0, .int .i64 0, .bool false]) ∧ Below w.heap.size w w' := by
  have l0 : (s[a].toNat : Int) ≤ 255 := by have := s[a].toNat_lt; omega
  go_enter Try.func12, Try.ntmps12
  go_wp2_with fail
  refine wp_loop_rounds 5 ?_
  rw [rounds_succ]
  go_wp2_with fail
  refine (specPutVarint_eq ((s[a].toNat : Int) % 128) N _ HN.out).mono ?_
  rintro e w1 ⟨rfl, b1⟩
  go_wp2_with fail
  go_ret3
  exact ⟨rfl, b1⟩
set_option maxRecDepth 100000 in
set_option maxHeartbeats 1000000 in
theorem spec_S1t (s : ByteArray) (a : Nat) (w : World) (N : Int) (hs : s.size ≤ 1048576) (h : a + 1 < s.size) (g0 : 128 ≤ (s[a].toNat : Int)) (gk : (s[a + 1].toNat : Int) < 128)
    (HN : Hid ((s[a].toNat : Int) % 128 + (s[a + 1].toNat : Int) % 128 * 128 = N)) (hz : (((pv N).size : Int) == 2) = true) :
    Calls Try.prog 12 #[.string s, .int .i64 a] w fun e w' => e = .returned (.tuple #[.int .i64 N, .int .i64 (a + 2), .bool true]) ∧ Below w.heap.size w w' := by
  have l0 : (s[a].toNat : Int) ≤ 255 := by have := s[a].toNat_lt; omega
  have l1 : (s[a + 1].toNat : Int) ≤ 255 := by have := s[a + 1].toNat_lt; omega
  go_enter Try.func12, Try.ntmps12
  go_wp2_with fail
  refine wp_loop_rounds 5 ?_
  rw [rounds_succ]
  go_wp2_with fail
  rw [rounds_succ]
  go_wp2_with fail
  refine (specPutVarint_eq ((s[a].toNat : Int) % 128 + (s[a + 1].toNat : Int) % 128 * 128) N _ HN.out).mono ?_
  rintro e w1 ⟨rfl, b1⟩
  go_wp2_with fail
  go_ret3
  exact ⟨ret_iib HN.out (by omega), b1⟩
set_option maxRecDepth 100000 in
set_option maxHeartbeats 1000000 in
theorem spec_S1f (s : ByteArray) (a : Nat) (w : World) (N : Int) (hs : s.size ≤ 1048576) (h : a + 1 < s.size) (g0 : 128 ≤ (s[a].toNat : Int)) (gk : (s[a + 1].toNat : Int) < 128)
    (HN : Hid ((s[a].toNat : Int) % 128 + (s[a + 1].toNat : Int) % 128 * 128 = N)) (hz : (((pv N).size : Int) == 2) = false) :
    Calls Try.prog 12 #[.string s, .int .i64 a] w fun e w' => e = .returned (.tuple #[.int .i64 0, .int .i64 0, .bool false]) ∧ Below w.heap.size w w' := by
  have l0 : (s[a].toNat : Int) ≤ 255 := by have := s[a].toNat_lt; omega
  have l1 : (s[a + 1].toNat : Int) ≤ 255 := by have := s[a + 1].toNat_lt; omega
  go_enter Try.func12, Try.ntmps12
  go_wp2_with fail
  refine wp_loop_rounds 5 ?_
  rw [rounds_succ]
  go_wp2_with fail
  rw [rounds_succ]
  go_wp2_with fail
  refine (specPutVarint_eq ((s[a].toNat : Int) % 128 + (s[a + 1].toNat : Int) % 128 * 128) N _ HN.out).mono ?_
  rintro e w1 ⟨rfl, b1⟩
  go_wp2_with fail
  go_ret3
  exact ⟨rfl, b1⟩
set_option maxRecDepth 100000 in
set_option maxHeartbeats 1000000 in
theorem spec_S2t (s : ByteArray) (a : Nat) (w : World) (N : Int) (hs : s.size ≤ 1048576) (h : a + 2 < s.size) (g0 : 128 ≤ (s[a].toNat : Int)) (g1 : 128 ≤ (s[a + 1].toNat : Int)) (gk : (s[a + 2].toNat : Int) < 128)
    (HN : Hid ((s[a].toNat : Int) % 128 + (s[a + 1].toNat : Int) % 128 * 128 + (s[a + 2].toNat : Int) % 128 * 16384 = N)) (hz : (((pv N).size : Int) == 3) = true) :
    Calls Try.prog 12 #[.string s, .int .i64 a] w fun e w' => e = .returned (.tuple #[.int .i64 N, .int .i64 (a + 3), .bool true]) ∧ Below w.heap.size w w' := by
  have l0 : (s[a].toNat : Int) ≤ 255 := by have := s[a].toNat_lt; omega
  have l1 : (s[a + 1].toNat : Int) ≤ 255 := by have := s[a + 1].toNat_lt; omega
  have l2 : (s[a + 2].toNat : Int) ≤ 255 := by have := s[a + 2].toNat_lt; omega
  go_enter Try.func12, Try.ntmps12
  go_wp2_with fail
  refine wp_loop_rounds 5 ?_
  rw [rounds_succ]
  go_wp2_with fail
  rw [rounds_succ]
  go_wp2_with fail
  rw [rounds_succ]
  go_wp2_with fail
  refine (specPutVarint_eq ((s[a].toNat : Int) % 128 + (s[a + 1].toNat : Int) % 128 * 128 + (s[a + 2].toNat : Int) % 128 * 16384) N _ HN.out).mono ?_
  rintro e w1 ⟨rfl, b1⟩
  go_wp2_with fail
  go_ret3
  exact ⟨ret_iib HN.out (by omega), b1⟩
set_option maxRecDepth 100000 in
set_option maxHeartbeats 1000000 in
theorem spec_S2f (s : ByteArray) (a : Nat) (w : World) (N : Int) (hs : s.size ≤ 1048576) (h : a + 2 < s.size) (g0 : 128 ≤ (s[a].toNat : Int)) (g1 : 128 ≤ (s[a + 1].toNat : Int)) (gk : (s[a + 2].toNat : Int) < 128)
    (HN : Hid ((s[a].toNat : Int) % 128 + (s[a + 1].toNat : Int) % 128 * 128 + (s[a + 2].toNat : Int) % 128 * 16384 = N)) (hz : (((pv N).size : Int) == 3) = false) :
    Calls Try.prog 12 #[.string s, .int .i64 a] w fun e w' => e = .returned (.tuple #[.int .i64 0, .int .i64 0, .bool false]) ∧ Below w.heap.size w w' := by
  have l0 : (s[a].toNat : Int) ≤ 255 := by have := s[a].toNat_lt; omega
  have l1 : (s[a + 1].toNat : Int) ≤ 255 := by have := s[a + 1].toNat_lt; omega
  have l2 : (s[a + 2].toNat : Int) ≤ 255 := by have := s[a + 2].toNat_lt; omega
  go_enter Try.func12, Try.ntmps12
  go_wp2_with fail
  refine wp_loop_rounds 5 ?_
  rw [rounds_succ]
  go_wp2_with fail
  rw [rounds_succ]
  go_wp2_with fail
  rw [rounds_succ]
  go_wp2_with fail
  refine (specPutVarint_eq ((s[a].toNat : Int) % 128 + (s[a + 1].toNat : Int) % 128 * 128 + (s[a + 2].toNat : Int) % 128 * 16384) N _ HN.out).mono ?_
  rintro e w1 ⟨rfl, b1⟩
  go_wp2_with fail
  go_ret3
  exact ⟨rfl, b1⟩
set_option maxRecDepth 100000 in
set_option maxHeartbeats 1000000 in
theorem spec_S3t (s : ByteArray) (a : Nat) (w : World) (N : Int) (hs : s.size ≤ 1048576) (h : a + 3 < s.size) (g0 : 128 ≤ (s[a].toNat : Int)) (g1 : 128 ≤ (s[a + 1].toNat : Int)) (g2 : 128 ≤ (s[a + 2].toNat : Int)) (gk : (s[a + 3].toNat : Int) < 128)
    (HN : Hid ((s[a].toNat : Int) % 128 + (s[a + 1].toNat : Int) % 128 * 128 + (s[a + 2].toNat : Int) % 128 * 16384 + (s[a + 3].toNat : Int) % 128 * 2097152 = N)) (hz : (((pv N).size : Int) == 4) = true) :
    Calls Try.prog 12 #[.string s, .int .i64 a] w fun e w' => e = .returned (.tuple #[.int .i64 N, .int .i64 (a + 4), .bool true]) ∧ Below w.heap.size w w' := by
  have l0 : (s[a].toNat : Int) ≤ 255 := by have := s[a].toNat_lt; omega
  have l1 : (s[a + 1].toNat : Int) ≤ 255 := by have := s[a + 1].toNat_lt; omega
  have l2 : (s[a + 2].toNat : Int) ≤ 255 := by have := s[a + 2].toNat_lt; omega
  have l3 : (s[a + 3].toNat : Int) ≤ 255 := by have := s[a + 3].toNat_lt; omega
  go_enter Try.func12, Try.ntmps12
  go_wp2_with fail
  refine wp_loop_rounds 5 ?_
  rw [rounds_succ]
  go_wp2_with fail
  rw [rounds_succ]
  go_wp2_with fail
  rw [rounds_succ]
  go_wp2_with fail
  rw [rounds_succ]
  go_wp2_with fail
  refine (specPutVarint_eq ((s[a].toNat : Int) % 128 + (s[a + 1].toNat : Int) % 128 * 128 + (s[a + 2].toNat : Int) % 128 * 16384 + (s[a + 3].toNat : Int) % 128 * 2097152) N _ HN.out).mono ?_
  rintro e w1 ⟨rfl, b1⟩
  go_wp2_with fail
  go_ret3
  exact ⟨ret_iib HN.out (by omega), b1⟩
set_option maxRecDepth 100000 in
set_option maxHeartbeats 1000000 in
theorem spec_S3f (s : ByteArray) (a : Nat) (w : World) (N : Int) (hs : s.size ≤ 1048576) (h : a + 3 < s.size) (g0 : 128 ≤ (s[a].toNat : Int)) (g1 : 128 ≤ (s[a + 1].toNat : Int)) (g2 : 128 ≤ (s[a + 2].toNat : Int)) (gk : (s[a + 3].toNat : Int) < 128)
    (HN : Hid ((s[a].toNat : Int) % 128 + (s[a + 1].toNat : Int) % 128 * 128 + (s[a + 2].toNat : Int) % 128 * 16384 + (s[a + 3].toNat : Int) % 128 * 2097152 = N)) (hz : (((pv N).size : Int) == 4) = false) :
    Calls Try.prog 12 #[.string s, .int .i64 a] w fun e w' => e = .returned (.tuple #[.int .i64 0, .int .i64 0, .bool false]) ∧ Below w.heap.size w w' := by
  have l0 : (s[a].toNat : Int) ≤ 255 := by have := s[a].toNat_lt; omega
  have l1 : (s[a + 1].toNat : Int) ≤ 255 := by have := s[a + 1].toNat_lt; omega
  have l2 : (s[a + 2].toNat : Int) ≤ 255 := by have := s[a + 2].toNat_lt; omega
  have l3 : (s[a + 3].toNat : Int) ≤ 255 := by have := s[a + 3].toNat_lt; omega
  go_enter Try.func12, Try.ntmps12
  go_wp2_with fail
  refine wp_loop_rounds 5 ?_
  rw [rounds_succ]
  go_wp2_with fail
  rw [rounds_succ]
  go_wp2_with fail
  rw [rounds_succ]
  go_wp2_with fail
  rw [rounds_succ]
  go_wp2_with fail
  refine (specPutVarint_eq ((s[a].toNat : Int) % 128 + (s[a + 1].toNat : Int) % 128 * 128 + (s[a + 2].toNat : Int) % 128 * 16384 + (s[a + 3].toNat : Int) % 128 * 2097152) N _ HN.out).mono ?_
  rintro e w1 ⟨rfl, b1⟩
  go_wp2_with fail
  go_ret3
  exact ⟨rfl, b1⟩
set_option maxRecDepth 100000 in
set_option maxHeartbeats 1000000 in
theorem spec_E0 (s : ByteArray) (a : Nat) (w : World) (hs : s.size ≤ 1048576) (h : s.size ≤ a) (h' : a ≤ s.size) :
    Calls Try.prog 12 #[.string s, .int .i64 a] w fun e w' => e = .returned (.tuple #[.int .i64 0, .int .i64 0, .bool false]) ∧ Below w.heap.size w w' := by

  go_enter Try.func12, Try.ntmps12
  go_wp2_with fail
  refine wp_loop_rounds 5 ?_
  rw [rounds_succ]
  go_wp2_with fail
  go_ret3
  exact ⟨rfl, Below.refl _ _⟩
set_option maxRecDepth 100000 in
set_option maxHeartbeats 1000000 in
theorem spec_E1 (s : ByteArray) (a : Nat) (w : World) (hs : s.size ≤ 1048576) (h : a + 0 < s.size) (g0 : 128 ≤ (s[a].toNat : Int)) (h' : s.size ≤ a + 1) :
    Calls Try.prog 12 #[.string s, .int .i64 a] w fun e w' => e = .returned (.tuple #[.int .i64 0, .int .i64 0, .bool false]) ∧ Below w.heap.size w w' := by
  have l0 : (s[a].toNat : Int) ≤ 255 := by have := s[a].toNat_lt; omega
  go_enter Try.func12, Try.ntmps12
  go_wp2_with fail
  refine wp_loop_rounds 5 ?_
  rw [rounds_succ]
  go_wp2_with fail
  rw [rounds_succ]
  go_wp2_with fail
  go_ret3
  exact ⟨rfl, Below.refl _ _⟩
set_option maxRecDepth 100000 in
set_option maxHeartbeats 1000000 in
theorem spec_E2 (s : ByteArray) (a : Nat) (w : World) (hs : s.size ≤ 1048576) (h : a + 1 < s.size) (g0 : 128 ≤ (s[a].toNat : Int)) (g1 : 128 ≤ (s[a + 1].toNat : Int)) (h' : s.size ≤ a + 2) :
    Calls Try.prog 12 #[.string s, .int .i64 a] w fun e w' => e = .returned (.tuple #[.int .i64 0, .int .i64 0, .bool false]) ∧ Below w.heap.size w w' := by
  have l0 : (s[a].toNat : Int) ≤ 255 := by have := s[a].toNat_lt; omega
  have l1 : (s[a + 1].toNat : Int) ≤ 255 := by have := s[a + 1].toNat_lt; omega
  go_enter Try.func12, Try.ntmps12
  go_wp2_with fail
  refine wp_loop_rounds 5 ?_
  rw [rounds_succ]
  go_wp2_with fail
  rw [rounds_succ]
  go_wp2_with fail
  rw [rounds_succ]
  go_wp2_with fail
  go_ret3
  exact ⟨rfl, Below.refl _ _⟩
set_option maxRecDepth 100000 in
set_option maxHeartbeats 1000000 in
theorem spec_E3 (s : ByteArray) (a : Nat) (w : World) (hs : s.size ≤ 1048576) (h : a + 2 < s.size) (g0 : 128 ≤ (s[a].toNat : Int)) (g1 : 128 ≤ (s[a + 1].toNat : Int)) (g2 : 128 ≤ (s[a + 2].toNat : Int)) (h' : s.size ≤ a + 3) :
    Calls Try.prog 12 #[.string s, .int .i64 a] w fun e w' => e = .returned (.tuple #[.int .i64 0, .int .i64 0, .bool false]) ∧ Below w.heap.size w w' := by
  have l0 : (s[a].toNat : Int) ≤ 255 := by have := s[a].toNat_lt; omega
  have l1 : (s[a + 1].toNat : Int) ≤ 255 := by have := s[a + 1].toNat_lt; omega
  have l2 : (s[a + 2].toNat : Int) ≤ 255 := by have := s[a + 2].toNat_lt; omega
  go_enter Try.func12, Try.ntmps12
  go_wp2_with fail
  refine wp_loop_rounds 5 ?_
  rw [rounds_succ]
  go_wp2_with fail
  rw [rounds_succ]
  go_wp2_with fail
  rw [rounds_succ]
  go_wp2_with fail
  rw [rounds_succ]
  go_wp2_with fail
  go_ret3
  exact ⟨rfl, Below.refl _ _⟩
set_option maxRecDepth 100000 in
set_option maxHeartbeats 1000000 in
theorem spec_E4 (s : ByteArray) (a : Nat) (w : World) (hs : s.size ≤ 1048576) (h : a + 3 < s.size) (g0 : 128 ≤ (s[a].toNat : Int)) (g1 : 128 ≤ (s[a + 1].toNat : Int)) (g2 : 128 ≤ (s[a + 2].toNat : Int)) (g3 : 128 ≤ (s[a + 3].toNat : Int)) :
    Calls Try.prog 12 #[.string s, .int .i64 a] w fun e w' => e = .returned (.tuple #[.int .i64 0, .int .i64 0, .bool false]) ∧ Below w.heap.size w w' := by
  have l0 : (s[a].toNat : Int) ≤ 255 := by have := s[a].toNat_lt; omega
  have l1 : (s[a + 1].toNat : Int) ≤ 255 := by have := s[a + 1].toNat_lt; omega
  have l2 : (s[a + 2].toNat : Int) ≤ 255 := by have := s[a + 2].toNat_lt; omega
  have l3 : (s[a + 3].toNat : Int) ≤ 255 := by have := s[a + 3].toNat_lt; omega
  go_enter Try.func12, Try.ntmps12
  go_wp2_with fail
  refine wp_loop_rounds 5 ?_
  rw [rounds_succ]
  go_wp2_with fail
  rw [rounds_succ]
  go_wp2_with fail
  rw [rounds_succ]
  go_wp2_with fail
  rw [rounds_succ]
  go_wp2_with fail
  rw [rounds_succ]
  go_wp2_with fail
  go_ret3
  exact ⟨rfl, Below.refl _ _⟩
end Go.Proofs.Ytndpbdpngniepaa

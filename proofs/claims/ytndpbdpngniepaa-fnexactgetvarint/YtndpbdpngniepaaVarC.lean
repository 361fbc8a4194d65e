import Derived.Test.YtndpbdpngniepaaVarB
namespace Go.Proofs.Ytndpbdpngniepaa
open Go.RowKit
set_option linter.unusedVariables false
set_option maxRecDepth 100000 in
set_option maxHeartbeats 1000000 in
theorem impl_S0ta (s r : ByteArray) (a : Nat) (w : World) (N : Int) (hs : s.size ≤ 1048576) (ha : a ≤ s.size) (hr : s.extract a s.size = r) (h : 0 < r.size)  (gk : (r[0].toNat : Int) < 128)
    (h4 : (r.size : Int) < 4) (HN : Hid ((r[0].toNat : Int) % 128 = N)) (he : ((pv N).toList == (r.extract 0 1).toList) = true) :
    Calls Try.prog 13 #[.string s, .int .i64 a] w fun e w' => e = .returned (.tuple #[.int .i64 N, .int .i64 (a + 1), .bool true]) ∧ Below w.heap.size w w' := by
  have l0 : (r[0].toNat : Int) ≤ 255 := by have := r[0].toNat_lt; omega
  have hq : (1 : Int) ≤ (r.size : Int) := by omega
  have hwr : IntKind.i64.wrap 1 = 1 := by decide
  have hsl : ∀ wx, (Instr.slice 9 (.string r) none (some (.int .i64 1)) none).run Try.prog wx = .ok (.string (r.extract 0 1)) wx := fun wx => sl_head r 1 wx hq
  go_enter Try.func13, Try.ntmps13
  go_wp2_with fail
  refine wp_loop_rounds 5 ?_
  rw [rounds_succ]
  go_wp2_with fail
  go_region_held3 (fun _ => True) (trivial) (first | (go_at_call 11; refine (implPutVarint_eq ((r[0].toNat : Int) % 128) N _ HN.out).mono ?_; rintro e w1 ⟨rfl, b1⟩))
  go_wp2_with fail
  go_ret3
  exact ⟨ret_iib HN.out (by omega), (Below.refl w.heap.size w).drew.trans b1⟩
set_option maxRecDepth 100000 in
set_option maxHeartbeats 1000000 in
theorem impl_S0tb (s r : ByteArray) (a : Nat) (w : World) (N : Int) (hs : s.size ≤ 1048576) (ha : a ≤ s.size) (hr : s.extract a s.size = r) (h : 0 < r.size)  (gk : (r[0].toNat : Int) < 128)
    (h4 : ¬ (r.size : Int) < 4) (HN : Hid ((r[0].toNat : Int) % 128 = N)) (he : ((pv N).toList == (r.extract 0 1).toList) = true) :
    Calls Try.prog 13 #[.string s, .int .i64 a] w fun e w' => e = .returned (.tuple #[.int .i64 N, .int .i64 (a + 1), .bool true]) ∧ Below w.heap.size w w' := by
  have l0 : (r[0].toNat : Int) ≤ 255 := by have := r[0].toNat_lt; omega
  have hq : (1 : Int) ≤ (r.size : Int) := by omega
  have hwr : IntKind.i64.wrap 1 = 1 := by decide
  have hsl : ∀ wx, (Instr.slice 9 (.string r) none (some (.int .i64 1)) none).run Try.prog wx = .ok (.string (r.extract 0 1)) wx := fun wx => sl_head r 1 wx hq
  go_enter Try.func13, Try.ntmps13
  go_wp2_with fail
  refine wp_loop_rounds 5 ?_
  rw [rounds_succ]
  go_wp2_with fail
  go_region_held3 (fun _ => True) (trivial) (first | (go_at_call 11; refine (implPutVarint_eq ((r[0].toNat : Int) % 128) N _ HN.out).mono ?_; rintro e w1 ⟨rfl, b1⟩))
  go_wp2_with fail
  go_ret3
  exact ⟨ret_iib HN.out (by omega), (Below.refl w.heap.size w).drew.trans b1⟩
set_option maxRecDepth 100000 in
set_option maxHeartbeats 1000000 in
theorem impl_S0fa (s r : ByteArray) (a : Nat) (w : World) (N : Int) (hs : s.size ≤ 1048576) (ha : a ≤ s.size) (hr : s.extract a s.size = r) (h : 0 < r.size)  (gk : (r[0].toNat : Int) < 128)
    (h4 : (r.size : Int) < 4) (HN : Hid ((r[0].toNat : Int) % 128 = N)) (he : ((pv N).toList == (r.extract 0 1).toList) = false) :
    Calls Try.prog 13 #[.string s, .int .i64 a] w fun e w' => e = .returned (.tuple #[.int .i64 0, .int .i64 0, .bool false]) ∧ Below w.heap.size w w' := by
  have l0 : (r[0].toNat : Int) ≤ 255 := by have := r[0].toNat_lt; omega
  have hq : (1 : Int) ≤ (r.size : Int) := by omega
  have hwr : IntKind.i64.wrap 1 = 1 := by decide
  have hsl : ∀ wx, (Instr.slice 9 (.string r) none (some (.int .i64 1)) none).run Try.prog wx = .ok (.string (r.extract 0 1)) wx := fun wx => sl_head r 1 wx hq
  go_enter Try.func13, Try.ntmps13
  go_wp2_with fail
  refine wp_loop_rounds 5 ?_
  rw [rounds_succ]
  go_wp2_with fail
  go_region_held3 (fun _ => True) (trivial) (first | (go_at_call 11; refine (implPutVarint_eq ((r[0].toNat : Int) % 128) N _ HN.out).mono ?_; rintro e w1 ⟨rfl, b1⟩))
  go_wp2_with fail
  go_ret3
  exact ⟨rfl, (Below.refl w.heap.size w).drew.trans b1⟩
set_option maxRecDepth 100000 in
set_option maxHeartbeats 1000000 in
theorem impl_S0fb (s r : ByteArray) (a : Nat) (w : World) (N : Int) (hs : s.size ≤ 1048576) (ha : a ≤ s.size) (hr : s.extract a s.size = r) (h : 0 < r.size)  (gk : (r[0].toNat : Int) < 128)
    (h4 : ¬ (r.size : Int) < 4) (HN : Hid ((r[0].toNat : Int) % 128 = N)) (he : ((pv N).toList == (r.extract 0 1).toList) = false) :
    Calls Try.prog 13 #[.string s, .int .i64 a] w fun e w' => e = .returned (.tuple #[.int .i64 0, .int .i64 0, .bool false]) ∧ Below w.heap.size w w' := by
  have l0 : (r[0].toNat : Int) ≤ 255 := by have := r[0].toNat_lt; omega
  have hq : (1 : Int) ≤ (r.size : Int) := by omega
  have hwr : IntKind.i64.wrap 1 = 1 := by decide
  have hsl : ∀ wx, (Instr.slice 9 (.string r) none (some (.int .i64 1)) none).run Try.prog wx = .ok (.string (r.extract 0 1)) wx := fun wx => sl_head r 1 wx hq
  go_enter Try.func13, Try.ntmps13
  go_wp2_with fail
  refine wp_loop_rounds 5 ?_
  rw [rounds_succ]
  go_wp2_with fail
  go_region_held3 (fun _ => True) (trivial) (first | (go_at_call 11; refine (implPutVarint_eq ((r[0].toNat : Int) % 128) N _ HN.out).mono ?_; rintro e w1 ⟨rfl, b1⟩))
  go_wp2_with fail
  go_ret3
  exact ⟨rfl, (Below.refl w.heap.size w).drew.trans b1⟩
set_option maxRecDepth 100000 in
set_option maxHeartbeats 1000000 in
theorem impl_S1ta (s r : ByteArray) (a : Nat) (w : World) (N : Int) (hs : s.size ≤ 1048576) (ha : a ≤ s.size) (hr : s.extract a s.size = r) (h : 1 < r.size) (g0 : 128 ≤ (r[0].toNat : Int)) (gk : (r[1].toNat : Int) < 128)
    (h4 : (r.size : Int) < 4) (HN : Hid ((r[0].toNat : Int) % 128 + (r[1].toNat : Int) % 128 * 128 = N)) (he : ((pv N).toList == (r.extract 0 2).toList) = true) :
    Calls Try.prog 13 #[.string s, .int .i64 a] w fun e w' => e = .returned (.tuple #[.int .i64 N, .int .i64 (a + 2), .bool true]) ∧ Below w.heap.size w w' := by
  have l0 : (r[0].toNat : Int) ≤ 255 := by have := r[0].toNat_lt; omega
  have l1 : (r[1].toNat : Int) ≤ 255 := by have := r[1].toNat_lt; omega
  have hq : (2 : Int) ≤ (r.size : Int) := by omega
  have hwr : IntKind.i64.wrap 2 = 2 := by decide
  have hsl : ∀ wx, (Instr.slice 9 (.string r) none (some (.int .i64 2)) none).run Try.prog wx = .ok (.string (r.extract 0 2)) wx := fun wx => sl_head r 2 wx hq
  go_enter Try.func13, Try.ntmps13
  go_wp2_with fail
  refine wp_loop_rounds 5 ?_
  rw [rounds_succ]
  go_wp2_with fail
  rw [rounds_succ]
  go_wp2_with fail
  go_region_held3 (fun _ => True) (trivial) (first | (go_at_call 11; refine (implPutVarint_eq ((r[0].toNat : Int) % 128 + (r[1].toNat : Int) % 128 * 128) N _ HN.out).mono ?_; rintro e w1 ⟨rfl, b1⟩))
  go_wp2_with fail
  go_ret3
  exact ⟨ret_iib HN.out (by omega), (Below.refl w.heap.size w).drew.trans b1⟩
set_option maxRecDepth 100000 in
set_option maxHeartbeats 1000000 in
theorem impl_S1tb (s r : ByteArray) (a : Nat) (w : World) (N : Int) (hs : s.size ≤ 1048576) (ha : a ≤ s.size) (hr : s.extract a s.size = r) (h : 1 < r.size) (g0 : 128 ≤ (r[0].toNat : Int)) (gk : (r[1].toNat : Int) < 128)
    (h4 : ¬ (r.size : Int) < 4) (HN : Hid ((r[0].toNat : Int) % 128 + (r[1].toNat : Int) % 128 * 128 = N)) (he : ((pv N).toList == (r.extract 0 2).toList) = true) :
    Calls Try.prog 13 #[.string s, .int .i64 a] w fun e w' => e = .returned (.tuple #[.int .i64 N, .int .i64 (a + 2), .bool true]) ∧ Below w.heap.size w w' := by
  have l0 : (r[0].toNat : Int) ≤ 255 := by have := r[0].toNat_lt; omega
  have l1 : (r[1].toNat : Int) ≤ 255 := by have := r[1].toNat_lt; omega
  have hq : (2 : Int) ≤ (r.size : Int) := by omega
  have hwr : IntKind.i64.wrap 2 = 2 := by decide
  have hsl : ∀ wx, (Instr.slice 9 (.string r) none (some (.int .i64 2)) none).run Try.prog wx = .ok (.string (r.extract 0 2)) wx := fun wx => sl_head r 2 wx hq
  go_enter Try.func13, Try.ntmps13
  go_wp2_with fail
  refine wp_loop_rounds 5 ?_
  rw [rounds_succ]
  go_wp2_with fail
  rw [rounds_succ]
  go_wp2_with fail
  go_region_held3 (fun _ => True) (trivial) (first | (go_at_call 11; refine (implPutVarint_eq ((r[0].toNat : Int) % 128 + (r[1].toNat : Int) % 128 * 128) N _ HN.out).mono ?_; rintro e w1 ⟨rfl, b1⟩))
  go_wp2_with fail
  go_ret3
  exact ⟨ret_iib HN.out (by omega), (Below.refl w.heap.size w).drew.trans b1⟩
set_option maxRecDepth 100000 in
set_option maxHeartbeats 1000000 in
theorem impl_S1fa (s r : ByteArray) (a : Nat) (w : World) (N : Int) (hs : s.size ≤ 1048576) (ha : a ≤ s.size) (hr : s.extract a s.size = r) (h : 1 < r.size) (g0 : 128 ≤ (r[0].toNat : Int)) (gk : (r[1].toNat : Int) < 128)
    (h4 : (r.size : Int) < 4) (HN : Hid ((r[0].toNat : Int) % 128 + (r[1].toNat : Int) % 128 * 128 = N)) (he : ((pv N).toList == (r.extract 0 2).toList) = false) :
    Calls Try.prog 13 #[.string s, .int .i64 a] w fun e w' => e = .returned (.tuple #[.int .i64 0, .int .i64 0, .bool false]) ∧ Below w.heap.size w w' := by
  have l0 : (r[0].toNat : Int) ≤ 255 := by have := r[0].toNat_lt; omega
  have l1 : (r[1].toNat : Int) ≤ 255 := by have := r[1].toNat_lt; omega
  have hq : (2 : Int) ≤ (r.size : Int) := by omega
  have hwr : IntKind.i64.wrap 2 = 2 := by decide
  have hsl : ∀ wx, (Instr.slice 9 (.string r) none (some (.int .i64 2)) none).run Try.prog wx = .ok (.string (r.extract 0 2)) wx := fun wx => sl_head r 2 wx hq
  go_enter Try.func13, Try.ntmps13
  go_wp2_with fail
  refine wp_loop_rounds 5 ?_
  rw [rounds_succ]
  go_wp2_with fail
  rw [rounds_succ]
  go_wp2_with fail
  go_region_held3 (fun _ => True) (trivial) (first | (go_at_call 11; refine (implPutVarint_eq ((r[0].toNat : Int) % 128 + (r[1].toNat : Int) % 128 * 128) N _ HN.out).mono ?_; rintro e w1 ⟨rfl, b1⟩))
  go_wp2_with fail
  go_ret3
  exact ⟨rfl, (Below.refl w.heap.size w).drew.trans b1⟩
set_option maxRecDepth 100000 in
set_option maxHeartbeats 1000000 in
theorem impl_S1fb (s r : ByteArray) (a : Nat) (w : World) (N : Int) (hs : s.size ≤ 1048576) (ha : a ≤ s.size) (hr : s.extract a s.size = r) (h : 1 < r.size) (g0 : 128 ≤ (r[0].toNat : Int)) (gk : (r[1].toNat : Int) < 128)
    (h4 : ¬ (r.size : Int) < 4) (HN : Hid ((r[0].toNat : Int) % 128 + (r[1].toNat : Int) % 128 * 128 = N)) (he : ((pv N).toList == (r.extract 0 2).toList) = false) :
    Calls Try.prog 13 #[.string s, .int .i64 a] w fun e w' => e = .returned (.tuple #[.int .i64 0, .int .i64 0, .bool false]) ∧ Below w.heap.size w w' := by
  have l0 : (r[0].toNat : Int) ≤ 255 := by have := r[0].toNat_lt; omega
  have l1 : (r[1].toNat : Int) ≤ 255 := by have := r[1].toNat_lt; omega
  have hq : (2 : Int) ≤ (r.size : Int) := by omega
  have hwr : IntKind.i64.wrap 2 = 2 := by decide
  have hsl : ∀ wx, (Instr.slice 9 (.string r) none (some (.int .i64 2)) none).run Try.prog wx = .ok (.string (r.extract 0 2)) wx := fun wx => sl_head r 2 wx hq
  go_enter Try.func13, Try.ntmps13
  go_wp2_with fail
  refine wp_loop_rounds 5 ?_
  rw [rounds_succ]
  go_wp2_with fail
  rw [rounds_succ]
  go_wp2_with fail
  go_region_held3 (fun _ => True) (trivial) (first | (go_at_call 11; refine (implPutVarint_eq ((r[0].toNat : Int) % 128 + (r[1].toNat : Int) % 128 * 128) N _ HN.out).mono ?_; rintro e w1 ⟨rfl, b1⟩))
  go_wp2_with fail
  go_ret3
  exact ⟨rfl, (Below.refl w.heap.size w).drew.trans b1⟩
set_option maxRecDepth 100000 in
set_option maxHeartbeats 1000000 in
theorem impl_S2ta (s r : ByteArray) (a : Nat) (w : World) (N : Int) (hs : s.size ≤ 1048576) (ha : a ≤ s.size) (hr : s.extract a s.size = r) (h : 2 < r.size) (g0 : 128 ≤ (r[0].toNat : Int)) (g1 : 128 ≤ (r[1].toNat : Int)) (gk : (r[2].toNat : Int) < 128)
    (h4 : (r.size : Int) < 4) (HN : Hid ((r[0].toNat : Int) % 128 + (r[1].toNat : Int) % 128 * 128 + (r[2].toNat : Int) % 128 * 16384 = N)) (he : ((pv N).toList == (r.extract 0 3).toList) = true) :
    Calls Try.prog 13 #[.string s, .int .i64 a] w fun e w' => e = .returned (.tuple #[.int .i64 N, .int .i64 (a + 3), .bool true]) ∧ Below w.heap.size w w' := by
  have l0 : (r[0].toNat : Int) ≤ 255 := by have := r[0].toNat_lt; omega
  have l1 : (r[1].toNat : Int) ≤ 255 := by have := r[1].toNat_lt; omega
  have l2 : (r[2].toNat : Int) ≤ 255 := by have := r[2].toNat_lt; omega
  have hq : (3 : Int) ≤ (r.size : Int) := by omega
  have hwr : IntKind.i64.wrap 3 = 3 := by decide
  have hsl : ∀ wx, (Instr.slice 9 (.string r) none (some (.int .i64 3)) none).run Try.prog wx = .ok (.string (r.extract 0 3)) wx := fun wx => sl_head r 3 wx hq
  go_enter Try.func13, Try.ntmps13
  go_wp2_with fail
  refine wp_loop_rounds 5 ?_
  rw [rounds_succ]
  go_wp2_with fail
  rw [rounds_succ]
  go_wp2_with fail
  rw [rounds_succ]
  go_wp2_with fail
  go_region_held3 (fun _ => True) (trivial) (first | (go_at_call 11; refine (implPutVarint_eq ((r[0].toNat : Int) % 128 + (r[1].toNat : Int) % 128 * 128 + (r[2].toNat : Int) % 128 * 16384) N _ HN.out).mono ?_; rintro e w1 ⟨rfl, b1⟩))
  go_wp2_with fail
  go_ret3
  exact ⟨ret_iib HN.out (by omega), (Below.refl w.heap.size w).drew.trans b1⟩
set_option maxRecDepth 100000 in
set_option maxHeartbeats 1000000 in
theorem impl_S2tb (s r : ByteArray) (a : Nat) (w : World) (N : Int) (hs : s.size ≤ 1048576) (ha : a ≤ s.size) (hr : s.extract a s.size = r) (h : 2 < r.size) (g0 : 128 ≤ (r[0].toNat : Int)) (g1 : 128 ≤ (r[1].toNat : Int)) (gk : (r[2].toNat : Int) < 128)
    (h4 : ¬ (r.size : Int) < 4) (HN : Hid ((r[0].toNat : Int) % 128 + (r[1].toNat : Int) % 128 * 128 + (r[2].toNat : Int) % 128 * 16384 = N)) (he : ((pv N).toList == (r.extract 0 3).toList) = true) :
    Calls Try.prog 13 #[.string s, .int .i64 a] w fun e w' => e = .returned (.tuple #[.int .i64 N, .int .i64 (a + 3), .bool true]) ∧ Below w.heap.size w w' := by
  have l0 : (r[0].toNat : Int) ≤ 255 := by have := r[0].toNat_lt; omega
  have l1 : (r[1].toNat : Int) ≤ 255 := by have := r[1].toNat_lt; omega
  have l2 : (r[2].toNat : Int) ≤ 255 := by have := r[2].toNat_lt; omega
  have hq : (3 : Int) ≤ (r.size : Int) := by omega
  have hwr : IntKind.i64.wrap 3 = 3 := by decide
  have hsl : ∀ wx, (Instr.slice 9 (.string r) none (some (.int .i64 3)) none).run Try.prog wx = .ok (.string (r.extract 0 3)) wx := fun wx => sl_head r 3 wx hq
  go_enter Try.func13, Try.ntmps13
  go_wp2_with fail
  refine wp_loop_rounds 5 ?_
  rw [rounds_succ]
  go_wp2_with fail
  rw [rounds_succ]
  go_wp2_with fail
  rw [rounds_succ]
  go_wp2_with fail
  go_region_held3 (fun _ => True) (trivial) (first | (go_at_call 11; refine (implPutVarint_eq ((r[0].toNat : Int) % 128 + (r[1].toNat : Int) % 128 * 128 + (r[2].toNat : Int) % 128 * 16384) N _ HN.out).mono ?_; rintro e w1 ⟨rfl, b1⟩))
  go_wp2_with fail
  go_ret3
  exact ⟨ret_iib HN.out (by omega), (Below.refl w.heap.size w).drew.trans b1⟩
set_option maxRecDepth 100000 in
set_option maxHeartbeats 1000000 in
theorem impl_S2fa (s r : ByteArray) (a : Nat) (w : World) (N : Int) (hs : s.size ≤ 1048576) (ha : a ≤ s.size) (hr : s.extract a s.size = r) (h : 2 < r.size) (g0 : 128 ≤ (r[0].toNat : Int)) (g1 : 128 ≤ (r[1].toNat : Int)) (gk : (r[2].toNat : Int) < 128)
    (h4 : (r.size : Int) < 4) (HN : Hid ((r[0].toNat : Int) % 128 + (r[1].toNat : Int) % 128 * 128 + (r[2].toNat : Int) % 128 * 16384 = N)) (he : ((pv N).toList == (r.extract 0 3).toList) = false) :
    Calls Try.prog 13 #[.string s, .int .i64 a] w fun e w' => e = .returned (.tuple #[.int .i64 0, .int .i64 0, .bool false]) ∧ Below w.heap.size w w' := by
  have l0 : (r[0].toNat : Int) ≤ 255 := by have := r[0].toNat_lt; omega
  have l1 : (r[1].toNat : Int) ≤ 255 := by have := r[1].toNat_lt; omega
  have l2 : (r[2].toNat : Int) ≤ 255 := by have := r[2].toNat_lt; omega
  have hq : (3 : Int) ≤ (r.size : Int) := by omega
  have hwr : IntKind.i64.wrap 3 = 3 := by decide
  have hsl : ∀ wx, (Instr.slice 9 (.string r) none (some (.int .i64 3)) none).run Try.prog wx = .ok (.string (r.extract 0 3)) wx := fun wx => sl_head r 3 wx hq
  go_enter Try.func13, Try.ntmps13
  go_wp2_with fail
  refine wp_loop_rounds 5 ?_
  rw [rounds_succ]
  go_wp2_with fail
  rw [rounds_succ]
  go_wp2_with fail
  rw [rounds_succ]
  go_wp2_with fail
  go_region_held3 (fun _ => True) (trivial) (first | (go_at_call 11; refine (implPutVarint_eq ((r[0].toNat : Int) % 128 + (r[1].toNat : Int) % 128 * 128 + (r[2].toNat : Int) % 128 * 16384) N _ HN.out).mono ?_; rintro e w1 ⟨rfl, b1⟩))
  go_wp2_with fail
  go_ret3
  exact ⟨rfl, (Below.refl w.heap.size w).drew.trans b1⟩
set_option maxRecDepth 100000 in
set_option maxHeartbeats 1000000 in
theorem impl_S2fb (s r : ByteArray) (a : Nat) (w : World) (N : Int) (hs : s.size ≤ 1048576) (ha : a ≤ s.size) (hr : s.extract a s.size = r) (h : 2 < r.size) (g0 : 128 ≤ (r[0].toNat : Int)) (g1 : 128 ≤ (r[1].toNat : Int)) (gk : (r[2].toNat : Int) < 128)
    (h4 : ¬ (r.size : Int) < 4) (HN : Hid ((r[0].toNat : Int) % 128 + (r[1].toNat : Int) % 128 * 128 + (r[2].toNat : Int) % 128 * 16384 = N)) (he : ((pv N).toList == (r.extract 0 3).toList) = false) :
    Calls Try.prog 13 #[.string s, .int .i64 a] w fun e w' => e = .returned (.tuple #[.int .i64 0, .int .i64 0, .bool false]) ∧ Below w.heap.size w w' := by
  have l0 : (r[0].toNat : Int) ≤ 255 := by have := r[0].toNat_lt; omega
  have l1 : (r[1].toNat : Int) ≤ 255 := by have := r[1].toNat_lt; omega
  have l2 : (r[2].toNat : Int) ≤ 255 := by have := r[2].toNat_lt; omega
  have hq : (3 : Int) ≤ (r.size : Int) := by omega
  have hwr : IntKind.i64.wrap 3 = 3 := by decide
  have hsl : ∀ wx, (Instr.slice 9 (.string r) none (some (.int .i64 3)) none).run Try.prog wx = .ok (.string (r.extract 0 3)) wx := fun wx => sl_head r 3 wx hq
  go_enter Try.func13, Try.ntmps13
  go_wp2_with fail
  refine wp_loop_rounds 5 ?_
  rw [rounds_succ]
  go_wp2_with fail
  rw [rounds_succ]
  go_wp2_with fail
  rw [rounds_succ]
  go_wp2_with fail
  go_region_held3 (fun _ => True) (trivial) (first | (go_at_call 11; refine (implPutVarint_eq ((r[0].toNat : Int) % 128 + (r[1].toNat : Int) % 128 * 128 + (r[2].toNat : Int) % 128 * 16384) N _ HN.out).mono ?_; rintro e w1 ⟨rfl, b1⟩))
  go_wp2_with fail
  go_ret3
  exact ⟨rfl, (Below.refl w.heap.size w).drew.trans b1⟩
set_option maxRecDepth 100000 in
set_option maxHeartbeats 1000000 in
theorem impl_S3tb (s r : ByteArray) (a : Nat) (w : World) (N : Int) (hs : s.size ≤ 1048576) (ha : a ≤ s.size) (hr : s.extract a s.size = r) (h : 3 < r.size) (g0 : 128 ≤ (r[0].toNat : Int)) (g1 : 128 ≤ (r[1].toNat : Int)) (g2 : 128 ≤ (r[2].toNat : Int)) (gk : (r[3].toNat : Int) < 128)
    (h4 : ¬ (r.size : Int) < 4) (HN : Hid ((r[0].toNat : Int) % 128 + (r[1].toNat : Int) % 128 * 128 + (r[2].toNat : Int) % 128 * 16384 + (r[3].toNat : Int) % 128 * 2097152 = N)) (he : ((pv N).toList == (r.extract 0 4).toList) = true) :
    Calls Try.prog 13 #[.string s, .int .i64 a] w fun e w' => e = .returned (.tuple #[.int .i64 N, .int .i64 (a + 4), .bool true]) ∧ Below w.heap.size w w' := by
  have l0 : (r[0].toNat : Int) ≤ 255 := by have := r[0].toNat_lt; omega
  have l1 : (r[1].toNat : Int) ≤ 255 := by have := r[1].toNat_lt; omega
  have l2 : (r[2].toNat : Int) ≤ 255 := by have := r[2].toNat_lt; omega
  have l3 : (r[3].toNat : Int) ≤ 255 := by have := r[3].toNat_lt; omega
  have hq : (4 : Int) ≤ (r.size : Int) := by omega
  have hwr : IntKind.i64.wrap 4 = 4 := by decide
  have hsl : ∀ wx, (Instr.slice 9 (.string r) none (some (.int .i64 4)) none).run Try.prog wx = .ok (.string (r.extract 0 4)) wx := fun wx => sl_head r 4 wx hq
  go_enter Try.func13, Try.ntmps13
  go_wp2_with fail
  refine wp_loop_rounds 5 ?_
  rw [rounds_succ]
  go_wp2_with fail
  rw [rounds_succ]
  go_wp2_with fail
  rw [rounds_succ]
  go_wp2_with fail
  rw [rounds_succ]
  go_wp2_with fail
  go_region_held3 (fun _ => True) (trivial) (first | (go_at_call 11; refine (implPutVarint_eq ((r[0].toNat : Int) % 128 + (r[1].toNat : Int) % 128 * 128 + (r[2].toNat : Int) % 128 * 16384 + (r[3].toNat : Int) % 128 * 2097152) N _ HN.out).mono ?_; rintro e w1 ⟨rfl, b1⟩))
  go_wp2_with fail
  go_ret3
  exact ⟨ret_iib HN.out (by omega), (Below.refl w.heap.size w).drew.trans b1⟩
set_option maxRecDepth 100000 in
set_option maxHeartbeats 1000000 in
theorem impl_S3fb (s r : ByteArray) (a : Nat) (w : World) (N : Int) (hs : s.size ≤ 1048576) (ha : a ≤ s.size) (hr : s.extract a s.size = r) (h : 3 < r.size) (g0 : 128 ≤ (r[0].toNat : Int)) (g1 : 128 ≤ (r[1].toNat : Int)) (g2 : 128 ≤ (r[2].toNat : Int)) (gk : (r[3].toNat : Int) < 128)
    (h4 : ¬ (r.size : Int) < 4) (HN : Hid ((r[0].toNat : Int) % 128 + (r[1].toNat : Int) % 128 * 128 + (r[2].toNat : Int) % 128 * 16384 + (r[3].toNat : Int) % 128 * 2097152 = N)) (he : ((pv N).toList == (r.extract 0 4).toList) = false) :
    Calls Try.prog 13 #[.string s, .int .i64 a] w fun e w' => e = .returned (.tuple #[.int .i64 0, .int .i64 0, .bool false]) ∧ Below w.heap.size w w' := by
  have l0 : (r[0].toNat : Int) ≤ 255 := by have := r[0].toNat_lt; omega
  have l1 : (r[1].toNat : Int) ≤ 255 := by have := r[1].toNat_lt; omega
  have l2 : (r[2].toNat : Int) ≤ 255 := by have := r[2].toNat_lt; omega
  have l3 : (r[3].toNat : Int) ≤ 255 := by have := r[3].toNat_lt; omega
  have hq : (4 : Int) ≤ (r.size : Int) := by omega
  have hwr : IntKind.i64.wrap 4 = 4 := by decide
  have hsl : ∀ wx, (Instr.slice 9 (.string r) none (some (.int .i64 4)) none).run Try.prog wx = .ok (.string (r.extract 0 4)) wx := fun wx => sl_head r 4 wx hq
  go_enter Try.func13, Try.ntmps13
  go_wp2_with fail
  refine wp_loop_rounds 5 ?_
  rw [rounds_succ]
  go_wp2_with fail
  rw [rounds_succ]
  go_wp2_with fail
  rw [rounds_succ]
  go_wp2_with fail
  rw [rounds_succ]
  go_wp2_with fail
  go_region_held3 (fun _ => True) (trivial) (first | (go_at_call 11; refine (implPutVarint_eq ((r[0].toNat : Int) % 128 + (r[1].toNat : Int) % 128 * 128 + (r[2].toNat : Int) % 128 * 16384 + (r[3].toNat : Int) % 128 * 2097152) N _ HN.out).mono ?_; rintro e w1 ⟨rfl, b1⟩))
  go_wp2_with fail
  go_ret3
  exact ⟨rfl, (Below.refl w.heap.size w).drew.trans b1⟩
set_option maxRecDepth 100000 in
set_option maxHeartbeats 1000000 in
theorem impl_E0 (s r : ByteArray) (a : Nat) (w : World) (hs : s.size ≤ 1048576) (ha : a ≤ s.size) (hr : s.extract a s.size = r) (h' : r.size ≤ 0)  (h4 : (r.size : Int) < 4) :
    Calls Try.prog 13 #[.string s, .int .i64 a] w fun e w' => e = .returned (.tuple #[.int .i64 0, .int .i64 0, .bool false]) ∧ Below w.heap.size w w' := by

  go_enter Try.func13, Try.ntmps13
  go_wp2_with fail
  refine wp_loop_rounds 5 ?_
  rw [rounds_succ]
  go_wp2_with fail
  go_ret3
  exact ⟨rfl, Below.refl _ _⟩
set_option maxRecDepth 100000 in
set_option maxHeartbeats 1000000 in
theorem impl_E1 (s r : ByteArray) (a : Nat) (w : World) (hs : s.size ≤ 1048576) (ha : a ≤ s.size) (hr : s.extract a s.size = r) (h' : r.size ≤ 1) (h : 0 < r.size) (g0 : 128 ≤ (r[0].toNat : Int)) (h4 : (r.size : Int) < 4) :
    Calls Try.prog 13 #[.string s, .int .i64 a] w fun e w' => e = .returned (.tuple #[.int .i64 0, .int .i64 0, .bool false]) ∧ Below w.heap.size w w' := by
  have l0 : (r[0].toNat : Int) ≤ 255 := by have := r[0].toNat_lt; omega
  go_enter Try.func13, Try.ntmps13
  go_wp2_with fail
  refine wp_loop_rounds 5 ?_
  rw [rounds_succ]
  go_wp2_with fail
  rw [rounds_succ]
  go_wp2_with fail
  go_ret3
  exact ⟨rfl, Below.refl _ _⟩
set_option maxRecDepth 100000 in
set_option maxHeartbeats 1000000 in
theorem impl_E2 (s r : ByteArray) (a : Nat) (w : World) (hs : s.size ≤ 1048576) (ha : a ≤ s.size) (hr : s.extract a s.size = r) (h' : r.size ≤ 2) (h : 1 < r.size) (g0 : 128 ≤ (r[0].toNat : Int)) (g1 : 128 ≤ (r[1].toNat : Int)) (h4 : (r.size : Int) < 4) :
    Calls Try.prog 13 #[.string s, .int .i64 a] w fun e w' => e = .returned (.tuple #[.int .i64 0, .int .i64 0, .bool false]) ∧ Below w.heap.size w w' := by
  have l0 : (r[0].toNat : Int) ≤ 255 := by have := r[0].toNat_lt; omega
  have l1 : (r[1].toNat : Int) ≤ 255 := by have := r[1].toNat_lt; omega
  go_enter Try.func13, Try.ntmps13
  go_wp2_with fail
  refine wp_loop_rounds 5 ?_
  rw [rounds_succ]
  go_wp2_with fail
  rw [rounds_succ]
  go_wp2_with fail
  rw [rounds_succ]
  go_wp2_with fail
  go_ret3
  exact ⟨rfl, Below.refl _ _⟩
set_option maxRecDepth 100000 in
set_option maxHeartbeats 1000000 in
theorem impl_E3 (s r : ByteArray) (a : Nat) (w : World) (hs : s.size ≤ 1048576) (ha : a ≤ s.size) (hr : s.extract a s.size = r) (h' : r.size ≤ 3) (h : 2 < r.size) (g0 : 128 ≤ (r[0].toNat : Int)) (g1 : 128 ≤ (r[1].toNat : Int)) (g2 : 128 ≤ (r[2].toNat : Int)) (h4 : (r.size : Int) < 4) :
    Calls Try.prog 13 #[.string s, .int .i64 a] w fun e w' => e = .returned (.tuple #[.int .i64 0, .int .i64 0, .bool false]) ∧ Below w.heap.size w w' := by
  have l0 : (r[0].toNat : Int) ≤ 255 := by have := r[0].toNat_lt; omega
  have l1 : (r[1].toNat : Int) ≤ 255 := by have := r[1].toNat_lt; omega
  have l2 : (r[2].toNat : Int) ≤ 255 := by have := r[2].toNat_lt; omega
  go_enter Try.func13, Try.ntmps13
  go_wp2_with fail
  refine wp_loop_rounds 5 ?_
  rw [rounds_succ]
  go_wp2_with fail
  rw [rounds_succ]
  go_wp2_with fail
  rw [rounds_succ]
  go_wp2_with fail
  rw [rounds_succ]
  go_wp2_with fail
  go_ret3
  exact ⟨rfl, Below.refl _ _⟩
set_option maxRecDepth 100000 in
set_option maxHeartbeats 1000000 in
theorem impl_E4 (s r : ByteArray) (a : Nat) (w : World) (hs : s.size ≤ 1048576) (ha : a ≤ s.size) (hr : s.extract a s.size = r) (h : 3 < r.size) (g0 : 128 ≤ (r[0].toNat : Int)) (g1 : 128 ≤ (r[1].toNat : Int)) (g2 : 128 ≤ (r[2].toNat : Int)) (g3 : 128 ≤ (r[3].toNat : Int)) (h4 : ¬ (r.size : Int) < 4) :
    Calls Try.prog 13 #[.string s, .int .i64 a] w fun e w' => e = .returned (.tuple #[.int .i64 0, .int .i64 0, .bool false]) ∧ Below w.heap.size w w' := by
  have l0 : (r[0].toNat : Int) ≤ 255 := by have := r[0].toNat_lt; omega
  have l1 : (r[1].toNat : Int) ≤ 255 := by have := r[1].toNat_lt; omega
  have l2 : (r[2].toNat : Int) ≤ 255 := by have := r[2].toNat_lt; omega
  have l3 : (r[3].toNat : Int) ≤ 255 := by have := r[3].toNat_lt; omega
  go_enter Try.func13, Try.ntmps13
  go_wp2_with fail
  refine wp_loop_rounds 5 ?_
  rw [rounds_succ]
  go_wp2_with fail
  rw [rounds_succ]
  go_wp2_with fail
  rw [rounds_succ]
  go_wp2_with fail
  rw [rounds_succ]
  go_wp2_with fail
  rw [rounds_succ]
  go_wp2_with fail
  go_ret3
  exact ⟨rfl, Below.refl _ _⟩
end Go.Proofs.Ytndpbdpngniepaa

import Derived.Test.YtndpbdpngniepaaDoorPackA
namespace Go.Proofs.YtndpbdpngniepaaDoor
open Go.RowKit
set_option linter.unusedVariables false
theorem holds0_yes (n : Int) (w : World) (hc : w.cell? ⟨0, 1, none⟩ = some (.int .i64 6)) (h1 : 0 ≤ n) (h2 : n ≤ 63) :
    Calls Tryd.prog 17 #[.int .i64 0, .int .i64 n] w fun e w' => e = .returned (.bool true) ∧ w' = w := by
  have h3 : n < 64 := by omega
  go_enter Tryd.func17, Tryd.ntmps17
  go_wp2
  go_ret
  simp
theorem holds0_no (n : Int) (w : World) (hc : w.cell? ⟨0, 1, none⟩ = some (.int .i64 6)) (h : n < 0 ∨ 63 < n) :
    Calls Tryd.prog 17 #[.int .i64 0, .int .i64 n] w fun e w' => e = .returned (.bool false) ∧ w' = w := by
  by_cases h1 : n < 0
  · go_enter Tryd.func17, Tryd.ntmps17
    go_wp2
    go_ret
    simp
  · have h2 : ¬ n < 64 := by omega
    go_enter Tryd.func17, Tryd.ntmps17
    go_wp2
    go_ret
    simp
theorem holds1_yes (n : Int) (w : World) (hc : w.cell? ⟨0, 3, none⟩ = some (.int .i64 8)) (h1 : 0 ≤ n) (h2 : n ≤ 255) :
    Calls Tryd.prog 17 #[.int .i64 1, .int .i64 n] w fun e w' => e = .returned (.bool true) ∧ w' = w := by
  have h3 : n < 256 := by omega
  go_enter Tryd.func17, Tryd.ntmps17
  go_wp2
  go_ret
  simp
theorem holds1_no (n : Int) (w : World) (hc : w.cell? ⟨0, 3, none⟩ = some (.int .i64 8)) (h : n < 0 ∨ 255 < n) :
    Calls Tryd.prog 17 #[.int .i64 1, .int .i64 n] w fun e w' => e = .returned (.bool false) ∧ w' = w := by
  by_cases h1 : n < 0
  · go_enter Tryd.func17, Tryd.ntmps17
    go_wp2
    go_ret
    simp
  · have h2 : ¬ n < 256 := by omega
    go_enter Tryd.func17, Tryd.ntmps17
    go_wp2
    go_ret
    simp
theorem holds2_yes (n : Int) (w : World) (hc : w.cell? ⟨0, 5, none⟩ = some (.int .i64 9)) (h1 : 0 ≤ n) (h2 : n ≤ 511) :
    Calls Tryd.prog 17 #[.int .i64 2, .int .i64 n] w fun e w' => e = .returned (.bool true) ∧ w' = w := by
  have h3 : n < 512 := by omega
  go_enter Tryd.func17, Tryd.ntmps17
  go_wp2
  go_ret
  simp
theorem holds2_no (n : Int) (w : World) (hc : w.cell? ⟨0, 5, none⟩ = some (.int .i64 9)) (h : n < 0 ∨ 511 < n) :
    Calls Tryd.prog 17 #[.int .i64 2, .int .i64 n] w fun e w' => e = .returned (.bool false) ∧ w' = w := by
  by_cases h1 : n < 0
  · go_enter Tryd.func17, Tryd.ntmps17
    go_wp2
    go_ret
    simp
  · have h2 : ¬ n < 512 := by omega
    go_enter Tryd.func17, Tryd.ntmps17
    go_wp2
    go_ret
    simp
theorem holds3_yes (n : Int) (w : World) (hc : w.cell? ⟨0, 7, none⟩ = some (.int .i64 9)) (h1 : 0 ≤ n) (h2 : n ≤ 511) :
    Calls Tryd.prog 17 #[.int .i64 3, .int .i64 n] w fun e w' => e = .returned (.bool true) ∧ w' = w := by
  have h3 : n < 512 := by omega
  go_enter Tryd.func17, Tryd.ntmps17
  go_wp2
  go_ret
  simp
theorem holds3_no (n : Int) (w : World) (hc : w.cell? ⟨0, 7, none⟩ = some (.int .i64 9)) (h : n < 0 ∨ 511 < n) :
    Calls Tryd.prog 17 #[.int .i64 3, .int .i64 n] w fun e w' => e = .returned (.bool false) ∧ w' = w := by
  by_cases h1 : n < 0
  · go_enter Tryd.func17, Tryd.ntmps17
    go_wp2
    go_ret
    simp
  · have h2 : ¬ n < 512 := by omega
    go_enter Tryd.func17, Tryd.ntmps17
    go_wp2
    go_ret
    simp

theorem or4w (op a b c : Int) (h1 : 0 ≤ op) (h2 : op ≤ 63) (h3 : 0 ≤ a) (h4 : a ≤ 255) (h5 : 0 ≤ b) (h6 : b ≤ 511) (h7 : 0 ≤ c) (h8 : c ≤ 511) :
    bits .or .u32 (bits .or .u32 (bits .or .u32 (bits .or .u32 0 op) (a * 64)) (b * 16384)) (c * 8388608) = op + 64 * a + 16384 * b + 8388608 * c := by
  obtain ⟨op, rfl⟩ := Int.eq_ofNat_of_zero_le h1
  obtain ⟨a, rfl⟩ := Int.eq_ofNat_of_zero_le h3
  obtain ⟨b, rfl⟩ := Int.eq_ofNat_of_zero_le h5
  obtain ⟨c, rfl⟩ := Int.eq_ofNat_of_zero_le h7
  have or2 : ∀ (i x y : Nat), x < 2 ^ i → y % 2 ^ i = 0 → x ||| y = x + y := fun i x y hx hy => by rw [Nat.or_comm, nat_join i y x hy hx, Nat.add_comm]
  rw [show (a : Int) * 64 = ((a * 64 : Nat) : Int) from by omega, show (b : Int) * 16384 = ((b * 16384 : Nat) : Int) from by omega, show (c : Int) * 8388608 = ((c * 8388608 : Nat) : Int) from by omega,
    show (0 : Int) = ((0 : Nat) : Int) from rfl, u32_or_nat 0 op (by omega) (by omega), Nat.zero_or, u32_or_nat _ _ (by omega) (by omega), or2 6 _ _ (by omega) (by omega),
    u32_or_nat _ _ (by omega) (by omega), or2 14 _ _ (by omega) (by omega), u32_or_nat _ _ (by omega) (by omega), or2 23 _ _ (by omega) (by omega)]
  omega
theorem ret_int {k : IntKind} {a b : Int} (h : a = b) : Ending.returned (.int k a) = .returned (.int k b) := by rw [h]
set_option maxHeartbeats 2000000 in
theorem implPack_in (op a b c s : Int) (w : World) (hS : Spans w) (h1 : 0 ≤ op) (h2 : op ≤ 63) (h3 : 0 ≤ a) (h4 : a ≤ 255) (h5 : 0 ≤ b) (h6 : b ≤ 511) (h7 : 0 ≤ c) (h8 : c ≤ 511) (hs : (s == b + 512 * c + -131072) = true) :
    Calls Tryd.prog 9 #[ins op a b c s] w fun e w' => e = .returned (.int .u32 (op + 64 * a + 16384 * b + 8388608 * c)) ∧ Below w.heap.size w w' := by
  obtain ⟨c0, c1, c2, c3, c4, c5, c6, c7, pos⟩ := hS
  obtain rfl := beq_iff_eq.1 hs
  clear hs
  go_enter Tryd.func9, Tryd.ntmps9
  go_wp2_with fail
  refine wp_loop_rounds 5 ?_
  rw [rounds_succ]
  go_wp2_with fail
  refine (holds0_yes op _ (by simp [*, go_sem]) (by omega) (by omega)).mono ?_
  rintro e w' ⟨rfl, rfl⟩
  go_wp2_with fail
  go_region
  go_wp2_with fail
  rw [rounds_succ]
  go_wp2_with fail
  refine (holds1_yes a _ (by simp [*, go_sem]) (by omega) (by omega)).mono ?_
  rintro e w' ⟨rfl, rfl⟩
  go_wp2_with fail
  go_region
  go_wp2_with fail
  rw [rounds_succ]
  go_wp2_with fail
  refine (holds2_yes b _ (by simp [*, go_sem]) (by omega) (by omega)).mono ?_
  rintro e w' ⟨rfl, rfl⟩
  go_wp2_with fail
  go_region
  go_wp2_with fail
  rw [rounds_succ]
  go_wp2_with fail
  refine (holds3_yes c _ (by simp [*, go_sem]) (by omega) (by omega)).mono ?_
  rintro e w' ⟨rfl, rfl⟩
  go_wp2_with fail
  go_region
  go_wp2_with fail
  rw [rounds_succ]
  go_wp2_with fail
  go_region_held3 (fun w' => w'.cell? ⟨w.heap.size, 2, none⟩ = some (.int .i64 b) ∧ w'.cell? ⟨w.heap.size, 3, none⟩ = some (.int .i64 c) ∧ w'.cell? ⟨w.heap.size, 4, none⟩ = some (.int .i64 (b + 512 * c + -131072))) (go_keep)
    (first | (go_at_call 18; refine (wideOf_any _ _ _ (by omega) (by omega) (by omega) (by omega)).mono ?_; rintro e w' ⟨rfl, rfl⟩))
  go_wp2_with fail
  go_ret
  exact ⟨ret_int (or4w op a b c h1 h2 h3 h4 h5 h6 h7 h8), by go_grown⟩
set_option maxHeartbeats 2000000 in
theorem implPack_off (op a b c s : Int) (w : World) (hS : Spans w) (h1 : 0 ≤ op) (h2 : op ≤ 63) (h3 : 0 ≤ a) (h4 : a ≤ 255) (h5 : 0 ≤ b) (h6 : b ≤ 511) (h7 : 0 ≤ c) (h8 : c ≤ 511) (hs : (s == b + 512 * c + -131072) = false) :
    Calls Tryd.prog 9 #[ins op a b c s] w fun e w' => e = .returned (.int .u32 0) ∧ Below w.heap.size w w' := by
  obtain ⟨c0, c1, c2, c3, c4, c5, c6, c7, pos⟩ := hS
  go_enter Tryd.func9, Tryd.ntmps9
  go_wp2_with fail
  refine wp_loop_rounds 5 ?_
  rw [rounds_succ]
  go_wp2_with fail
  refine (holds0_yes op _ (by simp [*, go_sem]) (by omega) (by omega)).mono ?_
  rintro e w' ⟨rfl, rfl⟩
  go_wp2_with fail
  go_region
  go_wp2_with fail
  rw [rounds_succ]
  go_wp2_with fail
  refine (holds1_yes a _ (by simp [*, go_sem]) (by omega) (by omega)).mono ?_
  rintro e w' ⟨rfl, rfl⟩
  go_wp2_with fail
  go_region
  go_wp2_with fail
  rw [rounds_succ]
  go_wp2_with fail
  refine (holds2_yes b _ (by simp [*, go_sem]) (by omega) (by omega)).mono ?_
  rintro e w' ⟨rfl, rfl⟩
  go_wp2_with fail
  go_region
  go_wp2_with fail
  rw [rounds_succ]
  go_wp2_with fail
  refine (holds3_yes c _ (by simp [*, go_sem]) (by omega) (by omega)).mono ?_
  rintro e w' ⟨rfl, rfl⟩
  go_wp2_with fail
  go_region
  go_wp2_with fail
  rw [rounds_succ]
  go_wp2_with fail
  go_region_held3 (fun w' => w'.cell? ⟨w.heap.size, 2, none⟩ = some (.int .i64 b) ∧ w'.cell? ⟨w.heap.size, 3, none⟩ = some (.int .i64 c) ∧ w'.cell? ⟨w.heap.size, 4, none⟩ = some (.int .i64 s)) (go_keep)
    (first | (go_at_call 18; refine (wideOf_any _ _ _ (by omega) (by omega) (by omega) (by omega)).mono ?_; rintro e w' ⟨rfl, rfl⟩))
  go_wp2_with fail
  go_ret
  exact ⟨rfl, by go_grown⟩
set_option maxHeartbeats 2000000 in
theorem implPack_out0 (op a b c s : Int) (w : World) (hS : Spans w)  (hn : op < 0 ∨ 63 < op) :
    Calls Tryd.prog 9 #[ins op a b c s] w fun e w' => e = .returned (.int .u32 0) ∧ Below w.heap.size w w' := by
  obtain ⟨c0, c1, c2, c3, c4, c5, c6, c7, pos⟩ := hS
  have HN : Hid (op < 0 ∨ 63 < op) := hn
  clear hn
  go_enter Tryd.func9, Tryd.ntmps9
  go_wp2_with fail
  refine wp_loop_rounds 5 ?_
  rw [rounds_succ]
  go_wp2_with fail
  refine (holds0_no op _ (by simp [*, go_sem]) HN.out).mono ?_
  rintro e w' ⟨rfl, rfl⟩
  go_wp2_with fail
  go_ret
  exact ⟨rfl, by go_grown⟩
set_option maxHeartbeats 2000000 in
theorem implPack_out1 (op a b c s : Int) (w : World) (hS : Spans w) (h1 : 0 ≤ op) (h2 : op ≤ 63) (hn : a < 0 ∨ 255 < a) :
    Calls Tryd.prog 9 #[ins op a b c s] w fun e w' => e = .returned (.int .u32 0) ∧ Below w.heap.size w w' := by
  obtain ⟨c0, c1, c2, c3, c4, c5, c6, c7, pos⟩ := hS
  have HN : Hid (a < 0 ∨ 255 < a) := hn
  clear hn
  go_enter Tryd.func9, Tryd.ntmps9
  go_wp2_with fail
  refine wp_loop_rounds 5 ?_
  rw [rounds_succ]
  go_wp2_with fail
  refine (holds0_yes op _ (by simp [*, go_sem]) (by omega) (by omega)).mono ?_
  rintro e w' ⟨rfl, rfl⟩
  go_wp2_with fail
  go_region
  go_wp2_with fail
  rw [rounds_succ]
  go_wp2_with fail
  refine (holds1_no a _ (by simp [*, go_sem]) HN.out).mono ?_
  rintro e w' ⟨rfl, rfl⟩
  go_wp2_with fail
  go_ret
  exact ⟨rfl, by go_grown⟩
set_option maxHeartbeats 2000000 in
theorem implPack_out2 (op a b c s : Int) (w : World) (hS : Spans w) (h1 : 0 ≤ op) (h2 : op ≤ 63) (h3 : 0 ≤ a) (h4 : a ≤ 255) (hn : b < 0 ∨ 511 < b) :
    Calls Tryd.prog 9 #[ins op a b c s] w fun e w' => e = .returned (.int .u32 0) ∧ Below w.heap.size w w' := by
  obtain ⟨c0, c1, c2, c3, c4, c5, c6, c7, pos⟩ := hS
  have HN : Hid (b < 0 ∨ 511 < b) := hn
  clear hn
  go_enter Tryd.func9, Tryd.ntmps9
  go_wp2_with fail
  refine wp_loop_rounds 5 ?_
  rw [rounds_succ]
  go_wp2_with fail
  refine (holds0_yes op _ (by simp [*, go_sem]) (by omega) (by omega)).mono ?_
  rintro e w' ⟨rfl, rfl⟩
  go_wp2_with fail
  go_region
  go_wp2_with fail
  rw [rounds_succ]
  go_wp2_with fail
  refine (holds1_yes a _ (by simp [*, go_sem]) (by omega) (by omega)).mono ?_
  rintro e w' ⟨rfl, rfl⟩
  go_wp2_with fail
  go_region
  go_wp2_with fail
  rw [rounds_succ]
  go_wp2_with fail
  refine (holds2_no b _ (by simp [*, go_sem]) HN.out).mono ?_
  rintro e w' ⟨rfl, rfl⟩
  go_wp2_with fail
  go_ret
  exact ⟨rfl, by go_grown⟩
set_option maxHeartbeats 2000000 in
theorem implPack_out3 (op a b c s : Int) (w : World) (hS : Spans w) (h1 : 0 ≤ op) (h2 : op ≤ 63) (h3 : 0 ≤ a) (h4 : a ≤ 255) (h5 : 0 ≤ b) (h6 : b ≤ 511) (hn : c < 0 ∨ 511 < c) :
    Calls Tryd.prog 9 #[ins op a b c s] w fun e w' => e = .returned (.int .u32 0) ∧ Below w.heap.size w w' := by
  obtain ⟨c0, c1, c2, c3, c4, c5, c6, c7, pos⟩ := hS
  have HN : Hid (c < 0 ∨ 511 < c) := hn
  clear hn
  go_enter Tryd.func9, Tryd.ntmps9
  go_wp2_with fail
  refine wp_loop_rounds 5 ?_
  rw [rounds_succ]
  go_wp2_with fail
  refine (holds0_yes op _ (by simp [*, go_sem]) (by omega) (by omega)).mono ?_
  rintro e w' ⟨rfl, rfl⟩
  go_wp2_with fail
  go_region
  go_wp2_with fail
  rw [rounds_succ]
  go_wp2_with fail
  refine (holds1_yes a _ (by simp [*, go_sem]) (by omega) (by omega)).mono ?_
  rintro e w' ⟨rfl, rfl⟩
  go_wp2_with fail
  go_region
  go_wp2_with fail
  rw [rounds_succ]
  go_wp2_with fail
  refine (holds2_yes b _ (by simp [*, go_sem]) (by omega) (by omega)).mono ?_
  rintro e w' ⟨rfl, rfl⟩
  go_wp2_with fail
  go_region
  go_wp2_with fail
  rw [rounds_succ]
  go_wp2_with fail
  refine (holds3_no c _ (by simp [*, go_sem]) HN.out).mono ?_
  rintro e w' ⟨rfl, rfl⟩
  go_wp2_with fail
  go_ret
  exact ⟨rfl, by go_grown⟩
end Go.Proofs.YtndpbdpngniepaaDoor

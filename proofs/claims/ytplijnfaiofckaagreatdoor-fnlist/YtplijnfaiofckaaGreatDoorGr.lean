import Derived.Test.YtplijnfaiofckaaGreatDoorGn
namespace Go.Proofs.YtplijnfaiofckaaGreatDoor
open Go.RowKit
set_option linter.unusedVariables false
set_option maxRecDepth 100000
set_option maxHeartbeats 9000000
theorem qg2 (n : Int) (w : World) (hc : w.cell? ⟨1, 1, none⟩ = some (.int .i64 6)) (h1 : 0 ≤ n) (h2 : n ≤ 63) :
  Calls Tryz.prog 121 #[.int .i64 0, .int .i64 n] w fun e w' => e = .returned (.bool true) ∧ w' = w := by
 have h3 : n < 64 := by omega
 go_enter Tryz.func121, Tryz.ntmps121
 go_wp2
 go_ret;simp
theorem holds0_no (n : Int) (w : World) (hc : w.cell? ⟨1, 1, none⟩ = some (.int .i64 6)) (h : n < 0 ∨ 63 < n) :
  Calls Tryz.prog 121 #[.int .i64 0, .int .i64 n] w fun e w' => e = .returned (.bool false) ∧ w' = w := by
 by_cases h1 : n < 0
 ·go_enter Tryz.func121, Tryz.ntmps121
  go_wp2
  go_ret;simp
 ·have h2 : ¬ n < 64 := by omega
  go_enter Tryz.func121, Tryz.ntmps121
  go_wp2
  go_ret;simp
theorem qg1 (n : Int) (w : World) (hc : w.cell? ⟨1, 3, none⟩ = some (.int .i64 8)) (h1 : 0 ≤ n) (h2 : n ≤ 255) :
  Calls Tryz.prog 121 #[.int .i64 1, .int .i64 n] w fun e w' => e = .returned (.bool true) ∧ w' = w := by
 have h3 : n < 256 := by omega
 go_enter Tryz.func121, Tryz.ntmps121
 go_wp2
 go_ret;simp
theorem holds1_no (n : Int) (w : World) (hc : w.cell? ⟨1, 3, none⟩ = some (.int .i64 8)) (h : n < 0 ∨ 255 < n) :
  Calls Tryz.prog 121 #[.int .i64 1, .int .i64 n] w fun e w' => e = .returned (.bool false) ∧ w' = w := by
 by_cases h1 : n < 0
 ·go_enter Tryz.func121, Tryz.ntmps121
  go_wp2
  go_ret;simp
 ·have h2 : ¬ n < 256 := by omega
  go_enter Tryz.func121, Tryz.ntmps121
  go_wp2
  go_ret;simp
theorem holds2_yes (n : Int) (w : World) (hc : w.cell? ⟨1, 5, none⟩ = some (.int .i64 9)) (h1 : 0 ≤ n) (h2 : n ≤ 511) :
  Calls Tryz.prog 121 #[.int .i64 2, .int .i64 n] w fun e w' => e = .returned (.bool true) ∧ w' = w := by
 have h3 : n < 512 := by omega
 go_enter Tryz.func121, Tryz.ntmps121
 go_wp2
 go_ret;simp
theorem holds2_no (n : Int) (w : World) (hc : w.cell? ⟨1, 5, none⟩ = some (.int .i64 9)) (h : n < 0 ∨ 511 < n) :
  Calls Tryz.prog 121 #[.int .i64 2, .int .i64 n] w fun e w' => e = .returned (.bool false) ∧ w' = w := by
 by_cases h1 : n < 0
 ·go_enter Tryz.func121, Tryz.ntmps121
  go_wp2
  go_ret;simp
 ·have h2 : ¬ n < 512 := by omega
  go_enter Tryz.func121, Tryz.ntmps121
  go_wp2
  go_ret;simp
theorem holds3_yes (n : Int) (w : World) (hc : w.cell? ⟨1, 7, none⟩ = some (.int .i64 9)) (h1 : 0 ≤ n) (h2 : n ≤ 511) :
  Calls Tryz.prog 121 #[.int .i64 3, .int .i64 n] w fun e w' => e = .returned (.bool true) ∧ w' = w := by
 have h3 : n < 512 := by omega
 go_enter Tryz.func121, Tryz.ntmps121
 go_wp2
 go_ret;simp
theorem holds3_no (n : Int) (w : World) (hc : w.cell? ⟨1, 7, none⟩ = some (.int .i64 9)) (h : n < 0 ∨ 511 < n) :
  Calls Tryz.prog 121 #[.int .i64 3, .int .i64 n] w fun e w' => e = .returned (.bool false) ∧ w' = w := by
 by_cases h1 : n < 0
 ·go_enter Tryz.func121, Tryz.ntmps121
  go_wp2
  go_ret;simp
 ·have h2 : ¬ n < 512 := by omega
  go_enter Tryz.func121, Tryz.ntmps121
  go_wp2
  go_ret;simp
theorem or4w (op a b c : Int) (h1 : 0 ≤ op) (h2 : op ≤ 63) (h3 : 0 ≤ a) (h4 : a ≤ 255) (h5 : 0 ≤ b) (h6 : b ≤ 511) (h7 : 0 ≤ c) (h8 : c ≤ 511) :
  bits .or .u32 (bits .or .u32 (bits .or .u32 (bits .or .u32 0 op) (a * 64)) (b * 16384)) (c * 8388608) = op + 64 * a + 16384 * b + 8388608 * c := by
 obtain ⟨op, rfl⟩ := Int.eq_ofNat_of_zero_le h1;obtain ⟨a, rfl⟩ := Int.eq_ofNat_of_zero_le h3;obtain ⟨b, rfl⟩ := Int.eq_ofNat_of_zero_le h5;obtain ⟨c, rfl⟩ := Int.eq_ofNat_of_zero_le h7;have or2 : ∀ (i x y : Nat), x < 2 ^ i → y % 2 ^ i = 0 → x ||| y = x + y := fun i x y hx hy => by rw [Nat.or_comm, nat_join i y x hy hx, Nat.add_comm]
 rw [show (a : Int) * 64 = ((a * 64 : Nat) : Int) from by omega, show (b : Int) * 16384 = ((b * 16384 : Nat) : Int) from by omega, show (c : Int) * 8388608 = ((c * 8388608 : Nat) : Int) from by omega,
  show (0 : Int) = ((0 : Nat) : Int) from rfl, u32_or_nat 0 op (by omega) (by omega), Nat.zero_or, u32_or_nat _ _ (by omega) (by omega), or2 6 _ _ (by omega) (by omega),
  u32_or_nat _ _ (by omega) (by omega), or2 14 _ _ (by omega) (by omega), u32_or_nat _ _ (by omega) (by omega), or2 23 _ _ (by omega) (by omega)]
 omega
theorem ret_int {k : IntKind} {a b : Int} (h : a = b) : Ending.returned (.int k a) = .returned (.int k b) := by rw [h]
theorem implPack_in (op a b c s : Int) (w : World) (hS : Spans w) (h1 : 0 ≤ op) (h2 : op ≤ 63) (h3 : 0 ≤ a) (h4 : a ≤ 255) (h5 : 0 ≤ b) (h6 : b ≤ 511) (h7 : 0 ≤ c) (h8 : c ≤ 511) (hs : (s == b + 512 * c + -131072) = true) :
  Calls Tryz.prog 122 #[ins op a b c s] w fun e w' => e = .returned (.int .u32 (op + 64 * a + 16384 * b + 8388608 * c)) ∧ Below w.heap.size w w' := by
 obtain ⟨c0, c1, c2, c3, c4, c5, c6, c7, pos⟩ := hS;have m1 : ¬ (1 = w.heap.size) := by omega
 have m2 : ¬ (1 = w.heap.size + 1) := by omega
 have m3 : ¬ (w.heap.size = 1) := by omega
 have m4 : ¬ (w.heap.size + 1 = 1) := by omega
 have m5 : ¬ (w.heap.size = 0) := by omega
 have m6 : 0 < w.heap.size := by omega
 have m7 : 1 < w.heap.size + 1 := by omega
 have m8 : 1 < w.heap.size + 1 + 1 := by omega
 obtain rfl := beq_iff_eq.1 hs;clear hs;go_enter Tryz.func122, Tryz.ntmps122;go_wp2_with fail;refine wp_loop_rounds 5 ?_;rw [rounds_succ];go_wp2_with fail;refine (qg2 op _ (by simp [*, go_sem]) (by omega) (by omega)).mono ?_;rintro e w' ⟨rfl, rfl⟩;go_wp2_with fail
 go_region
 go_wp2_with fail;rw [rounds_succ];go_wp2_with fail;refine (qg1 a _ (by simp [*, go_sem]) (by omega) (by omega)).mono ?_;rintro e w' ⟨rfl, rfl⟩;go_wp2_with fail
 go_region
 go_wp2_with fail;rw [rounds_succ];go_wp2_with fail;refine (holds2_yes b _ (by simp [*, go_sem]) (by omega) (by omega)).mono ?_;rintro e w' ⟨rfl, rfl⟩;go_wp2_with fail
 go_region
 go_wp2_with fail;rw [rounds_succ];go_wp2_with fail;refine (holds3_yes c _ (by simp [*, go_sem]) (by omega) (by omega)).mono ?_;rintro e w' ⟨rfl, rfl⟩;go_wp2_with fail
 go_region
 go_wp2_with fail;rw [rounds_succ];go_wp2_with fail
 go_region_held3 (fun w' => w'.cell? ⟨w.heap.size, 2, none⟩ = some (.int .i64 b) ∧ w'.cell? ⟨w.heap.size, 3, none⟩ = some (.int .i64 c) ∧ w'.cell? ⟨w.heap.size, 4, none⟩ = some (.int .i64 (b + 512 * c + -131072))) (go_keep)
  (first | (go_at_call 123; refine (wideOf_any _ _ _ (by omega) (by omega) (by omega) (by omega)).mono ?_; rintro e w' ⟨rfl, rfl⟩))
 go_wp2_with fail;go_ret;exact ⟨ret_int (or4w op a b c h1 h2 h3 h4 h5 h6 h7 h8), by go_grown⟩
theorem implPack_off (op a b c s : Int) (w : World) (hS : Spans w) (h1 : 0 ≤ op) (h2 : op ≤ 63) (h3 : 0 ≤ a) (h4 : a ≤ 255) (h5 : 0 ≤ b) (h6 : b ≤ 511) (h7 : 0 ≤ c) (h8 : c ≤ 511) (hs : (s == b + 512 * c + -131072) = false) :
  Calls Tryz.prog 122 #[ins op a b c s] w fun e w' => e = .returned (.int .u32 0) ∧ Below w.heap.size w w' := by
 obtain ⟨c0, c1, c2, c3, c4, c5, c6, c7, pos⟩ := hS;have m1 : ¬ (1 = w.heap.size) := by omega
 have m2 : ¬ (1 = w.heap.size + 1) := by omega
 have m3 : ¬ (w.heap.size = 1) := by omega
 have m4 : ¬ (w.heap.size + 1 = 1) := by omega
 have m5 : ¬ (w.heap.size = 0) := by omega
 have m6 : 0 < w.heap.size := by omega
 have m7 : 1 < w.heap.size + 1 := by omega
 have m8 : 1 < w.heap.size + 1 + 1 := by omega
 go_enter Tryz.func122, Tryz.ntmps122;go_wp2_with fail;refine wp_loop_rounds 5 ?_;rw [rounds_succ];go_wp2_with fail;refine (qg2 op _ (by simp [*, go_sem]) (by omega) (by omega)).mono ?_;rintro e w' ⟨rfl, rfl⟩;go_wp2_with fail
 go_region
 go_wp2_with fail;rw [rounds_succ];go_wp2_with fail;refine (qg1 a _ (by simp [*, go_sem]) (by omega) (by omega)).mono ?_;rintro e w' ⟨rfl, rfl⟩;go_wp2_with fail
 go_region
 go_wp2_with fail;rw [rounds_succ];go_wp2_with fail;refine (holds2_yes b _ (by simp [*, go_sem]) (by omega) (by omega)).mono ?_;rintro e w' ⟨rfl, rfl⟩;go_wp2_with fail
 go_region
 go_wp2_with fail;rw [rounds_succ];go_wp2_with fail;refine (holds3_yes c _ (by simp [*, go_sem]) (by omega) (by omega)).mono ?_;rintro e w' ⟨rfl, rfl⟩;go_wp2_with fail
 go_region
 go_wp2_with fail;rw [rounds_succ];go_wp2_with fail
 go_region_held3 (fun w' => w'.cell? ⟨w.heap.size, 2, none⟩ = some (.int .i64 b) ∧ w'.cell? ⟨w.heap.size, 3, none⟩ = some (.int .i64 c) ∧ w'.cell? ⟨w.heap.size, 4, none⟩ = some (.int .i64 s)) (go_keep)
  (first | (go_at_call 123; refine (wideOf_any _ _ _ (by omega) (by omega) (by omega) (by omega)).mono ?_; rintro e w' ⟨rfl, rfl⟩))
 go_wp2_with fail;go_ret;exact ⟨rfl, by go_grown⟩
theorem implPack_out0 (op a b c s : Int) (w : World) (hS : Spans w)  (hn : op < 0 ∨ 63 < op) :
  Calls Tryz.prog 122 #[ins op a b c s] w fun e w' => e = .returned (.int .u32 0) ∧ Below w.heap.size w w' := by
 obtain ⟨c0, c1, c2, c3, c4, c5, c6, c7, pos⟩ := hS;have m1 : ¬ (1 = w.heap.size) := by omega
 have m2 : ¬ (1 = w.heap.size + 1) := by omega
 have m3 : ¬ (w.heap.size = 1) := by omega
 have m4 : ¬ (w.heap.size + 1 = 1) := by omega
 have m5 : ¬ (w.heap.size = 0) := by omega
 have m6 : 0 < w.heap.size := by omega
 have m7 : 1 < w.heap.size + 1 := by omega
 have m8 : 1 < w.heap.size + 1 + 1 := by omega
 have HN : Hid (op < 0 ∨ 63 < op) := hn;clear hn;go_enter Tryz.func122, Tryz.ntmps122;go_wp2_with fail;refine wp_loop_rounds 5 ?_;rw [rounds_succ];go_wp2_with fail;refine (holds0_no op _ (by simp [*, go_sem]) HN.out).mono ?_;rintro e w' ⟨rfl, rfl⟩;go_wp2_with fail;go_ret;exact ⟨rfl, by go_grown⟩
theorem implPack_out1 (op a b c s : Int) (w : World) (hS : Spans w) (h1 : 0 ≤ op) (h2 : op ≤ 63) (hn : a < 0 ∨ 255 < a) :
  Calls Tryz.prog 122 #[ins op a b c s] w fun e w' => e = .returned (.int .u32 0) ∧ Below w.heap.size w w' := by
 obtain ⟨c0, c1, c2, c3, c4, c5, c6, c7, pos⟩ := hS;have m1 : ¬ (1 = w.heap.size) := by omega
 have m2 : ¬ (1 = w.heap.size + 1) := by omega
 have m3 : ¬ (w.heap.size = 1) := by omega
 have m4 : ¬ (w.heap.size + 1 = 1) := by omega
 have m5 : ¬ (w.heap.size = 0) := by omega
 have m6 : 0 < w.heap.size := by omega
 have m7 : 1 < w.heap.size + 1 := by omega
 have m8 : 1 < w.heap.size + 1 + 1 := by omega
 have HN : Hid (a < 0 ∨ 255 < a) := hn;clear hn;go_enter Tryz.func122, Tryz.ntmps122;go_wp2_with fail;refine wp_loop_rounds 5 ?_;rw [rounds_succ];go_wp2_with fail;refine (qg2 op _ (by simp [*, go_sem]) (by omega) (by omega)).mono ?_;rintro e w' ⟨rfl, rfl⟩;go_wp2_with fail
 go_region
 go_wp2_with fail;rw [rounds_succ];go_wp2_with fail;refine (holds1_no a _ (by simp [*, go_sem]) HN.out).mono ?_;rintro e w' ⟨rfl, rfl⟩;go_wp2_with fail;go_ret;exact ⟨rfl, by go_grown⟩
theorem implPack_out2 (op a b c s : Int) (w : World) (hS : Spans w) (h1 : 0 ≤ op) (h2 : op ≤ 63) (h3 : 0 ≤ a) (h4 : a ≤ 255) (hn : b < 0 ∨ 511 < b) :
  Calls Tryz.prog 122 #[ins op a b c s] w fun e w' => e = .returned (.int .u32 0) ∧ Below w.heap.size w w' := by
 obtain ⟨c0, c1, c2, c3, c4, c5, c6, c7, pos⟩ := hS;have m1 : ¬ (1 = w.heap.size) := by omega
 have m2 : ¬ (1 = w.heap.size + 1) := by omega
 have m3 : ¬ (w.heap.size = 1) := by omega
 have m4 : ¬ (w.heap.size + 1 = 1) := by omega
 have m5 : ¬ (w.heap.size = 0) := by omega
 have m6 : 0 < w.heap.size := by omega
 have m7 : 1 < w.heap.size + 1 := by omega
 have m8 : 1 < w.heap.size + 1 + 1 := by omega
 have HN : Hid (b < 0 ∨ 511 < b) := hn;clear hn;go_enter Tryz.func122, Tryz.ntmps122;go_wp2_with fail;refine wp_loop_rounds 5 ?_;rw [rounds_succ];go_wp2_with fail;refine (qg2 op _ (by simp [*, go_sem]) (by omega) (by omega)).mono ?_;rintro e w' ⟨rfl, rfl⟩;go_wp2_with fail
 go_region
 go_wp2_with fail;rw [rounds_succ];go_wp2_with fail;refine (qg1 a _ (by simp [*, go_sem]) (by omega) (by omega)).mono ?_;rintro e w' ⟨rfl, rfl⟩;go_wp2_with fail
 go_region
 go_wp2_with fail;rw [rounds_succ];go_wp2_with fail;refine (holds2_no b _ (by simp [*, go_sem]) HN.out).mono ?_;rintro e w' ⟨rfl, rfl⟩;go_wp2_with fail;go_ret;exact ⟨rfl, by go_grown⟩
theorem implPack_out3 (op a b c s : Int) (w : World) (hS : Spans w) (h1 : 0 ≤ op) (h2 : op ≤ 63) (h3 : 0 ≤ a) (h4 : a ≤ 255) (h5 : 0 ≤ b) (h6 : b ≤ 511) (hn : c < 0 ∨ 511 < c) :
  Calls Tryz.prog 122 #[ins op a b c s] w fun e w' => e = .returned (.int .u32 0) ∧ Below w.heap.size w w' := by
 obtain ⟨c0, c1, c2, c3, c4, c5, c6, c7, pos⟩ := hS;have m1 : ¬ (1 = w.heap.size) := by omega
 have m2 : ¬ (1 = w.heap.size + 1) := by omega
 have m3 : ¬ (w.heap.size = 1) := by omega
 have m4 : ¬ (w.heap.size + 1 = 1) := by omega
 have m5 : ¬ (w.heap.size = 0) := by omega
 have m6 : 0 < w.heap.size := by omega
 have m7 : 1 < w.heap.size + 1 := by omega
 have m8 : 1 < w.heap.size + 1 + 1 := by omega
 have HN : Hid (c < 0 ∨ 511 < c) := hn;clear hn;go_enter Tryz.func122, Tryz.ntmps122;go_wp2_with fail;refine wp_loop_rounds 5 ?_;rw [rounds_succ];go_wp2_with fail;refine (qg2 op _ (by simp [*, go_sem]) (by omega) (by omega)).mono ?_;rintro e w' ⟨rfl, rfl⟩;go_wp2_with fail
 go_region
 go_wp2_with fail;rw [rounds_succ];go_wp2_with fail;refine (qg1 a _ (by simp [*, go_sem]) (by omega) (by omega)).mono ?_;rintro e w' ⟨rfl, rfl⟩;go_wp2_with fail
 go_region
 go_wp2_with fail;rw [rounds_succ];go_wp2_with fail;refine (holds2_yes b _ (by simp [*, go_sem]) (by omega) (by omega)).mono ?_;rintro e w' ⟨rfl, rfl⟩;go_wp2_with fail
 go_region
 go_wp2_with fail;rw [rounds_succ];go_wp2_with fail;refine (holds3_no c _ (by simp [*, go_sem]) HN.out).mono ?_;rintro e w' ⟨rfl, rfl⟩;go_wp2_with fail;go_ret;exact ⟨rfl, by go_grown⟩
end Go.Proofs.YtplijnfaiofckaaGreatDoor
namespace Go.Proofs.YtplijnfaiofckaaGreatDoor
open Go.RowKit
set_option linter.unusedVariables false
def packed (op a b c s : Int) : Int := if (0 ≤ op ∧ op ≤ 63) ∧ (0 ≤ a ∧ a ≤ 255) ∧ (0 ≤ b ∧ b ≤ 511) ∧ (0 ≤ c ∧ c ≤ 511) ∧ s = b + 512 * c - 131072 then op + 64 * a + 16384 * b + 8388608 * c else 0
theorem ret_int' {P : World → Prop} {a b : Int} (h : b = a) {f : Nat} {args : Array Value} {w : World} (hc : Calls Tryz.prog f args w fun e w' => e = .returned (.int .u32 a) ∧ P w') :
  Calls Tryz.prog f args w fun e w' => e = .returned (.int .u32 b) ∧ P w' := by rw [h]; exact hc
theorem implPack_any (op a b c s : Int) (w : World) (hS : Spans w) : Calls Tryz.prog 122 #[ins op a b c s] w fun e w' => e = .returned (.int .u32 (packed op a b c s)) ∧ Below w.heap.size w w' := by
 by_cases k0 : 0 ≤ op ∧ op ≤ 63
 ·by_cases k1 : 0 ≤ a ∧ a ≤ 255
  ·by_cases k2 : 0 ≤ b ∧ b ≤ 511
   ·by_cases k3 : 0 ≤ c ∧ c ≤ 511
    ·by_cases k4 : s = b + 512 * c - 131072
     ·exact ret_int' (by rw [packed, if_pos ⟨k0, k1, k2, k3, k4⟩]) (implPack_in op a b c s w hS k0.1 k0.2 k1.1 k1.2 k2.1 k2.2 k3.1 k3.2 (by simp; omega))
     ·exact ret_int' (by rw [packed, if_neg (fun h => k4 h.2.2.2.2)]) (implPack_off op a b c s w hS k0.1 k0.2 k1.1 k1.2 k2.1 k2.2 k3.1 k3.2 (by simp; omega))
    ·exact ret_int' (by rw [packed, if_neg (fun h => k3 h.2.2.2.1)]) (implPack_out3 op a b c s w hS k0.1 k0.2 k1.1 k1.2 k2.1 k2.2 (by omega))
   ·exact ret_int' (by rw [packed, if_neg (fun h => k2 h.2.2.1)]) (implPack_out2 op a b c s w hS k0.1 k0.2 k1.1 k1.2 (by omega))
  ·exact ret_int' (by rw [packed, if_neg (fun h => k1 h.2.1)]) (implPack_out1 op a b c s w hS k0.1 k0.2 (by omega))
 ·exact ret_int' (by rw [packed, if_neg (fun h => k0 h.1)]) (implPack_out0 op a b c s w hS (by omega))
end Go.Proofs.YtplijnfaiofckaaGreatDoor
namespace Go.Proofs.YtplijnfaiofckaaGreatDoor
open Go.RowKit
set_option linter.unusedVariables false
set_option linter.unusedSimpArgs false
set_option maxRecDepth 100000
set_option maxHeartbeats 9000000
theorem rowSet5 {w : World} {b : Nat} {t : TypeId} {x0 x1 x2 x3 x4 : Value} (h : RowL w b t [x0, x1, x2, x3, x4]) (y0 y1 y2 y3 y4 : Value) :
  RowL (((((w.setCell ⟨b, 0, none⟩ y0).setCell ⟨b, 1, none⟩ y1).setCell ⟨b, 2, none⟩ y2).setCell ⟨b, 3, none⟩ y3).setCell ⟨b, 4, none⟩ y4) b t [y0, y1, y2, y3, y4] :=
 ((((h.set 0 y0).set 1 y1).set 2 y2).set 3 y3).set 4 y4
theorem lit_no {p q : ByteArray} {l : List UInt8} (hq : q.data.toList = l) (h : p ≠ q) : (p.toList == l) = false := by
 have := str_eq p q;rw [decide_eq_false h, ByteArray.toList_eq q, hq] at this;exact this
def wordB : ByteArray := ⟨#[119, 111, 114, 100]⟩
noncomputable def wordN (r : List ByteArray) : Option Int := match r with
 | [p] => if 0 ≤ natOf p 4294967295 ∧ natOf p 4294967295 % 64 > 33 then some (natOf p 4294967295) else none
 | _ => none
noncomputable def wordK (k : Nat) (r : List ByteArray) : Option Int :=
 if WideOp k then match r with
  | [p, q] => match decOf q with
   | some s => if 0 ≤ natOf p 255 ∧ -131072 ≤ s ∧ s ≤ 131071 then some (packed k (natOf p 255) ((s + 131072) % 512) ((s + 131072) / 512) s) else none
   | none => none
  | _ => none
 else match r with
  | [p, q, t] => if 0 ≤ natOf p 255 ∧ 0 ≤ natOf q 511 ∧ 0 ≤ natOf t 511 then some (packed k (natOf p 255) (natOf q 511) (natOf t 511) (natOf q 511 + 512 * natOf t 511 - 131072)) else none
  | _ => none
inductive StepW (p : ByteArray) (r : List ByteArray) : Option Int → Prop
 | word : p = wordB → StepW p r (wordN r)
 | op {k : Nat} : k < 34 → nm k = p → StepW p r (wordK k r)
 | none : p ≠ wordB → (∀ k, k < 34 → nm k ≠ p) → StepW p r none
theorem nm_word : ∀ k : Fin 34, nm k.val ≠ wordB := by decide
theorem nm_inj_fin : ∀ i j : Fin 34, nm i.val = nm j.val → i = j := by decide +kernel
theorem nm_inj {i j : Nat} (hi : i < 34) (hj : j < 34) (h : nm i = nm j) : i = j := congrArg Fin.val (nm_inj_fin ⟨i, hi⟩ ⟨j, hj⟩ h)
theorem RowL.setRow {w : World} {b : Nat} {t : TypeId} {L : List Value} (h : RowL w b t L) (vs : List Value) (hl : vs.length = L.length) : RowL (w.setRow b vs.toArray) b t vs := by
 obtain ⟨c, hc, hs, _⟩ := h;refine ⟨vs.toArray, setRow_heap w b c _ t _ hc, by simp, fun i hi => ?_⟩;simp [hi, List.getD]
theorem RowL.rowOther {w : World} {b g : Nat} {t : TypeId} {L : List Value} (h : RowL w b t L) (hb : b ≠ g) (c : Array Value) : RowL (w.setRow g c) b t L := World.rowIs.of_block h (setRow_other _ _ _ _ hb)
theorem qc5 {n b : Nat} {w w' : World} (h : Below n w w') (hb : n ≤ b) (c : Array Value) : Below n w (w'.setRow b c) :=
 ⟨h.os, h.tape, h.output, by rw [setRow_size]; exact h.size, fun i hi => (setRow_other _ _ _ _ (by omega)).trans (h.block i hi)⟩
theorem step_store_row {P : Program} {ops : Array Oper} {o : Oper} {a : Act} {w : World} {K : Act → World → Prop} {Q : Exit → Act → World → Prop} {E : Prop} (ty : TypeId) (x y : Operand) (hgd : o.guard = none) (ho : o.op = .store ty x y)
  (g : Nat) (cells : Array Value) (hx : a.eval x = .pointer (some ⟨g, 0, none⟩)) (hy : a.eval y = .agg cells)
  (t : TypeId) (old : Array Value) (hg : w.heap[g]? = some (.cells old t (0, 0))) (hi : (P.info? ty).map (·.size) = some cells.size)
  (hold : old.size = cells.size) (h1 : cells.all (·.oneCell') = true)
  (h : K (a.put o.dst undef) (w.setRow g cells)) : if Region.wanted o (yielded ops a.tmps) = true then Oper.wp P o a w K Q else E := by
 have hw : Region.wanted o (yielded ops a.tmps) = true := by simp [Region.wanted, hgd]
 rw [if_pos hw];exact wp_store_row ty x y ho g cells hx hy t old hg hi hold h1 h
theorem ready_storeL {P : Program} {md : Region.Mode} {ops : Array Oper} {Q : Exit → Act → World → Prop} {S : World → Prop} {fuel : Nat} {listed : Array Bool} {a : Act} {w : World} (i : Nat) {o : Oper} (hr : Region.ready md ops listed = [i]) (hi : ops[i]? = some o)
  (ty : TypeId) (x y : Operand) (hgd : o.guard = none) (ho : o.op = .store ty x y) (hd : o.dst = none)
  (g : Nat) (L vs : List Value) (hx : a.eval x = .pointer (some ⟨g, 0, none⟩)) (hy : a.eval y = .agg vs.toArray)
  (t : TypeId) (hg : RowL w g t L) (hin : (P.info? ty).map (·.size) = some vs.length)
  (hold : L.length = vs.length) (h1 : vs.all (·.oneCell') = true) (hS : S (w.setRow g vs.toArray))
  (h : wpAnyH P md ops Q S fuel (listed.setIfInBounds i true) a (w.setRow g vs.toArray)) : wpAnyH P md ops Q S (fuel + 1) listed a w := by
 obtain ⟨old, hg, ho1, _⟩ := hg;exact wpAnyH_ready hr (by simp) (AllReadyH.cons hi (fun K hK => step_store_row ty x y hgd ho g vs.toArray hx hy t old hg (by simpa using hin) (by simp; omega) (by simpa using h1) (hK.out _ _ hS (fun _ => by rw [hd]; exact h))) AllReadyH.nil)
theorem infP1 : (Tryz.prog.info? 63).map (·.size) = some 10 := by kernel_rfl
end Go.Proofs.YtplijnfaiofckaaGreatDoor
namespace Go.Proofs.YtplijnfaiofckaaGreatDoor
open Go.RowKit Go.Shelf
set_option linter.unusedVariables false
set_option linter.unusedSimpArgs false
set_option maxRecDepth 100000
set_option maxHeartbeats 9000000
def stackB : ByteArray := ⟨#[115, 116, 97, 99, 107]⟩
def cellB : ByteArray := ⟨#[99, 101, 108, 108]⟩
noncomputable def upP (r : List ByteArray) : Option UD := match r with
 | [p, q] => if (p = stackB ∨ p = cellB) ∧ 0 ≤ natOf q 16777215 then some ⟨decide (p = stackB), natOf q 16777215⟩ else none
 | _ => none
def nilB : ByteArray := ⟨#[110, 105, 108]⟩
def trueB : ByteArray := ⟨#[116, 114, 117, 101]⟩
def falseB : ByteArray := ⟨#[102, 97, 108, 115, 101]⟩
def intB : ByteArray := ⟨#[105, 110, 116]⟩
def textB : ByteArray := ⟨#[116, 101, 120, 116]⟩
noncomputable def constP (r : List ByteArray) : Option VD := match r with
 | [p] => if p = nilB then some ⟨0, 0, ⟨#[]⟩⟩ else if p = trueB then some ⟨1, 1, ⟨#[]⟩⟩ else if p = falseB then some ⟨1, 0, ⟨#[]⟩⟩ else none
 | [p, q] => if p = intB then (decOf q).map (fun n => ⟨2, n, ⟨#[]⟩⟩) else if p = textB then (qd1 q).map (fun t => ⟨3, 0, t⟩) else none
 | _ => none
theorem constP1 (p : ByteArray) : constP [p] = if p = nilB then some ⟨0, 0, ⟨#[]⟩⟩ else if p = trueB then some ⟨1, 1, ⟨#[]⟩⟩ else if p = falseB then some ⟨1, 0, ⟨#[]⟩⟩ else none := rfl
theorem constP2 (p q : ByteArray) : constP [p, q] = if p = intB then (decOf q).map (fun n => ⟨2, n, ⟨#[]⟩⟩) else if p = textB then (qd1 q).map (fun t => ⟨3, 0, t⟩) else none := rfl
theorem dd : nilB ≠ trueB ∧ nilB ≠ falseB ∧ trueB ≠ falseB ∧ intB ≠ textB := by decide
def varB : ByteArray := ⟨#[118, 97, 114, 97, 114, 103]⟩
def bareP (a b c : Int) (v : Bool) : PD := ⟨a, v, b, ⟨0, fun _ => 0⟩, ⟨0, fun _ => ⟨0, 0, ⟨#[]⟩⟩⟩, ⟨0, fun _ => ⟨false, 0⟩⟩, c, ⟨#[]⟩, ⟨0, fun _ => 0⟩, ⟨0, fun _ => ⟨#[]⟩⟩⟩
abbrev hdV (a b c : Int) (v : Bool) : Value := .agg #[.int .i64 a, .bool v, .int .i64 b, .slice none 0 0, .slice none 0 0, .slice none 0 0, .int .i64 c, .string ⟨#[]⟩, .slice none 0 0, .slice none 0 0]
noncomputable def headP (r : List ByteArray) : Option PD := match r with
 | [p, q, t] => if 0 ≤ natOf p 16777215 ∧ 0 ≤ natOf q 16777215 ∧ 0 ≤ natOf t 16777215 then some (bareP (natOf p 16777215) (natOf q 16777215) (natOf t 16777215) false) else none
 | [p, q, t, v] => if v = varB then (if 0 ≤ natOf p 16777215 ∧ 0 ≤ natOf q 16777215 ∧ 0 ≤ natOf t 16777215 then some (bareP (natOf p 16777215) (natOf q 16777215) (natOf t 16777215) true) else none) else none
 | _ => none
theorem headP3 (p q t : ByteArray) : headP [p, q, t] = if 0 ≤ natOf p 16777215 ∧ 0 ≤ natOf q 16777215 ∧ 0 ≤ natOf t 16777215 then some (bareP (natOf p 16777215) (natOf q 16777215) (natOf t 16777215) false) else none := rfl
theorem headP4 (p q t v : ByteArray) : headP [p, q, t, v] = if v = varB then (if 0 ≤ natOf p 16777215 ∧ 0 ≤ natOf q 16777215 ∧ 0 ≤ natOf t 16777215 then some (bareP (natOf p 16777215) (natOf q 16777215) (natOf t 16777215) true) else none) else none := rfl
end Go.Proofs.YtplijnfaiofckaaGreatDoor
namespace Go.Proofs.YtplijnfaiofckaaGreatDoor
open Go.RowKit
set_option linter.unusedVariables false
set_option linter.unusedSimpArgs false
theorem StepW.det {p : ByteArray} {r : List ByteArray} {R S : Option Int} (h : StepW p r R) (k : StepW p r S) : R = S := by
 cases h with
 | word h1 =>
  cases k with
  | word _ => rfl
  | op hk e => exact absurd (e.trans h1) (nm_word ⟨_, hk⟩)
  | none h2 _ => exact absurd h1 h2
 | op hk e =>
  cases k with
  | word h1 => exact absurd (e.trans h1) (nm_word ⟨_, hk⟩)
  | op hj e2 => rw [nm_inj hk hj (e.trans e2.symm)]
  | none _ h2 => exact absurd e (h2 _ hk)
 | none h1 h2 =>
  cases k with
  | word h3 => exact absurd h3 h1
  | op hj e => exact absurd e (h2 _ hj)
  | none _ _ => rfl
def Sl.add {α : Type} (s : Sl α) (x : α) : Sl α := ⟨s.n + 1, fun i => if i < s.n then s.f i else x⟩
def qb4 : ByteArray := ⟨#[112, 114, 111, 116, 111]⟩
def qa8 : ByteArray := ⟨#[99, 111, 110, 115, 116]⟩
def upB' : ByteArray := ⟨#[117, 112]⟩
def PD.addConst (p : PD) (d : VD) : PD := { p with consts := p.consts.add d }
def PD.addUp (p : PD) (u : UD) : PD := { p with ups := p.ups.add u }
def PD.addWord (p : PD) (x : Int) : PD := { p with code := p.code.add x }
inductive LStep : List PD → ByteArray → List ByteArray → Option (List PD) → Prop
 | proto {L r} : LStep L qb4 r ((headP r).map fun p => L ++ [p])
 | none {w r} : w ≠ qb4 → LStep [] w r none
 | const {K p r} : LStep (K ++ [p]) qa8 r (if p.ups.n = 0 ∧ p.code.n = 0 then (constP r).map (fun d => K ++ [p.addConst d]) else none)
 | up {K p r} : LStep (K ++ [p]) upB' r (if p.code.n = 0 then (upP r).map (fun u => K ++ [p.addUp u]) else none)
 | word {K p w r R} : w ≠ qb4 → w ≠ qa8 → w ≠ upB' → StepW w r R → LStep (K ++ [p]) w r (R.map fun x => K ++ [p.addWord x])
theorem kw_ne : qb4 ≠ qa8 ∧ qb4 ≠ upB' ∧ qa8 ≠ upB' := by decide
theorem snoc_inj {α : Type} {K J : List α} {p q : α} (h : K ++ [p] = J ++ [q]) : K = J ∧ p = q := by
 have := List.append_inj' h rfl;exact ⟨this.1, by simpa using this.2⟩
theorem LStep.det : ∀ {L : List PD} {w : ByteArray} {r : List ByteArray} {R S : Option (List PD)}, LStep L w r R → LStep L w r S → R = S := by
 intro L w r R S h k;obtain ⟨M, hM⟩ : ∃ M, M = L := ⟨_, rfl⟩
 cases h with
 | proto =>
  generalize hw : qb4 = w' at k
  cases k with
  | proto => rfl
  | none h => exact absurd hw.symm h
  | const => exact absurd hw kw_ne.1
  | up => exact absurd hw kw_ne.2.1
  | word h _ _ _ => exact absurd hw.symm h
 | none hne =>
  generalize hL : ([] : List PD) = L' at k
  cases k with
  | proto => exact absurd rfl hne
  | none _ => rfl
  | const => simp at hL
  | up => simp at hL
  | word _ _ _ _ => simp at hL
 | @const K p =>
  generalize hL : K ++ [p] = L' at k;generalize hw : qa8 = w' at k
  cases k with
  | proto => exact absurd hw.symm kw_ne.1
  | none _ => simp at hL
  | const => obtain ⟨rfl, rfl⟩ := snoc_inj hL; rfl
  | up => exact absurd hw kw_ne.2.2
  | word _ h _ _ => exact absurd hw.symm h
 | @up K p =>
  generalize hL : K ++ [p] = L' at k;generalize hw : upB' = w' at k
  cases k with
  | proto => exact absurd hw.symm kw_ne.2.1
  | none _ => simp at hL
  | const => exact absurd hw.symm kw_ne.2.2
  | up => obtain ⟨rfl, rfl⟩ := snoc_inj hL; rfl
  | word _ _ h _ => exact absurd hw.symm h
 | @word K p w r R h1 h2 h3 h4 =>
  generalize hL : K ++ [p] = L' at k
  cases k with
  | proto => exact absurd rfl h1
  | none _ => simp at hL
  | const => exact absurd rfl h2
  | up => exact absurd rfl h3
  | word _ _ _ h5 => obtain ⟨rfl, rfl⟩ := snoc_inj hL; rw [h4.det h5]
end Go.Proofs.YtplijnfaiofckaaGreatDoor
namespace Go.Proofs.YtplijnfaiofckaaGreatDoor
open Go.RowKit
set_option linter.unusedVariables false
set_option linter.unusedSimpArgs false
set_option maxRecDepth 100000
set_option maxHeartbeats 9000000
def cutL (b : UInt8) : List UInt8 → List (List UInt8)
 | [] => [[]]
 | c :: r => if c = b then [] :: cutL b r else match cutL b r with
  | [] => [[c]]
  | h :: t => (c :: h) :: t
theorem cutL_ne (b : UInt8) : ∀ l, cutL b l ≠ []
 | [] => by simp [cutL]
 | c :: r => by
  unfold cutL;split
  ·simp
  ·split <;> simp
theorem cutL_hit (b : UInt8) (v : List UInt8) : ∀ (u : List UInt8), (∀ x ∈ u, x ≠ b) → cutL b (u ++ b :: v) = u :: cutL b v
 | [], _ => by simp [cutL]
 | c :: u, h => by
  have ih := cutL_hit b v u fun x hx => h x (List.mem_cons_of_mem _ hx);rw [List.cons_append, cutL, if_neg (h c (List.mem_cons_self ..)), ih]
theorem cutL_no (b : UInt8) : ∀ (u : List UInt8), (∀ x ∈ u, x ≠ b) → cutL b u = [u]
 | [], _ => rfl
 | c :: u, h => by
  have ih := cutL_no b u fun x hx => h x (List.mem_cons_of_mem _ hx);rw [cutL, if_neg (h c (List.mem_cons_self ..)), ih]
def cutB (b : UInt8) (s : ByteArray) : List ByteArray := (cutL b s.data.toList).map fun l => ⟨l.toArray⟩
theorem qh2 (s : ByteArray) (f i : Nat) (hf : f ≤ i) (hi : i ≤ s.size) : (s.extract f i).data.toList = (s.data.toList.drop f).take (i - f) := by
 rw [ByteArray.data_extract, Array.toList_extract]
theorem infS1A : (Tryz.prog.info? 9).map (fun i => (i.zero, i.size, i.bytes)) = some (some (.string ⟨#[]⟩), 1, 16) := by kernel_rfl
end Go.Proofs.YtplijnfaiofckaaGreatDoor
namespace Go.Proofs.YtplijnfaiofckaaGreatDoor
open Go.RowKit
set_option linter.unusedVariables false
set_option linter.unusedSimpArgs false
structure PVa where
 p : PD
 a3 : Value
 a4 : Value
 a5 : Value
def PVa.cells (q : PVa) : List Value := [.int .i64 q.p.params, .bool q.p.vararg, .int .i64 q.p.regs, q.a3, q.a4, q.a5, .int .i64 q.p.kids, .string q.p.name, .slice none 0 0, .slice none 0 0]
def codeC (s : Sl Int) : List Value := (List.range s.n).map fun i => .int .u32 (s.f i)
def valC (s : Sl VD) : List Value := (List.range s.n).flatMap fun i => [.int .i64 (s.f i).kind, .int .i64 (s.f i).num, .string (s.f i).text]
def upC (s : Sl UD) : List Value := (List.range s.n).flatMap fun i => [.bool (s.f i).stack, .int .i64 (s.f i).index]
structure PVok (w : World) (B : Nat) (q : PVa) : Prop where
 code : w.ownsRow B 101 1 q.a3 q.p.code.n (codeC q.p.code)
 consts : w.ownsRow B 96 3 q.a4 q.p.consts.n (valC q.p.consts)
 ups : w.ownsRow B 99 2 q.a5 q.p.ups.n (upC q.p.ups)
 lines : q.p.lines.n = 0
 upNames : q.p.upNames.n = 0
 name : q.p.name.size ≤ 9223372036854775807
 texts : ∀ i, i < q.p.consts.n → (q.p.consts.f i).text.size ≤ 9223372036854775807
def PVa.blks (q : PVa) : List (Option Nat) := [q.a3.ownBlock, q.a4.ownBlock, q.a5.ownBlock]
structure Mk (w : World) (B : Nat) (sv : Value) (Q : List PVa) : Prop where
 row : w.ownsRow B 63 10 sv Q.length (Q.flatMap PVa.cells)
 each : ∀ q ∈ Q, PVok w B q
 apart : (sv.ownBlock :: Q.flatMap PVa.blks).Pairwise (fun a b => a = none ∨ a ≠ b)
theorem qc0 {w w' : World} {B z n : Nat} {e : TypeId} {v : Value} {xs : List Value} (h : w.ownsRow B e z v n xs) (hk : ∀ k, v.ownBlock = some k → w'.heap[k]? = w.heap[k]?) : w'.ownsRow B e z v n xs := by
 refine ⟨h.1, ?_⟩;rcases h.2 with hn | ⟨g, cap, cur, hv, hb, hg, r⟩
 ·exact .inl hn
 ·refine .inr ⟨g, cap, cur, hv, hb, ?_, r⟩;rw [hk g (by rw [hv]; rfl)];exact hg
theorem qe0 {w : World} {B z n : Nat} {e : TypeId} {v : Value} {xs : List Value} (h : w.ownsRow B e z v n xs) : ∀ k, v.ownBlock = some k → k < w.heap.size ∧ B ≤ k := by
 intro k hk;rcases h.2 with ⟨hv, _⟩ | ⟨g, cap, cur, hv, hb, hg, r⟩
 ·rw [hv] at hk; cases hk
 ·rw [hv] at hk;have e : g = k := Option.some.inj hk;subst e;exact ⟨(Array.getElem?_eq_some_iff.1 hg).1, hb⟩
theorem PVok.keep {w w' : World} {B : Nat} {q : PVa} (h : PVok w B q) (hk : ∀ k, some k ∈ q.blks → w'.heap[k]? = w.heap[k]?) : PVok w' B q :=
 ⟨qc0 h.code fun k e => hk k (by simp [PVa.blks, e]), qc0 h.consts fun k e => hk k (by simp [PVa.blks, e]), qc0 h.ups fun k e => hk k (by simp [PVa.blks, e]), h.lines, h.upNames, h.name, h.texts⟩
theorem PVok.lt {w : World} {B : Nat} {q : PVa} (h : PVok w B q) : ∀ k, some k ∈ q.blks → k < w.heap.size ∧ B ≤ k := by
 intro k hk;simp only [PVa.blks, List.mem_cons, List.not_mem_nil, or_false] at hk;rcases hk with e | e | e
 ·exact qe0 h.code k e.symm
 ·exact qe0 h.consts k e.symm
 ·exact qe0 h.ups k e.symm
theorem Mk.keep {w w' : World} {B : Nat} {sv : Value} {Q : List PVa} (h : Mk w B sv Q) (hk : ∀ k, k < w.heap.size → B ≤ k → w'.heap[k]? = w.heap[k]?) : Mk w' B sv Q :=
 ⟨qc0 h.row fun k e => hk k (qe0 h.row k e).1 (qe0 h.row k e).2, fun q hq => (h.each q hq).keep fun k e => hk k ((h.each q hq).lt k e).1 ((h.each q hq).lt k e).2, h.apart⟩
theorem Mk.later {w w' : World} {B : Nat} {sv : Value} {Q : List PVa} (h : Mk w B sv Q) (hb : Below w.heap.size w w') : Mk w' B sv Q := h.keep fun k hk _ => hb.block k hk
theorem Mk.nil (w : World) (B : Nat) : Mk w B (.slice none 0 0) [] := ⟨⟨rfl, .inl ⟨rfl, rfl⟩⟩, (fun q hq => by simp at hq), (by simp)⟩
theorem ownsRow_arr {w : World} {B z n : Nat} {e : TypeId} {v : Value} {xs : List Value} {C : Nat → Nat → Value} (h : w.ownsRow B e z v n xs) (hn : n ≤ 9223372036854775807) (hC : ∀ i, i < n → ∀ j, j < z → xs[i * z + j]? = some (C i j)) : IsArr (· < w.heap.size) w v z n C := by
 rcases h.2 with ⟨hv, hz⟩ | ⟨g, cap, cur, hv, hb, hg, r⟩
 ·subst hz;exact ⟨none, 0, hv, hn, fun h => absurd h (by omega)⟩
 ·refine ⟨some ⟨g, 0, none⟩, cap, hv, hn, fun _ => ⟨g, 0, rfl, (Array.getElem?_eq_some_iff.1 hg).1, fun i hi j hj => ?_⟩⟩;have := h.cells (g := g) (by rw [hv]; rfl) (i * z + j) (C i j) (hC i hi j hj)
  have e9 : (⟨g, 0, none⟩ : Addr).add (i * z + j) = ⟨g, 0 + i * z + j, none⟩ := by
   rw [show 0 + i * z + j = i * z + j by omega];unfold Addr.add;split <;> simp_all
  rw [← e9];exact this
theorem flat_get {α : Type} {f : α → List Value} {z : Nat} : ∀ (l : List α), (∀ x ∈ l, (f x).length = z) → ∀ (i : Nat) (x : α), l[i]? = some x → ∀ j, j < z → (l.flatMap f)[i * z + j]? = (f x)[j]?
 | [], _, i, x, h, _, _ => by simp at h
 | y :: l, hz, 0, x, h, j, hj => by
  simp only [List.getElem?_cons_zero, Option.some.injEq] at h;subst h;rw [List.flatMap_cons, Nat.zero_mul, Nat.zero_add, List.getElem?_append_left (by rw [hz _ (List.mem_cons_self ..)]; exact hj)]
 | y :: l, hz, i + 1, x, h, j, hj => by
  rw [List.flatMap_cons, List.getElem?_append_right (by rw [hz _ (List.mem_cons_self ..)]; rw [Nat.add_mul]; omega), hz _ (List.mem_cons_self ..)];rw [show (i + 1) * z + j - z = i * z + j by rw [Nat.add_mul]; omega];exact flat_get l (fun x hx => hz x (List.mem_cons_of_mem _ hx)) i x (by simpa using h) j hj
theorem range_get {n i : Nat} (h : i < n) : (List.range n)[i]? = some i := List.getElem?_range h
theorem PVok.isProto {w : World} {B : Nat} {q : PVa} (h : PVok w B q) (h1 : q.p.code.n ≤ 1000000) (h2 : q.p.consts.n ≤ 1000000) (h3 : q.p.ups.n ≤ 1000000) : IsProto (· < w.heap.size) w q.a3 q.a4 q.a5 (.slice none 0 0) (.slice none 0 0) q.p := by
 refine ⟨ownsRow_arr h.code (by omega) fun i hi j hj => ?_, ⟨ownsRow_arr h.consts (by omega) fun i hi j hj => ?_, h.texts⟩, ownsRow_arr h.ups (by omega) fun i hi j hj => ?_, ?_, ⟨?_, fun i hi => absurd hi (by rw [h.upNames]; omega)⟩, h.name⟩
 ·obtain rfl : j = 0 := by omega
  rw [Nat.mul_one, Nat.add_zero, codeC, List.getElem?_map, range_get hi];rfl
 ·rw [valC, flat_get (z := 3) (List.range q.p.consts.n) (fun x _ => rfl) i i (range_get hi) j hj]
  match j, hj with
  | 0, _ => rfl
  | 1, _ => rfl
  | 2, _ => rfl
 ·rw [upC, flat_get (z := 2) (List.range q.p.ups.n) (fun x _ => rfl) i i (range_get hi) j hj]
  match j, hj with
  | 0, _ => rfl
  | 1, _ => rfl
 ·exact ⟨none, 0, by rw [h.lines], by rw [h.lines]; omega, fun hp => absurd hp (by rw [h.lines]; omega)⟩
 ·exact ⟨none, 0, by rw [h.upNames], by rw [h.upNames]; omega, fun hp => absurd hp (by rw [h.upNames]; omega)⟩
def qe4 (L : List PD) : Sl PD := ⟨L.length, fun i => L.getD i (bareP 0 0 0 false)⟩
def PVa.zero : PVa := ⟨bareP 0 0 0 false, .slice none 0 0, .slice none 0 0, .slice none 0 0⟩
theorem Mk.isProtos {w : World} {B : Nat} {sv : Value} {Q : List PVa} (h : Mk w B sv Q) (hQ : Q.length ≤ 1000000) (hb : ∀ q ∈ Q, q.p.code.n ≤ 1000000 ∧ q.p.consts.n ≤ 1000000 ∧ q.p.ups.n ≤ 1000000) : qa0 (· < w.heap.size) w sv (qe4 (Q.map (·.p))) := by
 have hat : ∀ i, i < Q.length → Q[i]? = some (Q.getD i PVa.zero) ∧ (qe4 (Q.map (·.p))).f i = (Q.getD i PVa.zero).p := fun i hi => by
  have e : Q[i]? = some (Q.getD i PVa.zero) := by rw [List.getD, List.getElem?_eq_getElem hi]; rfl
  refine ⟨e, ?_⟩;show (Q.map (·.p)).getD i _ = _;rw [List.getD, List.getElem?_map, e];rfl
 have hn : (qe4 (Q.map (·.p))).n = Q.length := by simp [qe4]
 refine ⟨fun i => (Q.getD i PVa.zero).a3, fun i => (Q.getD i PVa.zero).a4, fun i => (Q.getD i PVa.zero).a5, fun _ => .slice none 0 0, fun _ => .slice none 0 0, ?_, fun i hi => ?_⟩
 ·rw [hn];refine ownsRow_arr h.row (by omega) fun i hi j hj => ?_;obtain ⟨e, e2⟩ := hat i hi;rw [flat_get (z := 10) Q (fun x _ => rfl) i _ e j hj]
  match j, hj with
  | 0, _ => simp [PVa.cells, pC, e2]
  | 1, _ => simp [PVa.cells, pC, e2]
  | 2, _ => simp [PVa.cells, pC, e2]
  | 3, _ => simp [PVa.cells, pC, e2]
  | 4, _ => simp [PVa.cells, pC, e2]
  | 5, _ => simp [PVa.cells, pC, e2]
  | 6, _ => simp [PVa.cells, pC, e2]
  | 7, _ => simp [PVa.cells, pC, e2]
  | 8, _ => simp [PVa.cells, pC, e2]
  | 9, _ => simp [PVa.cells, pC, e2]
 ·rw [hn] at hi;obtain ⟨e, e2⟩ := hat i hi;have hm := List.mem_of_getElem? e;obtain ⟨b1, b2, b3⟩ := hb _ hm;rw [e2];exact (h.each _ hm).isProto b1 b2 b3
end Go.Proofs.YtplijnfaiofckaaGreatDoor

import Derived.Test.YtndpbdpngniepaaDoorUnpackA
namespace Go.Proofs.YtndpbdpngniepaaDoor
open Go.RowKit
set_option linter.unusedVariables false
abbrev ins (op a b c s : Int) : Value := .agg #[.int .i64 op, .int .i64 a, .int .i64 b, .int .i64 c, .int .i64 s]
theorem unpack_spec_int (z : Int) (w : World) (h1 : 0 ≤ z) (h2 : z ≤ 4294967295) :
    Calls Tryd.prog 10 #[.int .u32 z] w fun e w' => e = .returned (ins (z % 64) (z / 64 % 256) (z / 16384 % 512) (z / 8388608) (z / 16384 % 512 + 512 * (z / 8388608) - 131072)) ∧ Below w.heap.size w w' := by
  obtain ⟨x, rfl⟩ := Int.eq_ofNat_of_zero_le h1
  exact unpack_spec x w (by omega)
set_option maxHeartbeats 1000000 in
theorem toInstr_any (op a b c s : Int) (w : World) :
    Calls Tryd.prog 8 #[ins op a b c s] w fun e w' => e = .returned (ins op a b c s) ∧ Below w.heap.size w w' := by
  go_enter Tryd.func8, Tryd.ntmps8
  go_wp2
  exact bodyPost_ret (v := ins op a b c s) (by simp [results, Tryd.results8, go_sem]) rfl ⟨rfl, by go_grown⟩
theorem unpack_spec_pack (op a b c : Int) (w : World) (h1 : 0 ≤ op) (h2 : op ≤ 63) (h3 : 0 ≤ a) (h4 : a ≤ 255) (h5 : 0 ≤ b) (h6 : b ≤ 511) (h7 : 0 ≤ c) (h8 : c ≤ 511) :
    Calls Tryd.prog 10 #[.int .u32 (op + 64 * a + 16384 * b + 8388608 * c)] w fun e w' => e = .returned (ins op a b c (b + 512 * c - 131072)) ∧ Below w.heap.size w w' := by
  refine (unpack_spec_int (op + 64 * a + 16384 * b + 8388608 * c) w (by omega) (by omega)).mono ?_
  rintro e w1 ⟨rfl, b1⟩
  refine ⟨?_, b1⟩
  have e0 : (op + 64 * a + 16384 * b + 8388608 * c) % 64 = op := by omega
  have e1 : (op + 64 * a + 16384 * b + 8388608 * c) / 64 % 256 = a := by omega
  have e2 : (op + 64 * a + 16384 * b + 8388608 * c) / 16384 % 512 = b := by omega
  have e3 : (op + 64 * a + 16384 * b + 8388608 * c) / 8388608 = c := by omega
  rw [e0, e1, e2, e3]
set_option maxHeartbeats 1000000 in
theorem specPack_in (op a b c s : Int) (w : World) (h1 : 0 ≤ op) (h2 : op ≤ 63) (h3 : 0 ≤ a) (h4 : a ≤ 255) (h5 : 0 ≤ b) (h6 : b ≤ 511) (h7 : 0 ≤ c) (h8 : c ≤ 511) (hs : (b + 512 * c - 131072 == s) = true) :
    Calls Tryd.prog 7 #[ins op a b c s] w fun e w' => e = .returned (.int .u32 (op + 64 * a + 16384 * b + 8388608 * c)) ∧ Below w.heap.size w w' := by
  obtain rfl := beq_iff_eq.1 hs
  clear hs
  go_enter Tryd.func7, Tryd.ntmps7
  go_wp2_with fail
  go_region_with (go_at_call 10; refine (unpack_spec_pack op a b c _ h1 h2 h3 h4 h5 h6 h7 h8).mono ?_; rintro e w1 ⟨rfl, b1⟩; have k0 : w1.cell? ⟨w.heap.size, 0, none⟩ = some (.int .i64 op) := (by rw [(bcell b1).1 _ _ (by simp)]; simp [go_sem]); have k1 : w1.cell? ⟨w.heap.size, 1, none⟩ = some (.int .i64 a) := (by rw [(bcell b1).1 _ _ (by simp)]; simp [go_sem]); have k2 : w1.cell? ⟨w.heap.size, 2, none⟩ = some (.int .i64 b) := (by rw [(bcell b1).1 _ _ (by simp)]; simp [go_sem]); have k3 : w1.cell? ⟨w.heap.size, 3, none⟩ = some (.int .i64 c) := (by rw [(bcell b1).1 _ _ (by simp)]; simp [go_sem]); have k4 : w1.cell? ⟨w.heap.size, 4, none⟩ = some (.int .i64 (b + 512 * c - 131072)) := (by rw [(bcell b1).1 _ _ (by simp)]; simp [go_sem]))
  all_goals go_wp2
  all_goals go_ret
  all_goals exact ⟨rfl, by first | exact ((Below.refl _ _).alloc (Nat.le_refl _) _).drew.trans (b1.mono (by simp)) | go_grown⟩
set_option maxHeartbeats 1000000 in
theorem specPack_off (op a b c s : Int) (w : World) (h1 : 0 ≤ op) (h2 : op ≤ 63) (h3 : 0 ≤ a) (h4 : a ≤ 255) (h5 : 0 ≤ b) (h6 : b ≤ 511) (h7 : 0 ≤ c) (h8 : c ≤ 511) (hs : (b + 512 * c - 131072 == s) = false) :
    Calls Tryd.prog 7 #[ins op a b c s] w fun e w' => e = .returned (.int .u32 0) ∧ Below w.heap.size w w' := by
  go_enter Tryd.func7, Tryd.ntmps7
  go_wp2_with fail
  go_region_with (go_at_call 10; refine (unpack_spec_pack op a b c _ h1 h2 h3 h4 h5 h6 h7 h8).mono ?_; rintro e w1 ⟨rfl, b1⟩; have k0 : w1.cell? ⟨w.heap.size, 0, none⟩ = some (.int .i64 op) := (by rw [(bcell b1).1 _ _ (by simp)]; simp [go_sem]); have k1 : w1.cell? ⟨w.heap.size, 1, none⟩ = some (.int .i64 a) := (by rw [(bcell b1).1 _ _ (by simp)]; simp [go_sem]); have k2 : w1.cell? ⟨w.heap.size, 2, none⟩ = some (.int .i64 b) := (by rw [(bcell b1).1 _ _ (by simp)]; simp [go_sem]); have k3 : w1.cell? ⟨w.heap.size, 3, none⟩ = some (.int .i64 c) := (by rw [(bcell b1).1 _ _ (by simp)]; simp [go_sem]); have k4 : w1.cell? ⟨w.heap.size, 4, none⟩ = some (.int .i64 s) := (by rw [(bcell b1).1 _ _ (by simp)]; simp [go_sem]))
  all_goals go_wp2
  all_goals go_ret
  all_goals exact ⟨rfl, by first | exact ((Below.refl _ _).alloc (Nat.le_refl _) _).drew.trans (b1.mono (by simp)) | go_grown⟩
end Go.Proofs.YtndpbdpngniepaaDoor

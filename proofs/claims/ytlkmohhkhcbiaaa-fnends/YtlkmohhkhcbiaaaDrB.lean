import Derived.Test.YtlkmohhkhcbiaaaDrA
import Derived.Deep.RegionHeld3
namespace Go.Proofs.Ytlkmohhkhcbiaaa
open Go.RowKit
set_option linter.unusedVariables false
set_option linter.unusedSimpArgs false
abbrev ins (op a b c s : Int) : Value := .agg #[.int .i64 op, .int .i64 a, .int .i64 b, .int .i64 c, .int .i64 s]
set_option maxRecDepth 100000 in
set_option maxHeartbeats 1000000 in
theorem unpack_spec (x : Nat) (w : World) (h2 : x ≤ 4294967295) :
    Calls Try.prog 28 #[.int .u32 x] w fun e w' => e = .returned (.agg #[.int .i64 (x % 64), .int .i64 (x / 64 % 256), .int .i64 (x / 16384 % 512), .int .i64 (x / 8388608), .int .i64 (x / 16384 % 512 + 512 * (x / 8388608) - 131072)]) ∧ Below w.heap.size w w' := by
  go_enter Try.func28, Try.ntmps28
  go_wp2
  exact bodyPost_ret (v := .agg #[.int .i64 (x % 64), .int .i64 (x / 64 % 256), .int .i64 (x / 16384 % 512), .int .i64 (x / 8388608), .int .i64 (x / 16384 % 512 + 512 * (x / 8388608) - 131072)]) (by simp [results, Try.results28, go_sem]) rfl ⟨rfl, by go_grown⟩
theorem bcell {W w1 : World} (hb : Below W.heap.size W w1) : (∀ b o, b < W.heap.size → w1.cell? ⟨b, o, none⟩ = W.cell? ⟨b, o, none⟩) ∧ (∀ b o, b < W.heap.size → w1.frozen? ⟨b, o, none⟩ = W.frozen? ⟨b, o, none⟩) :=
  ⟨fun b o h => hb.cell (p := ⟨b, o, none⟩) h, fun b o h => hb.frozen (p := ⟨b, o, none⟩) h⟩
theorem unpack_spec_int (z : Int) (w : World) (h1 : 0 ≤ z) (h2 : z ≤ 4294967295) :
    Calls Try.prog 28 #[.int .u32 z] w fun e w' => e = .returned (ins (z % 64) (z / 64 % 256) (z / 16384 % 512) (z / 8388608) (z / 16384 % 512 + 512 * (z / 8388608) - 131072)) ∧ Below w.heap.size w w' := by
  obtain ⟨x, rfl⟩ := Int.eq_ofNat_of_zero_le h1
  exact unpack_spec x w (by omega)
theorem unpack_spec_pack (op a b c : Int) (w : World) (h1 : 0 ≤ op) (h2 : op ≤ 63) (h3 : 0 ≤ a) (h4 : a ≤ 255) (h5 : 0 ≤ b) (h6 : b ≤ 511) (h7 : 0 ≤ c) (h8 : c ≤ 511) :
    Calls Try.prog 28 #[.int .u32 (op + 64 * a + 16384 * b + 8388608 * c)] w fun e w' => e = .returned (ins op a b c (b + 512 * c - 131072)) ∧ Below w.heap.size w w' := by
  refine (unpack_spec_int (op + 64 * a + 16384 * b + 8388608 * c) w (by omega) (by omega)).mono ?_
  rintro e w1 ⟨rfl, b1⟩
  refine ⟨?_, b1⟩
  have e0 : (op + 64 * a + 16384 * b + 8388608 * c) % 64 = op := by omega
  have e1 : (op + 64 * a + 16384 * b + 8388608 * c) / 64 % 256 = a := by omega
  have e2 : (op + 64 * a + 16384 * b + 8388608 * c) / 16384 % 512 = b := by omega
  have e3 : (op + 64 * a + 16384 * b + 8388608 * c) / 8388608 = c := by omega
  rw [e0, e1, e2, e3]
set_option maxRecDepth 100000 in
set_option maxHeartbeats 1000000 in
theorem specPack_in (op a b c s : Int) (w : World) (h1 : 0 ≤ op) (h2 : op ≤ 63) (h3 : 0 ≤ a) (h4 : a ≤ 255) (h5 : 0 ≤ b) (h6 : b ≤ 511) (h7 : 0 ≤ c) (h8 : c ≤ 511) (hs : (b + 512 * c - 131072 == s) = true) :
    Calls Try.prog 16 #[ins op a b c s] w fun e w' => e = .returned (.int .u32 (op + 64 * a + 16384 * b + 8388608 * c)) ∧ Below w.heap.size w w' := by
  obtain rfl := beq_iff_eq.1 hs
  clear hs
  go_enter Try.func16, Try.ntmps16
  go_wp2_with fail
  go_region_with (go_at_call 28; refine (unpack_spec_pack op a b c _ h1 h2 h3 h4 h5 h6 h7 h8).mono ?_; rintro e w1 ⟨rfl, b1⟩; have k0 : w1.cell? ⟨w.heap.size, 0, none⟩ = some (.int .i64 op) := (by rw [(bcell b1).1 _ _ (by simp)]; simp [go_sem]); have k1 : w1.cell? ⟨w.heap.size, 1, none⟩ = some (.int .i64 a) := (by rw [(bcell b1).1 _ _ (by simp)]; simp [go_sem]); have k2 : w1.cell? ⟨w.heap.size, 2, none⟩ = some (.int .i64 b) := (by rw [(bcell b1).1 _ _ (by simp)]; simp [go_sem]); have k3 : w1.cell? ⟨w.heap.size, 3, none⟩ = some (.int .i64 c) := (by rw [(bcell b1).1 _ _ (by simp)]; simp [go_sem]); have k4 : w1.cell? ⟨w.heap.size, 4, none⟩ = some (.int .i64 (b + 512 * c - 131072)) := (by rw [(bcell b1).1 _ _ (by simp)]; simp [go_sem]))
  all_goals go_wp2
  all_goals go_ret
  all_goals exact ⟨rfl, by first | exact ((Below.refl _ _).alloc (Nat.le_refl _) _).drew.trans (b1.mono (by simp)) | go_grown⟩
/-- an instruction's word. -/
def pI (op a b c : Int) : Int := op + 64 * a + 16384 * b + 8388608 * c
set_option maxRecDepth 100000 in
set_option maxHeartbeats 1000000 in
theorem l4I_in (op a b c : Int) (w : World) (h1 : 0 ≤ op) (h2 : op ≤ 63) (h3 : 0 ≤ a) (h4 : a ≤ 255) (h5 : 0 ≤ b) (h6 : b ≤ 511) (h7 : 0 ≤ c) (h8 : c ≤ 511) :
    Calls Try.prog 25 #[.int .i64 op, .int .i64 a, .int .i64 b, .int .i64 c] w fun e w' => e = .returned (.int .u32 (pI op a b c)) ∧ Below w.heap.size w w' := by
  go_enter Try.func25, Try.ntmps25
  go_wp2_with fail
  refine (specPack_in op a b c (b + 512 * c - 131072) _ h1 h2 h3 h4 h5 h6 h7 h8 (by simp)).mono ?_
  rintro e w1 ⟨rfl, b1⟩
  go_wp2_with fail
  go_ret
  exact ⟨rfl, b1⟩
set_option maxRecDepth 100000 in
set_option maxHeartbeats 1000000 in
theorem specWide_in (op a s : Int) (w : World) (h1 : 0 ≤ op) (h2 : op ≤ 63) (h3 : 0 ≤ a) (h4 : a ≤ 255) (h5 : -131072 ≤ s) (h6 : s ≤ 131071) :
    Calls Try.prog 40 #[.int .i64 op, .int .i64 a, .int .i64 s] w fun e w' => e = .returned (ins op a ((s + 131072) % 512) ((s + 131072) / 512) s) ∧ Below w.heap.size w w' := by
  obtain ⟨k, hk⟩ : ∃ k : Nat, s + 131072 = (k : Int) := ⟨(s + 131072).toNat, by omega⟩
  obtain rfl : s = (k : Int) - 131072 := by omega
  have e1 : (k : Int) - 131072 + 131072 = k := by omega
  rw [e1]
  go_enter Try.func40, Try.ntmps40
  go_wp2_with fail
  exact bodyPost_ret (v := ins op a ((k : Int) % 512) ((k : Int) / 512) ((k : Int) - 131072)) (by simp [results, Try.results40, go_sem]) rfl ⟨rfl, by go_grown⟩
def pW (op a s : Int) : Int := pI op a ((s + 131072) % 512) ((s + 131072) / 512)
set_option maxRecDepth 100000 in
set_option maxHeartbeats 1000000 in
theorem l4W_in (op a s : Int) (w : World) (h1 : 0 ≤ op) (h2 : op ≤ 63) (h3 : 0 ≤ a) (h4 : a ≤ 255) (h5 : -131072 ≤ s) (h6 : s ≤ 131071) :
    Calls Try.prog 24 #[.int .i64 op, .int .i64 a, .int .i64 s] w fun e w' => e = .returned (.int .u32 (pW op a s)) ∧ Below w.heap.size w w' := by
  go_enter Try.func24, Try.ntmps24
  go_wp2_with fail
  refine (specWide_in op a s _ h1 h2 h3 h4 h5 h6).mono ?_
  rintro e w1 ⟨rfl, b1⟩
  go_wp2_with fail
  refine (specPack_in op a ((s + 131072) % 512) ((s + 131072) / 512) s _ h1 h2 h3 h4 (by omega) (by omega) (by omega) (by omega) (by simp; omega)).mono ?_
  rintro e w2 ⟨rfl, b2⟩
  have b3 := b1.trans (b2.mono b1.size)
  clear b1 b2
  go_wp2_with fail
  go_ret
  exact ⟨rfl, b3⟩
theorem pI_bd {op a b c : Int} (h1 : 0 ≤ op) (h2 : op ≤ 63) (h3 : 0 ≤ a) (h4 : a ≤ 255) (h5 : 0 ≤ b) (h6 : b ≤ 511) (h7 : 0 ≤ c) (h8 : c ≤ 511) : 0 ≤ pI op a b c ∧ pI op a b c ≤ 4294967295 := by unfold pI; omega
theorem pW_bd {op a s : Int} (h1 : 0 ≤ op) (h2 : op ≤ 63) (h3 : 0 ≤ a) (h4 : a ≤ 255) (h5 : -131072 ≤ s) (h6 : s ≤ 131071) : 0 ≤ pW op a s ∧ pW op a s ≤ 4294967295 := pI_bd h1 h2 h3 h4 (by omega) (by omega) (by omega) (by omega)
end Go.Proofs.Ytlkmohhkhcbiaaa

import Derived.Test.YtndpbdpngniepaaDoorPackB
namespace Go.Proofs.YtndpbdpngniepaaDoor
open Go.RowKit
set_option linter.unusedVariables false
set_option maxHeartbeats 2000000 in
theorem specPack_out0 (op a b c s : Int) (w : World)  (hn : op < 0 ∨ 63 < op) :
    Calls Tryd.prog 7 #[ins op a b c s] w fun e w' => e = .returned (.int .u32 0) ∧ Below w.heap.size w w' := by
  by_cases hz : op < 0
  · clear hn
    go_enter Tryd.func7, Tryd.ntmps7
    go_wp2_with fail
    go_ret
    exact ⟨rfl, by go_grown⟩
  · have hy : 63 < op := by omega
    clear hn
    go_enter Tryd.func7, Tryd.ntmps7
    go_wp2_with fail
    go_ret
    exact ⟨rfl, by go_grown⟩
set_option maxHeartbeats 2000000 in
theorem specPack_out1 (op a b c s : Int) (w : World) (h1 : 0 ≤ op) (h2 : op ≤ 63) (hn : a < 0 ∨ 255 < a) :
    Calls Tryd.prog 7 #[ins op a b c s] w fun e w' => e = .returned (.int .u32 0) ∧ Below w.heap.size w w' := by
  by_cases hz : a < 0
  · clear hn
    go_enter Tryd.func7, Tryd.ntmps7
    go_wp2_with fail
    go_ret
    exact ⟨rfl, by go_grown⟩
  · have hy : 255 < a := by omega
    clear hn
    go_enter Tryd.func7, Tryd.ntmps7
    go_wp2_with fail
    go_ret
    exact ⟨rfl, by go_grown⟩
set_option maxHeartbeats 2000000 in
theorem specPack_out2 (op a b c s : Int) (w : World) (h1 : 0 ≤ op) (h2 : op ≤ 63) (h3 : 0 ≤ a) (h4 : a ≤ 255) (hn : b < 0 ∨ 511 < b) :
    Calls Tryd.prog 7 #[ins op a b c s] w fun e w' => e = .returned (.int .u32 0) ∧ Below w.heap.size w w' := by
  by_cases hz : b < 0
  · clear hn
    go_enter Tryd.func7, Tryd.ntmps7
    go_wp2_with fail
    go_ret
    exact ⟨rfl, by go_grown⟩
  · have hy : 511 < b := by omega
    clear hn
    go_enter Tryd.func7, Tryd.ntmps7
    go_wp2_with fail
    go_ret
    exact ⟨rfl, by go_grown⟩
set_option maxHeartbeats 2000000 in
theorem specPack_out3 (op a b c s : Int) (w : World) (h1 : 0 ≤ op) (h2 : op ≤ 63) (h3 : 0 ≤ a) (h4 : a ≤ 255) (h5 : 0 ≤ b) (h6 : b ≤ 511) (hn : c < 0 ∨ 511 < c) :
    Calls Tryd.prog 7 #[ins op a b c s] w fun e w' => e = .returned (.int .u32 0) ∧ Below w.heap.size w w' := by
  by_cases hz : c < 0
  · clear hn
    go_enter Tryd.func7, Tryd.ntmps7
    go_wp2_with fail
    go_ret
    exact ⟨rfl, by go_grown⟩
  · have hy : 511 < c := by omega
    clear hn
    go_enter Tryd.func7, Tryd.ntmps7
    go_wp2_with fail
    go_ret
    exact ⟨rfl, by go_grown⟩
/-- What Pack answers: the word where the parts fit and S is what B and C say; else 0. -/
def packed (op a b c s : Int) : Int := if (0 ≤ op ∧ op ≤ 63) ∧ (0 ≤ a ∧ a ≤ 255) ∧ (0 ≤ b ∧ b ≤ 511) ∧ (0 ≤ c ∧ c ≤ 511) ∧ s = b + 512 * c - 131072 then op + 64 * a + 16384 * b + 8388608 * c else 0
theorem ret_int' {P : World → Prop} {a b : Int} (h : b = a) {f : Nat} {args : Array Value} {w : World} (hc : Calls Tryd.prog f args w fun e w' => e = .returned (.int .u32 a) ∧ P w') :
    Calls Tryd.prog f args w fun e w' => e = .returned (.int .u32 b) ∧ P w' := by rw [h]; exact hc
theorem specPack_any (op a b c s : Int) (w : World) : Calls Tryd.prog 7 #[ins op a b c s] w fun e w' => e = .returned (.int .u32 (packed op a b c s)) ∧ Below w.heap.size w w' := by
  by_cases k0 : 0 ≤ op ∧ op ≤ 63
  · by_cases k1 : 0 ≤ a ∧ a ≤ 255
    · by_cases k2 : 0 ≤ b ∧ b ≤ 511
      · by_cases k3 : 0 ≤ c ∧ c ≤ 511
        · by_cases k4 : s = b + 512 * c - 131072
          · exact ret_int' (by rw [packed, if_pos ⟨k0, k1, k2, k3, k4⟩]) (specPack_in op a b c s w k0.1 k0.2 k1.1 k1.2 k2.1 k2.2 k3.1 k3.2 (by simp; omega))
          · exact ret_int' (by rw [packed, if_neg (fun h => k4 h.2.2.2.2)]) (specPack_off op a b c s w k0.1 k0.2 k1.1 k1.2 k2.1 k2.2 k3.1 k3.2 (by simp; omega))
        · exact ret_int' (by rw [packed, if_neg (fun h => k3 h.2.2.2.1)]) (specPack_out3 op a b c s w k0.1 k0.2 k1.1 k1.2 k2.1 k2.2 (by omega))
      · exact ret_int' (by rw [packed, if_neg (fun h => k2 h.2.2.1)]) (specPack_out2 op a b c s w k0.1 k0.2 k1.1 k1.2 (by omega))
    · exact ret_int' (by rw [packed, if_neg (fun h => k1 h.2.1)]) (specPack_out1 op a b c s w k0.1 k0.2 (by omega))
  · exact ret_int' (by rw [packed, if_neg (fun h => k0 h.1)]) (specPack_out0 op a b c s w (by omega))
theorem implPack_any (op a b c s : Int) (w : World) (hS : Spans w) : Calls Tryd.prog 9 #[ins op a b c s] w fun e w' => e = .returned (.int .u32 (packed op a b c s)) ∧ Below w.heap.size w w' := by
  by_cases k0 : 0 ≤ op ∧ op ≤ 63
  · by_cases k1 : 0 ≤ a ∧ a ≤ 255
    · by_cases k2 : 0 ≤ b ∧ b ≤ 511
      · by_cases k3 : 0 ≤ c ∧ c ≤ 511
        · by_cases k4 : s = b + 512 * c - 131072
          · exact ret_int' (by rw [packed, if_pos ⟨k0, k1, k2, k3, k4⟩]) (implPack_in op a b c s w hS k0.1 k0.2 k1.1 k1.2 k2.1 k2.2 k3.1 k3.2 (by simp; omega))
          · exact ret_int' (by rw [packed, if_neg (fun h => k4 h.2.2.2.2)]) (implPack_off op a b c s w hS k0.1 k0.2 k1.1 k1.2 k2.1 k2.2 k3.1 k3.2 (by simp; omega))
        · exact ret_int' (by rw [packed, if_neg (fun h => k3 h.2.2.2.1)]) (implPack_out3 op a b c s w hS k0.1 k0.2 k1.1 k1.2 k2.1 k2.2 (by omega))
      · exact ret_int' (by rw [packed, if_neg (fun h => k2 h.2.2.1)]) (implPack_out2 op a b c s w hS k0.1 k0.2 k1.1 k1.2 (by omega))
    · exact ret_int' (by rw [packed, if_neg (fun h => k1 h.2.1)]) (implPack_out1 op a b c s w hS k0.1 k0.2 (by omega))
  · exact ret_int' (by rw [packed, if_neg (fun h => k0 h.1)]) (implPack_out0 op a b c s w hS (by omega))
set_option maxHeartbeats 1000000 in
theorem pack_law (op a b c s : Int) (w : World) (hS : Spans w) :
    Calls Tryd.prog 3 #[ins op a b c s] w fun e w' => e = .returned (.bool true) ∧ Below w.heap.size w w' := by
  go_enter Tryd.func3, Tryd.ntmps3
  go_wp2_with fail
  have B0 : Below w.heap.size w (w.alloc (Obj.cells #[Value.int IntKind.i64 op, Value.int IntKind.i64 a, Value.int IntKind.i64 b, Value.int IntKind.i64 c, Value.int IntKind.i64 s] 23)) := (Below.refl _ _).alloc (Nat.le_refl _) _
  refine (toInstr_any _ _ _ _ _ _).mono ?_
  rintro e w1 ⟨rfl, b1⟩
  go_wp2_with fail
  refine (specPack_any _ _ _ _ _ _).mono ?_
  rintro e w2 ⟨rfl, b2⟩
  have b12 := b1.trans (b2.mono b1.size)
  have B2 := B0.trans (b12.mono (by simp))
  have k0 : w2.cell? ⟨w.heap.size, 0, none⟩ = some (.int .i64 op) := by rw [(bcell b12).1 _ _ (by simp)]; simp [go_sem]
  have k1 : w2.cell? ⟨w.heap.size, 1, none⟩ = some (.int .i64 a) := by rw [(bcell b12).1 _ _ (by simp)]; simp [go_sem]
  have k2 : w2.cell? ⟨w.heap.size, 2, none⟩ = some (.int .i64 b) := by rw [(bcell b12).1 _ _ (by simp)]; simp [go_sem]
  have k3 : w2.cell? ⟨w.heap.size, 3, none⟩ = some (.int .i64 c) := by rw [(bcell b12).1 _ _ (by simp)]; simp [go_sem]
  have k4 : w2.cell? ⟨w.heap.size, 4, none⟩ = some (.int .i64 s) := by rw [(bcell b12).1 _ _ (by simp)]; simp [go_sem]
  clear b12
  go_wp2_with fail
  refine (toInstr_any _ _ _ _ _ _).mono ?_
  rintro e w3 ⟨rfl, b3⟩
  have B3 := B2.trans (b3.mono B2.size)
  go_wp2_with fail
  refine (implPack_any _ _ _ _ _ _ (hS.below B3)).mono ?_
  rintro e w4 ⟨rfl, b4⟩
  have B4 := B3.trans (b4.mono B3.size)
  generalize packed op a b c s = x at *
  go_wp2_with fail
  go_ret
  exact ⟨rfl, B4⟩
end Go.Proofs.YtndpbdpngniepaaDoor

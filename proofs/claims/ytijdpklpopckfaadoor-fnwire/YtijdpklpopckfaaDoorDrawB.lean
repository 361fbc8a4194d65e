import Derived.Test.YtijdpklpopckfaaDoorDrawA
import Derived.Test.YtijdpklpopckfaaDoorPackA
namespace Go.Proofs.YtijdpklpopckfaaDoor.WDraw
open Go.RowKit WPack
set_option linter.unusedVariables false
set_option maxHeartbeats 1000000 in
theorem drawPutVarint (a : Option Addr) (len cap : Nat) (zs : List Int) (w : World) (hR : IsRow w a len cap zs) (hl : len ≤ 1048576) :
    Calls Tryd.prog 5 #[.slice a len cap] w fun e w' => (∃ x : Int, e = .returned (.int .i64 x)) ∧ w' = w := by
  go_enter Tryd.func5, Tryd.ntmps5
  go_wp2_with fail
  refine (l1Take_int a len cap zs 0 10 _ hR (by omega) (by omega) hl (by omega) (by omega)).mono ?_
  rintro e w' ⟨⟨x0, h00, h01, rfl⟩, rfl⟩
  go_wp2_with fail
  refine (l1Take_int a len cap zs 1 256 _ hR (by omega) (by omega) hl (by omega) (by omega)).mono ?_
  rintro e w' ⟨⟨x1, h10, h11, rfl⟩, rfl⟩
  go_wp2_with fail
  refine (l1Take_int a len cap zs 2 256 _ hR (by omega) (by omega) hl (by omega) (by omega)).mono ?_
  rintro e w' ⟨⟨x2, h20, h21, rfl⟩, rfl⟩
  go_wp2_with fail
  all_goals go_ret
  all_goals exact ⟨⟨_, rfl⟩, rfl⟩
theorem w64_bd (z : Int) : -9223372036854775808 ≤ wrap64 z ∧ wrap64 z ≤ 9223372036854775807 := by
  unfold wrap64; omega
set_option maxHeartbeats 1000000 in
theorem drawPutInt (a : Option Addr) (len cap : Nat) (zs : List Int) (w : World) (hR : IsRow w a len cap zs) (hl : len ≤ 1048576) :
    Calls Tryd.prog 6 #[.slice a len cap] w fun e w' => (∃ x : Int, -9223372036854775808 ≤ x ∧ x ≤ 9223372036854775807 ∧ e = .returned (.int .i64 x)) ∧ w' = w := by
  have HW := w64_bd
  have HWH : Hid (∀ z, -9223372036854775808 ≤ wrap64 z ∧ wrap64 z ≤ 9223372036854775807) := HW
  clear HW
  go_enter Tryd.func6, Tryd.ntmps6
  go_wp2_with fail
  refine (l1Take_int a len cap zs 0 9 _ hR (by omega) (by omega) hl (by omega) (by omega)).mono ?_
  rintro e w' ⟨⟨k, h00, h01, rfl⟩, rfl⟩
  go_wp2_with fail
  go_loop [3, 5, 6] (fun u p i => ∃ (m : Int) (j : Nat), (j : Int) ≤ k ∧ i = .int .i64 j ∧ p = .int .i64 (1 + j) ∧ -9223372036854775808 ≤ m ∧ m ≤ 9223372036854775807 ∧ u = .int .i64 m) (fun _ _ i => (k - intOf i).toNat)
  case atStart => exact ⟨0, 0, by omega, rfl, rfl, by omega, by omega, rfl⟩
  case round =>
    obtain ⟨m, j, hj, rfl, rfl, hm0, hm1, rfl⟩ := hrel
    by_cases hlt : (j : Int) < k
    · go_wp2_with fail
      refine (l1Take_int a len cap zs (1 + j) 256 _ hR (by omega) (by omega) hl (by omega) (by omega)).mono ?_
      rintro e w' ⟨⟨x1, h10, h11, rfl⟩, rfl⟩
      go_wp2_with fail
      go_round
      case rel => exact ⟨_, j + 1, by omega, by go_num, by go_num, (HWH.out _).1, (HWH.out _).2, rfl⟩
      case measure => simp [intOf]; omega
    · go_wp2_with fail
      refine (l1Take_int a len cap zs (1 + j) 8 _ hR (by omega) (by omega) hl (by omega) (by omega)).mono ?_
      rintro e w' ⟨⟨x1, h10, h11, rfl⟩, rfl⟩
      go_wp2_with fail
      all_goals go_ret
      all_goals first | exact ⟨⟨_, hm0, hm1, rfl⟩, rfl⟩ | exact ⟨⟨_, (HWH.out _).1, (HWH.out _).2, rfl⟩, rfl⟩ | exact ⟨⟨-9223372036854775808, by omega, by omega, rfl⟩, rfl⟩
set_option maxHeartbeats 1000000 in
theorem drawUnpack (a : Option Addr) (len cap : Nat) (zs : List Int) (w : World) (hR : IsRow w a len cap zs) (hl : len ≤ 1048576) :
    Calls Tryd.prog 14 #[.slice a len cap] w fun e w' => (∃ x : Int, 0 ≤ x ∧ x ≤ 4294967295 ∧ e = .returned (.int .u32 x)) ∧ w' = w := by
  go_enter Tryd.func14, Tryd.ntmps14
  go_wp2_with fail
  go_loop [3, 4, 5] (fun u p i => ∃ (m : Int) (j : Nat), j ≤ 4 ∧ i = .int .i64 j ∧ p = .int .i64 j ∧ 0 ≤ m ∧ m ≤ 4294967295 ∧ u = .int .u32 m) (fun _ _ i => (4 - intOf i).toNat)
  case atStart => exact ⟨0, 0, by omega, rfl, rfl, by omega, by omega, rfl⟩
  case round =>
    obtain ⟨m, j, hj, rfl, rfl, hm0, hm1, rfl⟩ := hrel
    by_cases hlt : j < 4
    · go_wp2_with fail
      refine (l1Take_int a len cap zs j 256 _ hR (by omega) (by omega) hl (by omega) (by omega)).mono ?_
      rintro e w' ⟨⟨x1, h10, h11, rfl⟩, rfl⟩
      go_wp2_with fail
      go_round
      case rel => exact ⟨m * 256 % 4294967296 + x1, j + 1, by omega, by go_num, by go_num, by omega, by omega, rfl⟩
      case measure => simp [intOf]; omega
    · go_wp2_with fail
      go_ret
      exact ⟨⟨m, hm0, hm1, rfl⟩, rfl⟩
set_option maxHeartbeats 1000000 in
theorem drawInstr (a : Option Addr) (len cap : Nat) (zs : List Int) (w : World) (hR : IsRow w a len cap zs) (hl : len ≤ 1048576) :
    Calls Tryd.prog 30 #[.slice a len cap, .int .i64 0] w fun e w' => (∃ o q b c s : Int, e = .returned (.tuple #[ins o q b c s, .int .i64 4])) ∧ Below w.heap.size w w' := by
  have B0 : Below w.heap.size w (w.alloc (Obj.cells #[Value.int IntKind.i64 0, Value.int IntKind.i64 0, Value.int IntKind.i64 0, Value.int IntKind.i64 0, Value.int IntKind.i64 0] 35)) := (Below.refl _ _).alloc (Nat.le_refl _) _
  have hR' := hR.below B0
  go_enter Tryd.func30, Tryd.ntmps30
  go_wp2_with fail
  refine (l1Take_int a len cap zs 0 40 _ hR' (by omega) (by omega) hl (by omega) (by omega)).mono ?_
  rintro e w' ⟨⟨x0, h00, h01, rfl⟩, rfl⟩
  go_wp2_with fail
  refine (l1Take_int a len cap zs 1 256 _ hR' (by omega) (by omega) hl (by omega) (by omega)).mono ?_
  rintro e w' ⟨⟨x1, h10, h11, rfl⟩, rfl⟩
  go_wp2_with fail
  refine (l1Take_int a len cap zs 2 256 _ hR' (by omega) (by omega) hl (by omega) (by omega)).mono ?_
  rintro e w' ⟨⟨x2, h20, h21, rfl⟩, rfl⟩
  go_wp2_with fail
  refine (l1Take_int a len cap zs 3 256 _ hR' (by omega) (by omega) hl (by omega) (by omega)).mono ?_
  rintro e w' ⟨⟨x3, h30, h31, rfl⟩, rfl⟩
  go_wp2_with fail
  refine (unpack_spec_pack x0 x1 (x2 * 2 % 512) (x3 * 3 % 512) _ (by omega) (by omega) (by omega) (by omega) (by omega) (by omega) (by omega) (by omega)).mono ?_
  rintro e w1 ⟨rfl, b1⟩
  have k0 : w1.cell? ⟨w.heap.size, 0, none⟩ = some (.int .i64 0) := by rw [(bcell b1).1 _ _ (by simp)]; simp [go_sem]
  have f0 : w1.frozen? ⟨w.heap.size, 0, none⟩ = false := by rw [(bcell b1).2 _ _ (by simp)]; simp [go_sem]
  have k1 : w1.cell? ⟨w.heap.size, 1, none⟩ = some (.int .i64 0) := by rw [(bcell b1).1 _ _ (by simp)]; simp [go_sem]
  have f1 : w1.frozen? ⟨w.heap.size, 1, none⟩ = false := by rw [(bcell b1).2 _ _ (by simp)]; simp [go_sem]
  have k2 : w1.cell? ⟨w.heap.size, 2, none⟩ = some (.int .i64 0) := by rw [(bcell b1).1 _ _ (by simp)]; simp [go_sem]
  have f2 : w1.frozen? ⟨w.heap.size, 2, none⟩ = false := by rw [(bcell b1).2 _ _ (by simp)]; simp [go_sem]
  have k3 : w1.cell? ⟨w.heap.size, 3, none⟩ = some (.int .i64 0) := by rw [(bcell b1).1 _ _ (by simp)]; simp [go_sem]
  have f3 : w1.frozen? ⟨w.heap.size, 3, none⟩ = false := by rw [(bcell b1).2 _ _ (by simp)]; simp [go_sem]
  have k4 : w1.cell? ⟨w.heap.size, 4, none⟩ = some (.int .i64 0) := by rw [(bcell b1).1 _ _ (by simp)]; simp [go_sem]
  have f4 : w1.frozen? ⟨w.heap.size, 4, none⟩ = false := by rw [(bcell b1).2 _ _ (by simp)]; simp [go_sem]
  have B1 := B0.trans (b1.mono (by simp))
  clear hR hR'
  go_wp2_with fail
  exact bodyPost_ret (v := .tuple #[ins x0 x1 (x2 * 2 % 512) (x3 * 3 % 512) (x2 * 2 % 512 + 512 * (x3 * 3 % 512) - 131072), .int .i64 4]) (by simp [results, Tryd.results30, go_sem, k0, k1, k2, k3, k4]) rfl
    ⟨⟨_, _, _, _, _, rfl⟩, ((((B1.setCell (Nat.le_refl _) _).setCell (Nat.le_refl _) _).setCell (Nat.le_refl _) _).setCell (Nat.le_refl _) _).setCell (Nat.le_refl _) _⟩
end Go.Proofs.YtijdpklpopckfaaDoor.WDraw

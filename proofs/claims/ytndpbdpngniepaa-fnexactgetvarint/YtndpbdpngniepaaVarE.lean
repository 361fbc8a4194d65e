import Derived.Test.YtndpbdpngniepaaVarC
import Derived.Test.YtndpbdpngniepaaVarD
import Derived.OpenShut
namespace Go.Proofs.Ytndpbdpngniepaa
open Go.RowKit
set_option linter.unusedVariables false
def Both (s : ByteArray) (a : Nat) : Prop := ∃ (x y : Int) (t : Bool),
  (∀ w, Calls Try.prog 12 #[.string s, .int .i64 a] w fun e w' => e = .returned (.tuple #[.int .i64 x, .int .i64 y, .bool t]) ∧ Below w.heap.size w w') ∧
  (∀ w, Calls Try.prog 13 #[.string s, .int .i64 a] w fun e w' => e = .returned (.tuple #[.int .i64 x, .int .i64 y, .bool t]) ∧ Below w.heap.size w w')
set_option maxRecDepth 100000 in
theorem both_S0 (s r : ByteArray) (a : Nat) (hs : s.size ≤ 1048576) (ha : a ≤ s.size) (hr : s.extract a s.size = r) (h : 0 < r.size) (h' : a + 0 < s.size) (q0 : r[0] = s[a])  (gk : (r[0].toNat : Int) < 128) : Both s a := by
  have l0 : (r[0].toNat : Int) ≤ 255 := by have := r[0].toNat_lt; omega
  have ag := agreeB r 1 [r[0]] ((r[0].toNat : Int) % 128) (head1 r h) rfl ⟨Int.natCast_nonneg _, gk⟩ (by omega) (by simp only [List.map_cons, List.map_nil, dec]; omega)
  cases hz : (((pv ((r[0].toNat : Int) % 128)).size : Int) == 1) with
  | true =>
    have he := ag.trans hz
    refine ⟨((r[0].toNat : Int) % 128), a + 1, true, fun w => spec_S0t s a w ((r[0].toNat : Int) % 128) hs h'  (by rw [← q0]; exact gk) (by rw [← q0]; exact rfl) hz, fun w => ?_⟩
    by_cases h4 : (r.size : Int) < 4
    · exact impl_S0ta s r a w _ hs ha hr h  gk h4 rfl he
    · exact impl_S0tb s r a w _ hs ha hr h  gk h4 rfl he
  | false =>
    have he := ag.trans hz
    refine ⟨0, 0, false, fun w => spec_S0f s a w ((r[0].toNat : Int) % 128) hs h'  (by rw [← q0]; exact gk) (by rw [← q0]; exact rfl) hz, fun w => ?_⟩
    by_cases h4 : (r.size : Int) < 4
    · exact impl_S0fa s r a w _ hs ha hr h  gk h4 rfl he
    · exact impl_S0fb s r a w _ hs ha hr h  gk h4 rfl he
set_option maxRecDepth 100000 in
theorem both_S1 (s r : ByteArray) (a : Nat) (hs : s.size ≤ 1048576) (ha : a ≤ s.size) (hr : s.extract a s.size = r) (h : 1 < r.size) (h' : a + 1 < s.size) (q0 : r[0] = s[a]) (q1 : r[1] = s[a + 1]) (g0 : 128 ≤ (r[0].toNat : Int)) (gk : (r[1].toNat : Int) < 128) : Both s a := by
  have l0 : (r[0].toNat : Int) ≤ 255 := by have := r[0].toNat_lt; omega
  have l1 : (r[1].toNat : Int) ≤ 255 := by have := r[1].toNat_lt; omega
  have ag := agreeB r 2 [r[0], r[1]] ((r[0].toNat : Int) % 128 + (r[1].toNat : Int) % 128 * 128) (head2 r h) rfl ⟨g0, l0, Int.natCast_nonneg _, gk⟩ (by omega) (by simp only [List.map_cons, List.map_nil, dec]; omega)
  cases hz : (((pv ((r[0].toNat : Int) % 128 + (r[1].toNat : Int) % 128 * 128)).size : Int) == 2) with
  | true =>
    have he := ag.trans hz
    refine ⟨((r[0].toNat : Int) % 128 + (r[1].toNat : Int) % 128 * 128), a + 2, true, fun w => spec_S1t s a w ((r[0].toNat : Int) % 128 + (r[1].toNat : Int) % 128 * 128) hs h' (by rw [← q0]; exact g0) (by rw [← q1]; exact gk) (by rw [← q0, ← q1]; exact rfl) hz, fun w => ?_⟩
    by_cases h4 : (r.size : Int) < 4
    · exact impl_S1ta s r a w _ hs ha hr h g0 gk h4 rfl he
    · exact impl_S1tb s r a w _ hs ha hr h g0 gk h4 rfl he
  | false =>
    have he := ag.trans hz
    refine ⟨0, 0, false, fun w => spec_S1f s a w ((r[0].toNat : Int) % 128 + (r[1].toNat : Int) % 128 * 128) hs h' (by rw [← q0]; exact g0) (by rw [← q1]; exact gk) (by rw [← q0, ← q1]; exact rfl) hz, fun w => ?_⟩
    by_cases h4 : (r.size : Int) < 4
    · exact impl_S1fa s r a w _ hs ha hr h g0 gk h4 rfl he
    · exact impl_S1fb s r a w _ hs ha hr h g0 gk h4 rfl he
set_option maxRecDepth 100000 in
theorem both_S2 (s r : ByteArray) (a : Nat) (hs : s.size ≤ 1048576) (ha : a ≤ s.size) (hr : s.extract a s.size = r) (h : 2 < r.size) (h' : a + 2 < s.size) (q0 : r[0] = s[a]) (q1 : r[1] = s[a + 1]) (q2 : r[2] = s[a + 2]) (g0 : 128 ≤ (r[0].toNat : Int)) (g1 : 128 ≤ (r[1].toNat : Int)) (gk : (r[2].toNat : Int) < 128) : Both s a := by
  have l0 : (r[0].toNat : Int) ≤ 255 := by have := r[0].toNat_lt; omega
  have l1 : (r[1].toNat : Int) ≤ 255 := by have := r[1].toNat_lt; omega
  have l2 : (r[2].toNat : Int) ≤ 255 := by have := r[2].toNat_lt; omega
  have ag := agreeB r 3 [r[0], r[1], r[2]] ((r[0].toNat : Int) % 128 + (r[1].toNat : Int) % 128 * 128 + (r[2].toNat : Int) % 128 * 16384) (head3 r h) rfl ⟨g0, l0, g1, l1, Int.natCast_nonneg _, gk⟩ (by omega) (by simp only [List.map_cons, List.map_nil, dec]; omega)
  cases hz : (((pv ((r[0].toNat : Int) % 128 + (r[1].toNat : Int) % 128 * 128 + (r[2].toNat : Int) % 128 * 16384)).size : Int) == 3) with
  | true =>
    have he := ag.trans hz
    refine ⟨((r[0].toNat : Int) % 128 + (r[1].toNat : Int) % 128 * 128 + (r[2].toNat : Int) % 128 * 16384), a + 3, true, fun w => spec_S2t s a w ((r[0].toNat : Int) % 128 + (r[1].toNat : Int) % 128 * 128 + (r[2].toNat : Int) % 128 * 16384) hs h' (by rw [← q0]; exact g0) (by rw [← q1]; exact g1) (by rw [← q2]; exact gk) (by rw [← q0, ← q1, ← q2]; exact rfl) hz, fun w => ?_⟩
    by_cases h4 : (r.size : Int) < 4
    · exact impl_S2ta s r a w _ hs ha hr h g0 g1 gk h4 rfl he
    · exact impl_S2tb s r a w _ hs ha hr h g0 g1 gk h4 rfl he
  | false =>
    have he := ag.trans hz
    refine ⟨0, 0, false, fun w => spec_S2f s a w ((r[0].toNat : Int) % 128 + (r[1].toNat : Int) % 128 * 128 + (r[2].toNat : Int) % 128 * 16384) hs h' (by rw [← q0]; exact g0) (by rw [← q1]; exact g1) (by rw [← q2]; exact gk) (by rw [← q0, ← q1, ← q2]; exact rfl) hz, fun w => ?_⟩
    by_cases h4 : (r.size : Int) < 4
    · exact impl_S2fa s r a w _ hs ha hr h g0 g1 gk h4 rfl he
    · exact impl_S2fb s r a w _ hs ha hr h g0 g1 gk h4 rfl he
set_option maxRecDepth 100000 in
theorem both_S3 (s r : ByteArray) (a : Nat) (hs : s.size ≤ 1048576) (ha : a ≤ s.size) (hr : s.extract a s.size = r) (h : 3 < r.size) (h' : a + 3 < s.size) (q0 : r[0] = s[a]) (q1 : r[1] = s[a + 1]) (q2 : r[2] = s[a + 2]) (q3 : r[3] = s[a + 3]) (g0 : 128 ≤ (r[0].toNat : Int)) (g1 : 128 ≤ (r[1].toNat : Int)) (g2 : 128 ≤ (r[2].toNat : Int)) (gk : (r[3].toNat : Int) < 128) : Both s a := by
  have l0 : (r[0].toNat : Int) ≤ 255 := by have := r[0].toNat_lt; omega
  have l1 : (r[1].toNat : Int) ≤ 255 := by have := r[1].toNat_lt; omega
  have l2 : (r[2].toNat : Int) ≤ 255 := by have := r[2].toNat_lt; omega
  have l3 : (r[3].toNat : Int) ≤ 255 := by have := r[3].toNat_lt; omega
  have ag := agreeB r 4 [r[0], r[1], r[2], r[3]] ((r[0].toNat : Int) % 128 + (r[1].toNat : Int) % 128 * 128 + (r[2].toNat : Int) % 128 * 16384 + (r[3].toNat : Int) % 128 * 2097152) (head4 r h) rfl ⟨g0, l0, g1, l1, g2, l2, Int.natCast_nonneg _, gk⟩ (by omega) (by simp only [List.map_cons, List.map_nil, dec]; omega)
  cases hz : (((pv ((r[0].toNat : Int) % 128 + (r[1].toNat : Int) % 128 * 128 + (r[2].toNat : Int) % 128 * 16384 + (r[3].toNat : Int) % 128 * 2097152)).size : Int) == 4) with
  | true =>
    have he := ag.trans hz
    refine ⟨((r[0].toNat : Int) % 128 + (r[1].toNat : Int) % 128 * 128 + (r[2].toNat : Int) % 128 * 16384 + (r[3].toNat : Int) % 128 * 2097152), a + 4, true, fun w => spec_S3t s a w ((r[0].toNat : Int) % 128 + (r[1].toNat : Int) % 128 * 128 + (r[2].toNat : Int) % 128 * 16384 + (r[3].toNat : Int) % 128 * 2097152) hs h' (by rw [← q0]; exact g0) (by rw [← q1]; exact g1) (by rw [← q2]; exact g2) (by rw [← q3]; exact gk) (by rw [← q0, ← q1, ← q2, ← q3]; exact rfl) hz, fun w => ?_⟩
    have h4 : ¬ (r.size : Int) < 4 := by omega
    exact impl_S3tb s r a w _ hs ha hr h g0 g1 g2 gk h4 rfl he
  | false =>
    have he := ag.trans hz
    refine ⟨0, 0, false, fun w => spec_S3f s a w ((r[0].toNat : Int) % 128 + (r[1].toNat : Int) % 128 * 128 + (r[2].toNat : Int) % 128 * 16384 + (r[3].toNat : Int) % 128 * 2097152) hs h' (by rw [← q0]; exact g0) (by rw [← q1]; exact g1) (by rw [← q2]; exact g2) (by rw [← q3]; exact gk) (by rw [← q0, ← q1, ← q2, ← q3]; exact rfl) hz, fun w => ?_⟩
    have h4 : ¬ (r.size : Int) < 4 := by omega
    exact impl_S3fb s r a w _ hs ha hr h g0 g1 g2 gk h4 rfl he
set_option maxRecDepth 100000 in
theorem both_any (s : ByteArray) (a : Nat) (hs : s.size ≤ 1048576) (ha : a ≤ s.size) : Both s a := by
  obtain ⟨r, hr⟩ : ∃ r, s.extract a s.size = r := ⟨_, rfl⟩
  have hz : r.size = s.size - a := by rw [← hr]; exact rest_size s a
  by_cases z0 : r.size ≤ 0
  · exact ⟨0, 0, false, fun w => spec_E0 s a w hs (by omega) ha, fun w => impl_E0 s r a w hs ha hr z0 (by omega)⟩
  have q0 : r[0] = s[a] := by subst hr; exact rest_get s a 0 (by omega) (by omega)
  by_cases y0 : (r[0].toNat : Int) < 128
  · exact both_S0 s r a hs ha hr (by omega) (by omega) q0  y0
  have g0 : 128 ≤ (r[0].toNat : Int) := by omega
  by_cases z1 : r.size ≤ 1
  · exact ⟨0, 0, false, fun w => spec_E1 s a w hs (by omega) (by rw [← q0]; exact g0) (by omega), fun w => impl_E1 s r a w hs ha hr z1 (by omega) g0 (by omega)⟩
  have q1 : r[1] = s[a + 1] := by subst hr; exact rest_get s a 1 (by omega) (by omega)
  by_cases y1 : (r[1].toNat : Int) < 128
  · exact both_S1 s r a hs ha hr (by omega) (by omega) q0 q1 g0 y1
  have g1 : 128 ≤ (r[1].toNat : Int) := by omega
  by_cases z2 : r.size ≤ 2
  · exact ⟨0, 0, false, fun w => spec_E2 s a w hs (by omega) (by rw [← q0]; exact g0) (by rw [← q1]; exact g1) (by omega), fun w => impl_E2 s r a w hs ha hr z2 (by omega) g0 g1 (by omega)⟩
  have q2 : r[2] = s[a + 2] := by subst hr; exact rest_get s a 2 (by omega) (by omega)
  by_cases y2 : (r[2].toNat : Int) < 128
  · exact both_S2 s r a hs ha hr (by omega) (by omega) q0 q1 q2 g0 g1 y2
  have g2 : 128 ≤ (r[2].toNat : Int) := by omega
  by_cases z3 : r.size ≤ 3
  · exact ⟨0, 0, false, fun w => spec_E3 s a w hs (by omega) (by rw [← q0]; exact g0) (by rw [← q1]; exact g1) (by rw [← q2]; exact g2) (by omega), fun w => impl_E3 s r a w hs ha hr z3 (by omega) g0 g1 g2 (by omega)⟩
  have q3 : r[3] = s[a + 3] := by subst hr; exact rest_get s a 3 (by omega) (by omega)
  by_cases y3 : (r[3].toNat : Int) < 128
  · exact both_S3 s r a hs ha hr (by omega) (by omega) q0 q1 q2 q3 g0 g1 g2 y3
  have g3 : 128 ≤ (r[3].toNat : Int) := by omega
  exact ⟨0, 0, false, fun w => spec_E4 s a w hs (by omega) (by rw [← q0]; exact g0) (by rw [← q1]; exact g1) (by rw [← q2]; exact g2) (by rw [← q3]; exact g3), fun w => impl_E4 s r a w hs ha hr (by omega) g0 g1 g2 g3 (by omega)⟩
set_option maxRecDepth 100000 in
set_option maxHeartbeats 400000 in
theorem spec_neg (s : ByteArray) (z : Int) (w : World) (hs : s.size ≤ 1048576) (h : z < 0 ∨ (s.size : Int) < z) :
    Calls Try.prog 12 #[.string s, .int .i64 z] w fun e w' => e = .returned (.tuple #[.int .i64 0, .int .i64 0, .bool false]) ∧ Below w.heap.size w w' := by
  by_cases h1 : z < 0
  · clear h
    go_enter Try.func12, Try.ntmps12
    go_wp2_with fail
    go_ret3
    exact ⟨rfl, Below.refl _ _⟩
  · have h2 : (s.size : Int) < z := by omega
    clear h
    go_enter Try.func12, Try.ntmps12
    go_wp2_with fail
    go_ret3
    exact ⟨rfl, Below.refl _ _⟩
set_option maxRecDepth 100000 in
set_option maxHeartbeats 400000 in
theorem impl_neg (s : ByteArray) (z : Int) (w : World) (hs : s.size ≤ 1048576) (h : z < 0 ∨ (s.size : Int) < z) :
    Calls Try.prog 13 #[.string s, .int .i64 z] w fun e w' => e = .returned (.tuple #[.int .i64 0, .int .i64 0, .bool false]) ∧ Below w.heap.size w w' := by
  by_cases h1 : z < 0
  · clear h
    go_enter Try.func13, Try.ntmps13
    go_wp2_with fail
    go_ret3
    exact ⟨rfl, Below.refl _ _⟩
  · have h2 : (s.size : Int) < z := by omega
    clear h
    go_enter Try.func13, Try.ntmps13
    go_wp2_with fail
    go_ret3
    exact ⟨rfl, Below.refl _ _⟩
set_option maxRecDepth 100000 in
set_option maxHeartbeats 400000 in
theorem getVarint_law (s : ByteArray) (z : Int) (hl : s.size ≤ maxLen) (w : World) :
    Calls Try.prog 4 #[.string s, .int .i64 z] w fun e w' => e = .returned (.bool true) ∧ Below w.heap.size w w' := by
  unfold maxLen at hl
  by_cases h1 : 1048576 < s.size
  · go_enter Try.func4, Try.ntmps4
    go_wp2_with fail
    go_ret
    exact ⟨rfl, Below.refl _ _⟩
  · obtain ⟨x, y, t, c1, c2⟩ : ∃ (x y : Int) (t : Bool), (∀ w, Calls Try.prog 12 #[.string s, .int .i64 z] w fun e w' => e = .returned (.tuple #[.int .i64 x, .int .i64 y, .bool t]) ∧ Below w.heap.size w w') ∧
        (∀ w, Calls Try.prog 13 #[.string s, .int .i64 z] w fun e w' => e = .returned (.tuple #[.int .i64 x, .int .i64 y, .bool t]) ∧ Below w.heap.size w w') := by
      by_cases hn : z < 0 ∨ (s.size : Int) < z
      · exact ⟨0, 0, false, fun w => spec_neg s z w (by omega) hn, fun w => impl_neg s z w (by omega) hn⟩
      · obtain ⟨a, rfl⟩ := Int.eq_ofNat_of_zero_le (a := z) (by omega)
        exact both_any s a (by omega) (by omega)
    have C1 : Hid (∀ w, Calls Try.prog 12 #[.string s, .int .i64 z] w fun e w' => e = .returned (.tuple #[.int .i64 x, .int .i64 y, .bool t]) ∧ Below w.heap.size w w') := c1
    have C2 : Hid (∀ w, Calls Try.prog 13 #[.string s, .int .i64 z] w fun e w' => e = .returned (.tuple #[.int .i64 x, .int .i64 y, .bool t]) ∧ Below w.heap.size w w') := c2
    clear c1 c2
    go_enter Try.func4, Try.ntmps4
    go_wp2_with fail
    refine (C1.out _).mono ?_
    rintro e w1 ⟨rfl, b1⟩
    go_wp2_with fail
    refine (C2.out _).mono ?_
    rintro e w2 ⟨rfl, b2⟩
    have b3 := b1.trans (b2.mono b1.size)
    go_wp2_with fail
    go_ret
    exact ⟨rfl, b3⟩
end Go.Proofs.Ytndpbdpngniepaa

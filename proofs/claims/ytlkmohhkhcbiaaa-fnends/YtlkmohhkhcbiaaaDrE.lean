import Derived.Test.YtlkmohhkhcbiaaaDrD
import Derived.Test.YtlkmohhkhcbiaaaTak
namespace Go.Proofs.Ytlkmohhkhcbiaaa
open Go.RowKit Go.Shelf
set_option linter.unusedVariables false
set_option linter.unusedSimpArgs false
attribute [local go_sem] Oper.semAt_some in
set_option maxRecDepth 100000 in
set_option maxHeartbeats 2000000 in
theorem blk7 (c : Sl Int) (p : Nat) (kids ups : Int) (va : Bool) (inn : Bool) (a x y z : Int) (hd : Dr c p a x y z) (x1 : 0 ≤ x) (x2 : x ≤ 3) (y1 : 0 ≤ y) (y2 : y ≤ 3) (z1 : 0 ≤ z) (z2 : z ≤ 15) (k1 : 0 ≤ kids) (k2 : kids ≤ 3) (u1 : 0 ≤ ups) (u2 : ups ≤ 3) (hp : p ≤ 100000) (ca : a = 15) (cu : 0 < ups) : BlkOk c p kids ups va inn := by
  have r1 := Int.emod_nonneg z (show ups ≠ 0 by omega)
  have r2 := Int.emod_lt_of_pos z (show 0 < ups by omega)
  have hne : (ups == 0) = false := by simp; omega
  refine ⟨[pI (4) (10) (z % ups) (0), pI (0) (x) (10) (0), pI (5) (y) (z % ups) (0)], by simp, U32.cons (pI_bd (by omega) (by omega) (by omega) (by omega) (by omega) (by omega) (by omega) (by omega)) (U32.cons (pI_bd (by omega) (by omega) (by omega) (by omega) (by omega) (by omega) (by omega) (by omega)) (U32.cons (pI_bd (by omega) (by omega) (by omega) (by omega) (by omega) (by omega) (by omega) (by omega)) (U32.nil))), ?_⟩
  intro w v hC
  have hI : Hid (∀ y op a b c, (0 ≤ op ∧ op ≤ 63 ∧ 0 ≤ a ∧ a ≤ 255 ∧ 0 ≤ b ∧ b ≤ 511 ∧ 0 ≤ c ∧ c ≤ 511) → Below w.heap.size w y → Calls Try.prog 25 #[.int .i64 op, .int .i64 a, .int .i64 b, .int .i64 c] y fun e w' => e = .returned (.int .u32 (pI op a b c)) ∧ Below w.heap.size w w') := fun y op a b c h hy => (l4I_in op a b c y h.1 h.2.1 h.2.2.1 h.2.2.2.1 h.2.2.2.2.1 h.2.2.2.2.2.1 h.2.2.2.2.2.2.1 h.2.2.2.2.2.2.2).mono fun e w' ⟨h1, h2⟩ => ⟨h1, hy.trans (h2.mono hy.size)⟩
  obtain ⟨ha, hx, hy, hz⟩ := hd
  replace ha : Hid _ := ha
  replace hx : Hid _ := hx
  replace hy : Hid _ := hy
  replace hz : Hid _ := hz
  obtain ⟨ao, cap, rfl, hl0⟩ : ∃ ao cap, v = .slice ao c.n cap ∧ c.n ≤ 9223372036854775807 := by obtain ⟨⟨ao, cap, h1, h2, -⟩, -, -⟩ := hC; exact ⟨ao, cap, h1, h2⟩
  replace hC : Hid (IsCode w (.slice ao c.n cap) c) := hC
  go_enter Try.func26, Try.ntmps26
  go_wp2_with fail
  refine (l1Take_at c _ p p 30 w rfl hC.out (by omega) (by omega) ha.out).mono ?_
  rintro e w' ⟨rfl, rfl⟩
  go_wp2_with fail
  refine (l1Take_at c _ (p + 1) (p + 1) 4 _ (by omega) hC.out (by omega) (by omega) hx.out).mono ?_
  rintro e w' ⟨rfl, rfl⟩
  go_wp2_with fail
  refine (l1Take_at c _ (p + 2) (p + 1 + 1) 4 _ (by omega) hC.out (by omega) (by omega) hy.out).mono ?_
  rintro e w' ⟨rfl, rfl⟩
  go_wp2_with fail
  refine (l1Take_at c _ (p + 3) (p + 1 + 1 + 1) 16 _ (by omega) hC.out (by omega) (by omega) hz.out).mono ?_
  rintro e w' ⟨rfl, rfl⟩
  clear ha hx hy hz hC
  go_wp2_with fail
  refine wp_region_held_drew (S := fun _ => True) (by kernel_rfl) trivial (fun hH => ?_)
  refine take_dst 0 191 (.int .i64 z) rfl (by kernel_rfl) (by kernel_rfl) (by kernel_rfl) (fun _ _ _ h => h) (Or.inl ⟨by rfl, by intro wv hSv; (try dsimp only at hSv); go_simp⟩) trivial rfl ?_
  try simp only [Act.put, List.setIfInBounds_toArray, List.set_cons_zero, List.set_cons_succ]
  refine take_dst 1 192 (.int .i64 ups) rfl (by kernel_rfl) (by kernel_rfl) (by kernel_rfl) (fun _ _ _ h => h) (Or.inl ⟨by rfl, by intro wv hSv; (try dsimp only at hSv); go_simp⟩) trivial rfl ?_
  try simp only [Act.put, List.setIfInBounds_toArray, List.set_cons_zero, List.set_cons_succ]
  refine take_dst 2 193 (.int .i64 (z % ups)) rfl (by kernel_rfl) (by kernel_rfl) (by kernel_rfl) (fun _ _ _ h => h) (Or.inl ⟨by rfl, by intro wv hSv; (try dsimp only at hSv); go_simp; rw [if_neg (by omega), Int.tmod_eq_emod_of_nonneg (by omega)]⟩) trivial rfl ?_
  try simp only [Act.put, List.setIfInBounds_toArray, List.set_cons_zero, List.set_cons_succ]
  refine take_dst 4 195 (.int .i64 x) rfl (by kernel_rfl) (by kernel_rfl) (by kernel_rfl) (fun _ _ _ h => h) (Or.inl ⟨by rfl, by intro wv hSv; (try dsimp only at hSv); go_simp⟩) trivial rfl ?_
  try simp only [Act.put, List.setIfInBounds_toArray, List.set_cons_zero, List.set_cons_succ]
  refine take_dst 6 197 (.int .i64 y) rfl (by kernel_rfl) (by kernel_rfl) (by kernel_rfl) (fun _ _ _ h => h) (Or.inl ⟨by rfl, by intro wv hSv; (try dsimp only at hSv); go_simp⟩) trivial rfl ?_
  try simp only [Act.put, List.setIfInBounds_toArray, List.set_cons_zero, List.set_cons_succ]
  refine take_dst 7 198 (.int .i64 z) rfl (by kernel_rfl) (by kernel_rfl) (by kernel_rfl) (fun _ _ _ h => h) (Or.inl ⟨by rfl, by intro wv hSv; (try dsimp only at hSv); go_simp⟩) trivial rfl ?_
  try simp only [Act.put, List.setIfInBounds_toArray, List.set_cons_zero, List.set_cons_succ]
  refine take_dst 8 199 (.int .i64 ups) rfl (by kernel_rfl) (by kernel_rfl) (by kernel_rfl) (fun _ _ _ h => h) (Or.inl ⟨by rfl, by intro wv hSv; (try dsimp only at hSv); go_simp⟩) trivial rfl ?_
  try simp only [Act.put, List.setIfInBounds_toArray, List.set_cons_zero, List.set_cons_succ]
  refine take_dst 9 200 (.int .i64 (z % ups)) rfl (by kernel_rfl) (by kernel_rfl) (by kernel_rfl) (fun _ _ _ h => h) (Or.inl ⟨by rfl, by intro wv hSv; (try dsimp only at hSv); go_simp; rw [if_neg (by omega), Int.tmod_eq_emod_of_nonneg (by omega)]⟩) trivial rfl ?_
  try simp only [Act.put, List.setIfInBounds_toArray, List.set_cons_zero, List.set_cons_succ]
  refine take_dst 12 203 (.int .i64 ((p : Int) + 1 + 1 + 1 + 1)) rfl (by kernel_rfl) (by kernel_rfl) (by kernel_rfl) (fun _ _ _ h => h) (Or.inl ⟨by rfl, by intro wv hSv; (try dsimp only at hSv); go_simp⟩) trivial rfl ?_
  try simp only [Act.put, List.setIfInBounds_toArray, List.set_cons_zero, List.set_cons_succ]
  refine wpAnyH_ready (rs := [3]) (by kernel_rfl) (by simp) ?_
  refine AllReadyH.cons rfl (fun K hK => ?_) AllReadyH.nil
  go_simp
  refine Calls.mono (hI.out _ (4) (10) (z % ups) (0) (by omega) ((Below.refl _ _).drew)) ?_
  rintro e yy1 ⟨rfl, hy1⟩
  go_wp2_with fail
  refine hK.out _ _ trivial (fun _ => ?_)
  clear hK K
  try simp only [Act.put, List.setIfInBounds_toArray, List.set_cons_zero, List.set_cons_succ]
  refine wpAnyH_ready (rs := [5]) (by kernel_rfl) (by simp) ?_
  refine AllReadyH.cons rfl (fun K hK => ?_) AllReadyH.nil
  go_simp
  refine Calls.mono (hI.out _ (0) (x) (10) (0) (by omega) (hy1)) ?_
  rintro e yy2 ⟨rfl, hy2⟩
  go_wp2_with fail
  refine hK.out _ _ trivial (fun _ => ?_)
  clear hK K
  try simp only [Act.put, List.setIfInBounds_toArray, List.set_cons_zero, List.set_cons_succ]
  refine wpAnyH_ready (rs := [10]) (by kernel_rfl) (by simp) ?_
  refine AllReadyH.cons rfl (fun K hK => ?_) AllReadyH.nil
  go_simp
  refine Calls.mono (hI.out _ (5) (y) (z % ups) (0) (by omega) (hy2)) ?_
  rintro e yy3 ⟨rfl, hy3⟩
  go_wp2_with fail
  refine hK.out _ _ trivial (fun _ => ?_)
  clear hK K
  try simp only [Act.put, List.setIfInBounds_toArray, List.set_cons_zero, List.set_cons_succ]
  refine wpAnyH_ready (rs := [11]) (by kernel_rfl) (by simp) ?_
  refine AllReadyH.cons rfl (fun K hK => ?_) AllReadyH.nil
  go_simp
  refine hK.out _ _ trivial (fun _ => ?_)
  clear hK K
  try simp only [Act.put, List.setIfInBounds_toArray, List.set_cons_zero, List.set_cons_succ]
  refine wpAnyH_ready (rs := [13]) (by kernel_rfl) (by simp) ?_
  refine AllReadyH.cons rfl (fun K hK => ?_) AllReadyH.nil
  go_simp
  refine hK.out _ _ trivial (fun _ => ?_)
  clear hK K
  try simp only [Act.put, List.setIfInBounds_toArray, List.set_cons_zero, List.set_cons_succ]
  refine wpAnyH_ready (rs := [14]) (by kernel_rfl) (by simp) ?_
  refine AllReadyH.cons rfl (fun K hK => ?_) AllReadyH.nil
  go_simp
  refine hK.out _ _ trivial (fun _ => ?_)
  clear hK K
  try simp only [Act.put, List.setIfInBounds_toArray, List.set_cons_zero, List.set_cons_succ]
  refine wpAnyH_done (by kernel_rfl) ?_ _
  have S := WS.lit hy3 [pI (4) (10) (z % ups) (0), pI (0) (x) (10) (0), pI (5) (y) (z % ups) (0)] (by simp)
  go_wp2_with fail
  go_ret2
  exact ⟨_, _, rfl, by omega, S⟩
attribute [local go_sem] Oper.semAt_some in
set_option maxRecDepth 100000 in
set_option maxHeartbeats 2000000 in
theorem blk8 (c : Sl Int) (p : Nat) (kids ups : Int) (va : Bool) (inn : Bool) (a x y z : Int) (hd : Dr c p a x y z) (x1 : 0 ≤ x) (x2 : x ≤ 3) (y1 : 0 ≤ y) (y2 : y ≤ 3) (z1 : 0 ≤ z) (z2 : z ≤ 15) (k1 : 0 ≤ kids) (k2 : kids ≤ 3) (u1 : 0 ≤ ups) (u2 : ups ≤ 3) (hp : p ≤ 100000) (ca : 15 < a) (cb : a < 19) (cu : 0 < ups) : BlkOk c p kids ups va inn := by
  have r1 := Int.emod_nonneg z (show ups ≠ 0 by omega)
  have r2 := Int.emod_lt_of_pos z (show 0 < ups by omega)
  have hne : (ups == 0) = false := by simp; omega
  refine ⟨[pI (4) (10) (z % ups) (0), pI (9) (10) (10) (3), pI (5) (10) (z % ups) (0)], by simp, U32.cons (pI_bd (by omega) (by omega) (by omega) (by omega) (by omega) (by omega) (by omega) (by omega)) (U32.cons (pI_bd (by omega) (by omega) (by omega) (by omega) (by omega) (by omega) (by omega) (by omega)) (U32.cons (pI_bd (by omega) (by omega) (by omega) (by omega) (by omega) (by omega) (by omega) (by omega)) (U32.nil))), ?_⟩
  intro w v hC
  have hI : Hid (∀ y op a b c, (0 ≤ op ∧ op ≤ 63 ∧ 0 ≤ a ∧ a ≤ 255 ∧ 0 ≤ b ∧ b ≤ 511 ∧ 0 ≤ c ∧ c ≤ 511) → Below w.heap.size w y → Calls Try.prog 25 #[.int .i64 op, .int .i64 a, .int .i64 b, .int .i64 c] y fun e w' => e = .returned (.int .u32 (pI op a b c)) ∧ Below w.heap.size w w') := fun y op a b c h hy => (l4I_in op a b c y h.1 h.2.1 h.2.2.1 h.2.2.2.1 h.2.2.2.2.1 h.2.2.2.2.2.1 h.2.2.2.2.2.2.1 h.2.2.2.2.2.2.2).mono fun e w' ⟨h1, h2⟩ => ⟨h1, hy.trans (h2.mono hy.size)⟩
  obtain ⟨ha, hx, hy, hz⟩ := hd
  replace ha : Hid _ := ha
  replace hx : Hid _ := hx
  replace hy : Hid _ := hy
  replace hz : Hid _ := hz
  obtain ⟨ao, cap, rfl, hl0⟩ : ∃ ao cap, v = .slice ao c.n cap ∧ c.n ≤ 9223372036854775807 := by obtain ⟨⟨ao, cap, h1, h2, -⟩, -, -⟩ := hC; exact ⟨ao, cap, h1, h2⟩
  replace hC : Hid (IsCode w (.slice ao c.n cap) c) := hC
  go_enter Try.func26, Try.ntmps26
  go_wp2_with fail
  refine (l1Take_at c _ p p 30 w rfl hC.out (by omega) (by omega) ha.out).mono ?_
  rintro e w' ⟨rfl, rfl⟩
  go_wp2_with fail
  refine (l1Take_at c _ (p + 1) (p + 1) 4 _ (by omega) hC.out (by omega) (by omega) hx.out).mono ?_
  rintro e w' ⟨rfl, rfl⟩
  go_wp2_with fail
  refine (l1Take_at c _ (p + 2) (p + 1 + 1) 4 _ (by omega) hC.out (by omega) (by omega) hy.out).mono ?_
  rintro e w' ⟨rfl, rfl⟩
  go_wp2_with fail
  refine (l1Take_at c _ (p + 3) (p + 1 + 1 + 1) 16 _ (by omega) hC.out (by omega) (by omega) hz.out).mono ?_
  rintro e w' ⟨rfl, rfl⟩
  clear ha hx hy hz hC
  go_wp2_with fail
  refine wp_region_held_drew (S := fun _ => True) (by kernel_rfl) trivial (fun hH => ?_)
  refine take_dst 0 210 (.int .i64 z) rfl (by kernel_rfl) (by kernel_rfl) (by kernel_rfl) (fun _ _ _ h => h) (Or.inl ⟨by rfl, by intro wv hSv; (try dsimp only at hSv); go_simp⟩) trivial rfl ?_
  try simp only [Act.put, List.setIfInBounds_toArray, List.set_cons_zero, List.set_cons_succ]
  refine take_dst 1 211 (.int .i64 ups) rfl (by kernel_rfl) (by kernel_rfl) (by kernel_rfl) (fun _ _ _ h => h) (Or.inl ⟨by rfl, by intro wv hSv; (try dsimp only at hSv); go_simp⟩) trivial rfl ?_
  try simp only [Act.put, List.setIfInBounds_toArray, List.set_cons_zero, List.set_cons_succ]
  refine take_dst 2 212 (.int .i64 (z % ups)) rfl (by kernel_rfl) (by kernel_rfl) (by kernel_rfl) (fun _ _ _ h => h) (Or.inl ⟨by rfl, by intro wv hSv; (try dsimp only at hSv); go_simp; rw [if_neg (by omega), Int.tmod_eq_emod_of_nonneg (by omega)]⟩) trivial rfl ?_
  try simp only [Act.put, List.setIfInBounds_toArray, List.set_cons_zero, List.set_cons_succ]
  refine take_dst 5 215 (.int .i64 z) rfl (by kernel_rfl) (by kernel_rfl) (by kernel_rfl) (fun _ _ _ h => h) (Or.inl ⟨by rfl, by intro wv hSv; (try dsimp only at hSv); go_simp⟩) trivial rfl ?_
  try simp only [Act.put, List.setIfInBounds_toArray, List.set_cons_zero, List.set_cons_succ]
  refine take_dst 6 216 (.int .i64 ups) rfl (by kernel_rfl) (by kernel_rfl) (by kernel_rfl) (fun _ _ _ h => h) (Or.inl ⟨by rfl, by intro wv hSv; (try dsimp only at hSv); go_simp⟩) trivial rfl ?_
  try simp only [Act.put, List.setIfInBounds_toArray, List.set_cons_zero, List.set_cons_succ]
  refine take_dst 7 217 (.int .i64 (z % ups)) rfl (by kernel_rfl) (by kernel_rfl) (by kernel_rfl) (fun _ _ _ h => h) (Or.inl ⟨by rfl, by intro wv hSv; (try dsimp only at hSv); go_simp; rw [if_neg (by omega), Int.tmod_eq_emod_of_nonneg (by omega)]⟩) trivial rfl ?_
  try simp only [Act.put, List.setIfInBounds_toArray, List.set_cons_zero, List.set_cons_succ]
  refine take_dst 10 220 (.int .i64 ((p : Int) + 1 + 1 + 1 + 1)) rfl (by kernel_rfl) (by kernel_rfl) (by kernel_rfl) (fun _ _ _ h => h) (Or.inl ⟨by rfl, by intro wv hSv; (try dsimp only at hSv); go_simp⟩) trivial rfl ?_
  try simp only [Act.put, List.setIfInBounds_toArray, List.set_cons_zero, List.set_cons_succ]
  refine wpAnyH_ready (rs := [3]) (by kernel_rfl) (by simp) ?_
  refine AllReadyH.cons rfl (fun K hK => ?_) AllReadyH.nil
  go_simp
  refine Calls.mono (hI.out _ (4) (10) (z % ups) (0) (by omega) ((Below.refl _ _).drew)) ?_
  rintro e yy1 ⟨rfl, hy1⟩
  go_wp2_with fail
  refine hK.out _ _ trivial (fun _ => ?_)
  clear hK K
  try simp only [Act.put, List.setIfInBounds_toArray, List.set_cons_zero, List.set_cons_succ]
  refine wpAnyH_ready (rs := [4]) (by kernel_rfl) (by simp) ?_
  refine AllReadyH.cons rfl (fun K hK => ?_) AllReadyH.nil
  go_simp
  refine Calls.mono (hI.out _ (9) (10) (10) (3) (by omega) (hy1)) ?_
  rintro e yy2 ⟨rfl, hy2⟩
  go_wp2_with fail
  refine hK.out _ _ trivial (fun _ => ?_)
  clear hK K
  try simp only [Act.put, List.setIfInBounds_toArray, List.set_cons_zero, List.set_cons_succ]
  refine wpAnyH_ready (rs := [8]) (by kernel_rfl) (by simp) ?_
  refine AllReadyH.cons rfl (fun K hK => ?_) AllReadyH.nil
  go_simp
  refine Calls.mono (hI.out _ (5) (10) (z % ups) (0) (by omega) (hy2)) ?_
  rintro e yy3 ⟨rfl, hy3⟩
  go_wp2_with fail
  refine hK.out _ _ trivial (fun _ => ?_)
  clear hK K
  try simp only [Act.put, List.setIfInBounds_toArray, List.set_cons_zero, List.set_cons_succ]
  refine wpAnyH_ready (rs := [9]) (by kernel_rfl) (by simp) ?_
  refine AllReadyH.cons rfl (fun K hK => ?_) AllReadyH.nil
  go_simp
  refine hK.out _ _ trivial (fun _ => ?_)
  clear hK K
  try simp only [Act.put, List.setIfInBounds_toArray, List.set_cons_zero, List.set_cons_succ]
  refine wpAnyH_ready (rs := [11]) (by kernel_rfl) (by simp) ?_
  refine AllReadyH.cons rfl (fun K hK => ?_) AllReadyH.nil
  go_simp
  refine hK.out _ _ trivial (fun _ => ?_)
  clear hK K
  try simp only [Act.put, List.setIfInBounds_toArray, List.set_cons_zero, List.set_cons_succ]
  refine wpAnyH_ready (rs := [12]) (by kernel_rfl) (by simp) ?_
  refine AllReadyH.cons rfl (fun K hK => ?_) AllReadyH.nil
  go_simp
  refine hK.out _ _ trivial (fun _ => ?_)
  clear hK K
  try simp only [Act.put, List.setIfInBounds_toArray, List.set_cons_zero, List.set_cons_succ]
  refine wpAnyH_done (by kernel_rfl) ?_ _
  have S := WS.lit hy3 [pI (4) (10) (z % ups) (0), pI (9) (10) (10) (3), pI (5) (10) (z % ups) (0)] (by simp)
  go_wp2_with fail
  go_ret2
  exact ⟨_, _, rfl, by omega, S⟩
end Go.Proofs.Ytlkmohhkhcbiaaa

import Derived.Test.YtlkmohhkhcbiaaaDrC
namespace Go.Proofs.Ytlkmohhkhcbiaaa
open Go.RowKit
set_option linter.unusedVariables false
set_option linter.unusedSimpArgs false
/-- what l4Block draws at p. -/
def BlkOk (c : Sl Int) (p : Nat) (kids ups : Int) (va inn : Bool) : Prop :=
  ∃ L : List Int, L.length ≤ 60 ∧ U32 L ∧ ∀ w v, IsCode w v c → Calls Try.prog 26 #[v, .int .i64 p, .int .i64 kids, .int .i64 ups, .bool va, .bool inn] w fun e w' => ∃ u q, e = .returned (.tuple #[u, .int .i64 q]) ∧ q = (p : Int) + 4 ∧ WS w w' u L
/-- the same, the place an integer. -/
theorem l1Take_at (c : Sl Int) (v : Value) (p : Nat) (P n : Int) (w : World) (hP : P = (p : Int)) (hC : IsCode w v c) (hp : p ≤ 1000000) (hn : n ≤ 1000000) {x : Int} (hx : tk c p n = x) :
    Calls Try.prog 7 #[v, .int .i64 P, .int .i64 n] w fun e w' => e = .returned (.tuple #[.int .i64 x, .int .i64 (P + 1)]) ∧ w' = w := by
  subst hP hx
  exact (l1Take_in c v p n w hC hp hn).mono fun e w' ⟨h1, h2⟩ => ⟨by rw [h1]; rfl, h2⟩
structure Dr (c : Sl Int) (p : Nat) (a x y z : Int) : Prop where
  ha : tk c p 30 = a
  hx : tk c (p + 1) 4 = x
  hy : tk c (p + 2) 4 = y
  hz : tk c (p + 3) 16 = z
set_option maxRecDepth 100000 in
set_option maxHeartbeats 1000000 in
theorem blk1 (c : Sl Int) (p : Nat) (kids ups : Int) (va : Bool) (inn : Bool) (a x y z : Int) (hd : Dr c p a x y z) (x1 : 0 ≤ x) (x2 : x ≤ 3) (y1 : 0 ≤ y) (y2 : y ≤ 3) (z1 : 0 ≤ z) (z2 : z ≤ 15) (k1 : 0 ≤ kids) (k2 : kids ≤ 3) (u1 : 0 ≤ ups) (u2 : ups ≤ 3) (hp : p ≤ 100000) (ca : a < 6) (cz : z ≤ 13) : BlkOk c p kids ups va inn := by
  refine ⟨[pI (9 + z % 3) (x) (y) (z / 4), pI (0) (z % 4) (x) (0)], by simp, U32.cons (pI_bd (by omega) (by omega) (by omega) (by omega) (by omega) (by omega) (by omega) (by omega)) (U32.cons (pI_bd (by omega) (by omega) (by omega) (by omega) (by omega) (by omega) (by omega) (by omega)) (U32.nil)), ?_⟩
  intro w v hC
  have B := Below.refl w.heap.size w
  obtain ⟨ha, hx, hy, hz⟩ := hd
  replace ha : Hid _ := ha
  replace hx : Hid _ := hx
  replace hy : Hid _ := hy
  replace hz : Hid _ := hz
  obtain ⟨ao, cap, rfl, hl0⟩ : ∃ ao cap, v = .slice ao c.n cap ∧ c.n ≤ 9223372036854775807 := by obtain ⟨⟨ao, cap, h1, h2, -⟩, -, -⟩ := hC; exact ⟨ao, cap, h1, h2⟩
  replace hC : Hid (IsCode w (.slice ao c.n cap) c) := hC
  go_enter Try.func26, Try.ntmps26
  go_wp2_with fail
  refine (l1Take_at c _ p p 30 w rfl hC.out (by omega) (by omega) ha.out).mono ?_
  rintro e w' ⟨rfl, rfl⟩
  go_wp2_with fail
  refine (l1Take_at c _ (p + 1) (p + 1) 4 _ (by omega) hC.out (by omega) (by omega) hx.out).mono ?_
  rintro e w' ⟨rfl, rfl⟩
  go_wp2_with fail
  refine (l1Take_at c _ (p + 2) (p + 1 + 1) 4 _ (by omega) hC.out (by omega) (by omega) hy.out).mono ?_
  rintro e w' ⟨rfl, rfl⟩
  go_wp2_with fail
  refine (l1Take_at c _ (p + 3) (p + 1 + 1 + 1) 16 _ (by omega) hC.out (by omega) (by omega) hz.out).mono ?_
  rintro e w' ⟨rfl, rfl⟩
  clear ha hx hy hz hC
  go_wp2_with fail
  refine (l4I_in (9 + z % 3) (x) (y) (z / 4) _ (by omega) (by omega) (by omega) (by omega) (by omega) (by omega) (by omega) (by omega)).mono ?_
  rintro e y1 ⟨rfl, b1⟩
  replace B := B.trans (b1.mono B.size)
  clear b1
  go_wp2_with fail
  refine (l4I_in (0) (z % 4) (x) (0) _ (by omega) (by omega) (by omega) (by omega) (by omega) (by omega) (by omega) (by omega)).mono ?_
  rintro e y2 ⟨rfl, b2⟩
  replace B := B.trans (b2.mono B.size)
  clear b2
  have S := WS.lit B [pI (9 + z % 3) (x) (y) (z / 4), pI (0) (z % 4) (x) (0)] (by simp)
  go_wp2_with fail
  go_ret2
  exact ⟨_, _, rfl, by omega, S⟩
set_option maxRecDepth 100000 in
set_option maxHeartbeats 1000000 in
theorem blk1b (c : Sl Int) (p : Nat) (kids ups : Int) (va : Bool) (inn : Bool) (a x y z : Int) (hd : Dr c p a x y z) (x1 : 0 ≤ x) (x2 : x ≤ 3) (y1 : 0 ≤ y) (y2 : y ≤ 3) (z1 : 0 ≤ z) (z2 : z ≤ 15) (k1 : 0 ≤ kids) (k2 : kids ≤ 3) (u1 : 0 ≤ ups) (u2 : ups ≤ 3) (hp : p ≤ 100000) (ca : a < 6) (cz : 13 < z) : BlkOk c p kids ups va inn := by
  refine ⟨[pI (12 + z % 2) (x) (y) (z / 4), pI (0) (z % 4) (x) (0)], by simp, U32.cons (pI_bd (by omega) (by omega) (by omega) (by omega) (by omega) (by omega) (by omega) (by omega)) (U32.cons (pI_bd (by omega) (by omega) (by omega) (by omega) (by omega) (by omega) (by omega) (by omega)) (U32.nil)), ?_⟩
  intro w v hC
  have B := Below.refl w.heap.size w
  obtain ⟨ha, hx, hy, hz⟩ := hd
  replace ha : Hid _ := ha
  replace hx : Hid _ := hx
  replace hy : Hid _ := hy
  replace hz : Hid _ := hz
  obtain ⟨ao, cap, rfl, hl0⟩ : ∃ ao cap, v = .slice ao c.n cap ∧ c.n ≤ 9223372036854775807 := by obtain ⟨⟨ao, cap, h1, h2, -⟩, -, -⟩ := hC; exact ⟨ao, cap, h1, h2⟩
  replace hC : Hid (IsCode w (.slice ao c.n cap) c) := hC
  go_enter Try.func26, Try.ntmps26
  go_wp2_with fail
  refine (l1Take_at c _ p p 30 w rfl hC.out (by omega) (by omega) ha.out).mono ?_
  rintro e w' ⟨rfl, rfl⟩
  go_wp2_with fail
  refine (l1Take_at c _ (p + 1) (p + 1) 4 _ (by omega) hC.out (by omega) (by omega) hx.out).mono ?_
  rintro e w' ⟨rfl, rfl⟩
  go_wp2_with fail
  refine (l1Take_at c _ (p + 2) (p + 1 + 1) 4 _ (by omega) hC.out (by omega) (by omega) hy.out).mono ?_
  rintro e w' ⟨rfl, rfl⟩
  go_wp2_with fail
  refine (l1Take_at c _ (p + 3) (p + 1 + 1 + 1) 16 _ (by omega) hC.out (by omega) (by omega) hz.out).mono ?_
  rintro e w' ⟨rfl, rfl⟩
  clear ha hx hy hz hC
  go_wp2_with fail
  refine (l4I_in (12 + z % 2) (x) (y) (z / 4) _ (by omega) (by omega) (by omega) (by omega) (by omega) (by omega) (by omega) (by omega)).mono ?_
  rintro e y1 ⟨rfl, b1⟩
  replace B := B.trans (b1.mono B.size)
  clear b1
  go_wp2_with fail
  refine (l4I_in (0) (z % 4) (x) (0) _ (by omega) (by omega) (by omega) (by omega) (by omega) (by omega) (by omega) (by omega)).mono ?_
  rintro e y2 ⟨rfl, b2⟩
  replace B := B.trans (b2.mono B.size)
  clear b2
  have S := WS.lit B [pI (12 + z % 2) (x) (y) (z / 4), pI (0) (z % 4) (x) (0)] (by simp)
  go_wp2_with fail
  go_ret2
  exact ⟨_, _, rfl, by omega, S⟩
set_option maxRecDepth 100000 in
set_option maxHeartbeats 1000000 in
theorem blk2 (c : Sl Int) (p : Nat) (kids ups : Int) (va : Bool) (inn : Bool) (a x y z : Int) (hd : Dr c p a x y z) (x1 : 0 ≤ x) (x2 : x ≤ 3) (y1 : 0 ≤ y) (y2 : y ≤ 3) (z1 : 0 ≤ z) (z2 : z ≤ 15) (k1 : 0 ≤ kids) (k2 : kids ≤ 3) (u1 : 0 ≤ ups) (u2 : ups ≤ 3) (hp : p ≤ 100000) (ca : 6 ≤ a) (cb : a < 9) : BlkOk c p kids ups va inn := by
  refine ⟨[pI (8) (4) (x) (y), pI (7) (6 + z % 3) (4) (z % 4), pI (17) (10) (4) (0)], by simp, U32.cons (pI_bd (by omega) (by omega) (by omega) (by omega) (by omega) (by omega) (by omega) (by omega)) (U32.cons (pI_bd (by omega) (by omega) (by omega) (by omega) (by omega) (by omega) (by omega) (by omega)) (U32.cons (pI_bd (by omega) (by omega) (by omega) (by omega) (by omega) (by omega) (by omega) (by omega)) (U32.nil))), ?_⟩
  intro w v hC
  have B := Below.refl w.heap.size w
  obtain ⟨ha, hx, hy, hz⟩ := hd
  replace ha : Hid _ := ha
  replace hx : Hid _ := hx
  replace hy : Hid _ := hy
  replace hz : Hid _ := hz
  obtain ⟨ao, cap, rfl, hl0⟩ : ∃ ao cap, v = .slice ao c.n cap ∧ c.n ≤ 9223372036854775807 := by obtain ⟨⟨ao, cap, h1, h2, -⟩, -, -⟩ := hC; exact ⟨ao, cap, h1, h2⟩
  replace hC : Hid (IsCode w (.slice ao c.n cap) c) := hC
  go_enter Try.func26, Try.ntmps26
  go_wp2_with fail
  refine (l1Take_at c _ p p 30 w rfl hC.out (by omega) (by omega) ha.out).mono ?_
  rintro e w' ⟨rfl, rfl⟩
  go_wp2_with fail
  refine (l1Take_at c _ (p + 1) (p + 1) 4 _ (by omega) hC.out (by omega) (by omega) hx.out).mono ?_
  rintro e w' ⟨rfl, rfl⟩
  go_wp2_with fail
  refine (l1Take_at c _ (p + 2) (p + 1 + 1) 4 _ (by omega) hC.out (by omega) (by omega) hy.out).mono ?_
  rintro e w' ⟨rfl, rfl⟩
  go_wp2_with fail
  refine (l1Take_at c _ (p + 3) (p + 1 + 1 + 1) 16 _ (by omega) hC.out (by omega) (by omega) hz.out).mono ?_
  rintro e w' ⟨rfl, rfl⟩
  clear ha hx hy hz hC
  go_wp2_with fail
  refine (l4I_in (8) (4) (x) (y) _ (by omega) (by omega) (by omega) (by omega) (by omega) (by omega) (by omega) (by omega)).mono ?_
  rintro e y1 ⟨rfl, b1⟩
  replace B := B.trans (b1.mono B.size)
  clear b1
  go_wp2_with fail
  refine (l4I_in (7) (6 + z % 3) (4) (z % 4) _ (by omega) (by omega) (by omega) (by omega) (by omega) (by omega) (by omega) (by omega)).mono ?_
  rintro e y2 ⟨rfl, b2⟩
  replace B := B.trans (b2.mono B.size)
  clear b2
  go_wp2_with fail
  refine (l4I_in (17) (10) (4) (0) _ (by omega) (by omega) (by omega) (by omega) (by omega) (by omega) (by omega) (by omega)).mono ?_
  rintro e y3 ⟨rfl, b3⟩
  replace B := B.trans (b3.mono B.size)
  clear b3
  have S := WS.lit B [pI (8) (4) (x) (y), pI (7) (6 + z % 3) (4) (z % 4), pI (17) (10) (4) (0)] (by simp)
  go_wp2_with fail
  go_ret2
  exact ⟨_, _, rfl, by omega, S⟩
set_option maxRecDepth 100000 in
set_option maxHeartbeats 1000000 in
theorem blk3 (c : Sl Int) (p : Nat) (kids ups : Int) (va : Bool) (inn : Bool) (a x y z : Int) (hd : Dr c p a x y z) (x1 : 0 ≤ x) (x2 : x ≤ 3) (y1 : 0 ≤ y) (y2 : y ≤ 3) (z1 : 0 ≤ z) (z2 : z ≤ 15) (k1 : 0 ≤ kids) (k2 : kids ≤ 3) (u1 : 0 ≤ ups) (u2 : ups ≤ 3) (hp : p ≤ 100000) (ca : a = 9) : BlkOk c p kids ups va inn := by
  refine ⟨[pI (14) (5) (5) (x), pI (17) (y) (5) (0)], by simp, U32.cons (pI_bd (by omega) (by omega) (by omega) (by omega) (by omega) (by omega) (by omega) (by omega)) (U32.cons (pI_bd (by omega) (by omega) (by omega) (by omega) (by omega) (by omega) (by omega) (by omega)) (U32.nil)), ?_⟩
  intro w v hC
  have B := Below.refl w.heap.size w
  obtain ⟨ha, hx, hy, hz⟩ := hd
  replace ha : Hid _ := ha
  replace hx : Hid _ := hx
  replace hy : Hid _ := hy
  replace hz : Hid _ := hz
  obtain ⟨ao, cap, rfl, hl0⟩ : ∃ ao cap, v = .slice ao c.n cap ∧ c.n ≤ 9223372036854775807 := by obtain ⟨⟨ao, cap, h1, h2, -⟩, -, -⟩ := hC; exact ⟨ao, cap, h1, h2⟩
  replace hC : Hid (IsCode w (.slice ao c.n cap) c) := hC
  go_enter Try.func26, Try.ntmps26
  go_wp2_with fail
  refine (l1Take_at c _ p p 30 w rfl hC.out (by omega) (by omega) ha.out).mono ?_
  rintro e w' ⟨rfl, rfl⟩
  go_wp2_with fail
  refine (l1Take_at c _ (p + 1) (p + 1) 4 _ (by omega) hC.out (by omega) (by omega) hx.out).mono ?_
  rintro e w' ⟨rfl, rfl⟩
  go_wp2_with fail
  refine (l1Take_at c _ (p + 2) (p + 1 + 1) 4 _ (by omega) hC.out (by omega) (by omega) hy.out).mono ?_
  rintro e w' ⟨rfl, rfl⟩
  go_wp2_with fail
  refine (l1Take_at c _ (p + 3) (p + 1 + 1 + 1) 16 _ (by omega) hC.out (by omega) (by omega) hz.out).mono ?_
  rintro e w' ⟨rfl, rfl⟩
  clear ha hx hy hz hC
  go_wp2_with fail
  refine (l4I_in (14) (5) (5) (x) _ (by omega) (by omega) (by omega) (by omega) (by omega) (by omega) (by omega) (by omega)).mono ?_
  rintro e y1 ⟨rfl, b1⟩
  replace B := B.trans (b1.mono B.size)
  clear b1
  go_wp2_with fail
  refine (l4I_in (17) (y) (5) (0) _ (by omega) (by omega) (by omega) (by omega) (by omega) (by omega) (by omega) (by omega)).mono ?_
  rintro e y2 ⟨rfl, b2⟩
  replace B := B.trans (b2.mono B.size)
  clear b2
  have S := WS.lit B [pI (14) (5) (5) (x), pI (17) (y) (5) (0)] (by simp)
  go_wp2_with fail
  go_ret2
  exact ⟨_, _, rfl, by omega, S⟩
set_option maxRecDepth 100000 in
set_option maxHeartbeats 1000000 in
theorem blk4 (c : Sl Int) (p : Nat) (kids ups : Int) (va : Bool) (inn : Bool) (a x y z : Int) (hd : Dr c p a x y z) (x1 : 0 ≤ x) (x2 : x ≤ 3) (y1 : 0 ≤ y) (y2 : y ≤ 3) (z1 : 0 ≤ z) (z2 : z ≤ 15) (k1 : 0 ≤ kids) (k2 : kids ≤ 3) (u1 : 0 ≤ ups) (u2 : ups ≤ 3) (hp : p ≤ 100000) (ca : 9 < a) (cb : a < 12) : BlkOk c p kids ups va inn := by
  refine ⟨[pI (19 + z % 2) (z / 2 % 2) (x) (y), pW (18) (0) (1), pI (9) (x) (x) (3), pI (16) (y) (x) (0)], by simp, U32.cons (pI_bd (by omega) (by omega) (by omega) (by omega) (by omega) (by omega) (by omega) (by omega)) (U32.cons (pW_bd (by omega) (by omega) (by omega) (by omega) (by omega) (by omega)) (U32.cons (pI_bd (by omega) (by omega) (by omega) (by omega) (by omega) (by omega) (by omega) (by omega)) (U32.cons (pI_bd (by omega) (by omega) (by omega) (by omega) (by omega) (by omega) (by omega) (by omega)) (U32.nil)))), ?_⟩
  intro w v hC
  have B := Below.refl w.heap.size w
  obtain ⟨ha, hx, hy, hz⟩ := hd
  replace ha : Hid _ := ha
  replace hx : Hid _ := hx
  replace hy : Hid _ := hy
  replace hz : Hid _ := hz
  obtain ⟨ao, cap, rfl, hl0⟩ : ∃ ao cap, v = .slice ao c.n cap ∧ c.n ≤ 9223372036854775807 := by obtain ⟨⟨ao, cap, h1, h2, -⟩, -, -⟩ := hC; exact ⟨ao, cap, h1, h2⟩
  replace hC : Hid (IsCode w (.slice ao c.n cap) c) := hC
  go_enter Try.func26, Try.ntmps26
  go_wp2_with fail
  refine (l1Take_at c _ p p 30 w rfl hC.out (by omega) (by omega) ha.out).mono ?_
  rintro e w' ⟨rfl, rfl⟩
  go_wp2_with fail
  refine (l1Take_at c _ (p + 1) (p + 1) 4 _ (by omega) hC.out (by omega) (by omega) hx.out).mono ?_
  rintro e w' ⟨rfl, rfl⟩
  go_wp2_with fail
  refine (l1Take_at c _ (p + 2) (p + 1 + 1) 4 _ (by omega) hC.out (by omega) (by omega) hy.out).mono ?_
  rintro e w' ⟨rfl, rfl⟩
  go_wp2_with fail
  refine (l1Take_at c _ (p + 3) (p + 1 + 1 + 1) 16 _ (by omega) hC.out (by omega) (by omega) hz.out).mono ?_
  rintro e w' ⟨rfl, rfl⟩
  clear ha hx hy hz hC
  go_wp2_with fail
  refine (l4I_in (19 + z % 2) (z / 2 % 2) (x) (y) _ (by omega) (by omega) (by omega) (by omega) (by omega) (by omega) (by omega) (by omega)).mono ?_
  rintro e y1 ⟨rfl, b1⟩
  replace B := B.trans (b1.mono B.size)
  clear b1
  go_wp2_with fail
  refine (l4W_in (18) (0) (1) _ (by omega) (by omega) (by omega) (by omega) (by omega) (by omega)).mono ?_
  rintro e y2 ⟨rfl, b2⟩
  replace B := B.trans (b2.mono B.size)
  clear b2
  go_wp2_with fail
  refine (l4I_in (9) (x) (x) (3) _ (by omega) (by omega) (by omega) (by omega) (by omega) (by omega) (by omega) (by omega)).mono ?_
  rintro e y3 ⟨rfl, b3⟩
  replace B := B.trans (b3.mono B.size)
  clear b3
  go_wp2_with fail
  refine (l4I_in (16) (y) (x) (0) _ (by omega) (by omega) (by omega) (by omega) (by omega) (by omega) (by omega) (by omega)).mono ?_
  rintro e y4 ⟨rfl, b4⟩
  replace B := B.trans (b4.mono B.size)
  clear b4
  have S := WS.lit B [pI (19 + z % 2) (z / 2 % 2) (x) (y), pW (18) (0) (1), pI (9) (x) (x) (3), pI (16) (y) (x) (0)] (by simp)
  go_wp2_with fail
  go_ret2
  exact ⟨_, _, rfl, by omega, S⟩
set_option maxRecDepth 100000 in
set_option maxHeartbeats 1000000 in
theorem blk5 (c : Sl Int) (p : Nat) (kids ups : Int) (va : Bool) (inn : Bool) (a x y z : Int) (hd : Dr c p a x y z) (x1 : 0 ≤ x) (x2 : x ≤ 3) (y1 : 0 ≤ y) (y2 : y ≤ 3) (z1 : 0 ≤ z) (z2 : z ≤ 15) (k1 : 0 ≤ kids) (k2 : kids ≤ 3) (u1 : 0 ≤ ups) (u2 : ups ≤ 3) (hp : p ≤ 100000) (ca : a = 12) : BlkOk c p kids ups va inn := by
  refine ⟨[pI (15) (10) (x) (0), pI (21) (10) (0) (z % 2), pW (18) (0) (1), pI (0) (x) (y) (0), pI (2) (8) (2) (0)], by simp, U32.cons (pI_bd (by omega) (by omega) (by omega) (by omega) (by omega) (by omega) (by omega) (by omega)) (U32.cons (pI_bd (by omega) (by omega) (by omega) (by omega) (by omega) (by omega) (by omega) (by omega)) (U32.cons (pW_bd (by omega) (by omega) (by omega) (by omega) (by omega) (by omega)) (U32.cons (pI_bd (by omega) (by omega) (by omega) (by omega) (by omega) (by omega) (by omega) (by omega)) (U32.cons (pI_bd (by omega) (by omega) (by omega) (by omega) (by omega) (by omega) (by omega) (by omega)) (U32.nil))))), ?_⟩
  intro w v hC
  have B := Below.refl w.heap.size w
  obtain ⟨ha, hx, hy, hz⟩ := hd
  replace ha : Hid _ := ha
  replace hx : Hid _ := hx
  replace hy : Hid _ := hy
  replace hz : Hid _ := hz
  obtain ⟨ao, cap, rfl, hl0⟩ : ∃ ao cap, v = .slice ao c.n cap ∧ c.n ≤ 9223372036854775807 := by obtain ⟨⟨ao, cap, h1, h2, -⟩, -, -⟩ := hC; exact ⟨ao, cap, h1, h2⟩
  replace hC : Hid (IsCode w (.slice ao c.n cap) c) := hC
  go_enter Try.func26, Try.ntmps26
  go_wp2_with fail
  refine (l1Take_at c _ p p 30 w rfl hC.out (by omega) (by omega) ha.out).mono ?_
  rintro e w' ⟨rfl, rfl⟩
  go_wp2_with fail
  refine (l1Take_at c _ (p + 1) (p + 1) 4 _ (by omega) hC.out (by omega) (by omega) hx.out).mono ?_
  rintro e w' ⟨rfl, rfl⟩
  go_wp2_with fail
  refine (l1Take_at c _ (p + 2) (p + 1 + 1) 4 _ (by omega) hC.out (by omega) (by omega) hy.out).mono ?_
  rintro e w' ⟨rfl, rfl⟩
  go_wp2_with fail
  refine (l1Take_at c _ (p + 3) (p + 1 + 1 + 1) 16 _ (by omega) hC.out (by omega) (by omega) hz.out).mono ?_
  rintro e w' ⟨rfl, rfl⟩
  clear ha hx hy hz hC
  go_wp2_with fail
  refine (l4I_in (15) (10) (x) (0) _ (by omega) (by omega) (by omega) (by omega) (by omega) (by omega) (by omega) (by omega)).mono ?_
  rintro e y1 ⟨rfl, b1⟩
  replace B := B.trans (b1.mono B.size)
  clear b1
  go_wp2_with fail
  refine (l4I_in (21) (10) (0) (z % 2) _ (by omega) (by omega) (by omega) (by omega) (by omega) (by omega) (by omega) (by omega)).mono ?_
  rintro e y2 ⟨rfl, b2⟩
  replace B := B.trans (b2.mono B.size)
  clear b2
  go_wp2_with fail
  refine (l4W_in (18) (0) (1) _ (by omega) (by omega) (by omega) (by omega) (by omega) (by omega)).mono ?_
  rintro e y3 ⟨rfl, b3⟩
  replace B := B.trans (b3.mono B.size)
  clear b3
  go_wp2_with fail
  refine (l4I_in (0) (x) (y) (0) _ (by omega) (by omega) (by omega) (by omega) (by omega) (by omega) (by omega) (by omega)).mono ?_
  rintro e y4 ⟨rfl, b4⟩
  replace B := B.trans (b4.mono B.size)
  clear b4
  go_wp2_with fail
  refine (l4I_in (2) (8) (2) (0) _ (by omega) (by omega) (by omega) (by omega) (by omega) (by omega) (by omega) (by omega)).mono ?_
  rintro e y5 ⟨rfl, b5⟩
  replace B := B.trans (b5.mono B.size)
  clear b5
  have S := WS.lit B [pI (15) (10) (x) (0), pI (21) (10) (0) (z % 2), pW (18) (0) (1), pI (0) (x) (y) (0), pI (2) (8) (2) (0)] (by simp)
  go_wp2_with fail
  go_ret2
  exact ⟨_, _, rfl, by omega, S⟩
set_option maxRecDepth 100000 in
set_option maxHeartbeats 1000000 in
theorem blkD1 (c : Sl Int) (p : Nat) (kids ups : Int) (va : Bool) (inn : Bool) (a x y z : Int) (hd : Dr c p a x y z) (x1 : 0 ≤ x) (x2 : x ≤ 3) (y1 : 0 ≤ y) (y2 : y ≤ 3) (z1 : 0 ≤ z) (z2 : z ≤ 15) (k1 : 0 ≤ kids) (k2 : kids ≤ 3) (u1 : 0 ≤ ups) (u2 : ups ≤ 3) (hp : p ≤ 100000) (ca : a = 15) (cu : ups = 0) (ck : kids = 0) : BlkOk c p kids ups va inn := by
  refine ⟨[pI (9) (x) (y) (3)], by simp, U32.cons (pI_bd (by omega) (by omega) (by omega) (by omega) (by omega) (by omega) (by omega) (by omega)) (U32.nil), ?_⟩
  intro w v hC
  have B := Below.refl w.heap.size w
  obtain ⟨ha, hx, hy, hz⟩ := hd
  replace ha : Hid _ := ha
  replace hx : Hid _ := hx
  replace hy : Hid _ := hy
  replace hz : Hid _ := hz
  obtain ⟨ao, cap, rfl, hl0⟩ : ∃ ao cap, v = .slice ao c.n cap ∧ c.n ≤ 9223372036854775807 := by obtain ⟨⟨ao, cap, h1, h2, -⟩, -, -⟩ := hC; exact ⟨ao, cap, h1, h2⟩
  replace hC : Hid (IsCode w (.slice ao c.n cap) c) := hC
  go_enter Try.func26, Try.ntmps26
  go_wp2_with fail
  refine (l1Take_at c _ p p 30 w rfl hC.out (by omega) (by omega) ha.out).mono ?_
  rintro e w' ⟨rfl, rfl⟩
  go_wp2_with fail
  refine (l1Take_at c _ (p + 1) (p + 1) 4 _ (by omega) hC.out (by omega) (by omega) hx.out).mono ?_
  rintro e w' ⟨rfl, rfl⟩
  go_wp2_with fail
  refine (l1Take_at c _ (p + 2) (p + 1 + 1) 4 _ (by omega) hC.out (by omega) (by omega) hy.out).mono ?_
  rintro e w' ⟨rfl, rfl⟩
  go_wp2_with fail
  refine (l1Take_at c _ (p + 3) (p + 1 + 1 + 1) 16 _ (by omega) hC.out (by omega) (by omega) hz.out).mono ?_
  rintro e w' ⟨rfl, rfl⟩
  clear ha hx hy hz hC
  go_wp2_with fail
  refine (l4I_in (9) (x) (y) (3) _ (by omega) (by omega) (by omega) (by omega) (by omega) (by omega) (by omega) (by omega)).mono ?_
  rintro e y1 ⟨rfl, b1⟩
  replace B := B.trans (b1.mono B.size)
  clear b1
  have S := WS.lit B [pI (9) (x) (y) (3)] (by simp)
  go_wp2_with fail
  go_ret2
  exact ⟨_, _, rfl, by omega, S⟩
set_option maxRecDepth 100000 in
set_option maxHeartbeats 1000000 in
theorem blkD2 (c : Sl Int) (p : Nat) (kids ups : Int) (va : Bool) (inn : Bool) (a x y z : Int) (hd : Dr c p a x y z) (x1 : 0 ≤ x) (x2 : x ≤ 3) (y1 : 0 ≤ y) (y2 : y ≤ 3) (z1 : 0 ≤ z) (z2 : z ≤ 15) (k1 : 0 ≤ kids) (k2 : kids ≤ 3) (u1 : 0 ≤ ups) (u2 : ups ≤ 3) (hp : p ≤ 100000) (ca : 15 < a) (cb : a < 19) (cu : ups = 0) (ck : kids = 0) : BlkOk c p kids ups va inn := by
  refine ⟨[pI (9) (x) (y) (3)], by simp, U32.cons (pI_bd (by omega) (by omega) (by omega) (by omega) (by omega) (by omega) (by omega) (by omega)) (U32.nil), ?_⟩
  intro w v hC
  have B := Below.refl w.heap.size w
  obtain ⟨ha, hx, hy, hz⟩ := hd
  replace ha : Hid _ := ha
  replace hx : Hid _ := hx
  replace hy : Hid _ := hy
  replace hz : Hid _ := hz
  obtain ⟨ao, cap, rfl, hl0⟩ : ∃ ao cap, v = .slice ao c.n cap ∧ c.n ≤ 9223372036854775807 := by obtain ⟨⟨ao, cap, h1, h2, -⟩, -, -⟩ := hC; exact ⟨ao, cap, h1, h2⟩
  replace hC : Hid (IsCode w (.slice ao c.n cap) c) := hC
  go_enter Try.func26, Try.ntmps26
  go_wp2_with fail
  refine (l1Take_at c _ p p 30 w rfl hC.out (by omega) (by omega) ha.out).mono ?_
  rintro e w' ⟨rfl, rfl⟩
  go_wp2_with fail
  refine (l1Take_at c _ (p + 1) (p + 1) 4 _ (by omega) hC.out (by omega) (by omega) hx.out).mono ?_
  rintro e w' ⟨rfl, rfl⟩
  go_wp2_with fail
  refine (l1Take_at c _ (p + 2) (p + 1 + 1) 4 _ (by omega) hC.out (by omega) (by omega) hy.out).mono ?_
  rintro e w' ⟨rfl, rfl⟩
  go_wp2_with fail
  refine (l1Take_at c _ (p + 3) (p + 1 + 1 + 1) 16 _ (by omega) hC.out (by omega) (by omega) hz.out).mono ?_
  rintro e w' ⟨rfl, rfl⟩
  clear ha hx hy hz hC
  go_wp2_with fail
  refine (l4I_in (9) (x) (y) (3) _ (by omega) (by omega) (by omega) (by omega) (by omega) (by omega) (by omega) (by omega)).mono ?_
  rintro e y1 ⟨rfl, b1⟩
  replace B := B.trans (b1.mono B.size)
  clear b1
  have S := WS.lit B [pI (9) (x) (y) (3)] (by simp)
  go_wp2_with fail
  go_ret2
  exact ⟨_, _, rfl, by omega, S⟩
set_option maxRecDepth 100000 in
set_option maxHeartbeats 1000000 in
theorem blkD3 (c : Sl Int) (p : Nat) (kids ups : Int) (va : Bool) (inn : Bool) (a x y z : Int) (hd : Dr c p a x y z) (x1 : 0 ≤ x) (x2 : x ≤ 3) (y1 : 0 ≤ y) (y2 : y ≤ 3) (z1 : 0 ≤ z) (z2 : z ≤ 15) (k1 : 0 ≤ kids) (k2 : kids ≤ 3) (u1 : 0 ≤ ups) (u2 : ups ≤ 3) (hp : p ≤ 100000) (ca : 19 ≤ a) (cb : a < 23) (ck : kids = 0) : BlkOk c p kids ups va inn := by
  refine ⟨[pI (9) (x) (y) (3)], by simp, U32.cons (pI_bd (by omega) (by omega) (by omega) (by omega) (by omega) (by omega) (by omega) (by omega)) (U32.nil), ?_⟩
  intro w v hC
  have B := Below.refl w.heap.size w
  obtain ⟨ha, hx, hy, hz⟩ := hd
  replace ha : Hid _ := ha
  replace hx : Hid _ := hx
  replace hy : Hid _ := hy
  replace hz : Hid _ := hz
  obtain ⟨ao, cap, rfl, hl0⟩ : ∃ ao cap, v = .slice ao c.n cap ∧ c.n ≤ 9223372036854775807 := by obtain ⟨⟨ao, cap, h1, h2, -⟩, -, -⟩ := hC; exact ⟨ao, cap, h1, h2⟩
  replace hC : Hid (IsCode w (.slice ao c.n cap) c) := hC
  go_enter Try.func26, Try.ntmps26
  go_wp2_with fail
  refine (l1Take_at c _ p p 30 w rfl hC.out (by omega) (by omega) ha.out).mono ?_
  rintro e w' ⟨rfl, rfl⟩
  go_wp2_with fail
  refine (l1Take_at c _ (p + 1) (p + 1) 4 _ (by omega) hC.out (by omega) (by omega) hx.out).mono ?_
  rintro e w' ⟨rfl, rfl⟩
  go_wp2_with fail
  refine (l1Take_at c _ (p + 2) (p + 1 + 1) 4 _ (by omega) hC.out (by omega) (by omega) hy.out).mono ?_
  rintro e w' ⟨rfl, rfl⟩
  go_wp2_with fail
  refine (l1Take_at c _ (p + 3) (p + 1 + 1 + 1) 16 _ (by omega) hC.out (by omega) (by omega) hz.out).mono ?_
  rintro e w' ⟨rfl, rfl⟩
  clear ha hx hy hz hC
  go_wp2_with fail
  refine (l4I_in (9) (x) (y) (3) _ (by omega) (by omega) (by omega) (by omega) (by omega) (by omega) (by omega) (by omega)).mono ?_
  rintro e y1 ⟨rfl, b1⟩
  replace B := B.trans (b1.mono B.size)
  clear b1
  have S := WS.lit B [pI (9) (x) (y) (3)] (by simp)
  go_wp2_with fail
  go_ret2
  exact ⟨_, _, rfl, by omega, S⟩
set_option maxRecDepth 100000 in
set_option maxHeartbeats 1000000 in
theorem blkD4 (c : Sl Int) (p : Nat) (kids ups : Int) (va : Bool) (inn : Bool) (a x y z : Int) (hd : Dr c p a x y z) (x1 : 0 ≤ x) (x2 : x ≤ 3) (y1 : 0 ≤ y) (y2 : y ≤ 3) (z1 : 0 ≤ z) (z2 : z ≤ 15) (k1 : 0 ≤ kids) (k2 : kids ≤ 3) (u1 : 0 ≤ ups) (u2 : ups ≤ 3) (hp : p ≤ 100000) (ca : 23 ≤ a) (cb : a < 27) (ck : kids = 0) : BlkOk c p kids ups va inn := by
  refine ⟨[pI (9) (x) (y) (3)], by simp, U32.cons (pI_bd (by omega) (by omega) (by omega) (by omega) (by omega) (by omega) (by omega) (by omega)) (U32.nil), ?_⟩
  intro w v hC
  have B := Below.refl w.heap.size w
  obtain ⟨ha, hx, hy, hz⟩ := hd
  replace ha : Hid _ := ha
  replace hx : Hid _ := hx
  replace hy : Hid _ := hy
  replace hz : Hid _ := hz
  obtain ⟨ao, cap, rfl, hl0⟩ : ∃ ao cap, v = .slice ao c.n cap ∧ c.n ≤ 9223372036854775807 := by obtain ⟨⟨ao, cap, h1, h2, -⟩, -, -⟩ := hC; exact ⟨ao, cap, h1, h2⟩
  replace hC : Hid (IsCode w (.slice ao c.n cap) c) := hC
  go_enter Try.func26, Try.ntmps26
  go_wp2_with fail
  refine (l1Take_at c _ p p 30 w rfl hC.out (by omega) (by omega) ha.out).mono ?_
  rintro e w' ⟨rfl, rfl⟩
  go_wp2_with fail
  refine (l1Take_at c _ (p + 1) (p + 1) 4 _ (by omega) hC.out (by omega) (by omega) hx.out).mono ?_
  rintro e w' ⟨rfl, rfl⟩
  go_wp2_with fail
  refine (l1Take_at c _ (p + 2) (p + 1 + 1) 4 _ (by omega) hC.out (by omega) (by omega) hy.out).mono ?_
  rintro e w' ⟨rfl, rfl⟩
  go_wp2_with fail
  refine (l1Take_at c _ (p + 3) (p + 1 + 1 + 1) 16 _ (by omega) hC.out (by omega) (by omega) hz.out).mono ?_
  rintro e w' ⟨rfl, rfl⟩
  clear ha hx hy hz hC
  go_wp2_with fail
  refine (l4I_in (9) (x) (y) (3) _ (by omega) (by omega) (by omega) (by omega) (by omega) (by omega) (by omega) (by omega)).mono ?_
  rintro e y1 ⟨rfl, b1⟩
  replace B := B.trans (b1.mono B.size)
  clear b1
  have S := WS.lit B [pI (9) (x) (y) (3)] (by simp)
  go_wp2_with fail
  go_ret2
  exact ⟨_, _, rfl, by omega, S⟩
set_option maxRecDepth 100000 in
set_option maxHeartbeats 1000000 in
theorem blkD5 (c : Sl Int) (p : Nat) (kids ups : Int) (va : Bool) (a x y z : Int) (hd : Dr c p a x y z) (x1 : 0 ≤ x) (x2 : x ≤ 3) (y1 : 0 ≤ y) (y2 : y ≤ 3) (z1 : 0 ≤ z) (z2 : z ≤ 15) (k1 : 0 ≤ kids) (k2 : kids ≤ 3) (u1 : 0 ≤ ups) (u2 : ups ≤ 3) (hp : p ≤ 100000) (ca : a = 27) : BlkOk c p kids ups va false := by
  refine ⟨[pI (9) (x) (y) (3)], by simp, U32.cons (pI_bd (by omega) (by omega) (by omega) (by omega) (by omega) (by omega) (by omega) (by omega)) (U32.nil), ?_⟩
  intro w v hC
  have B := Below.refl w.heap.size w
  obtain ⟨ha, hx, hy, hz⟩ := hd
  replace ha : Hid _ := ha
  replace hx : Hid _ := hx
  replace hy : Hid _ := hy
  replace hz : Hid _ := hz
  obtain ⟨ao, cap, rfl, hl0⟩ : ∃ ao cap, v = .slice ao c.n cap ∧ c.n ≤ 9223372036854775807 := by obtain ⟨⟨ao, cap, h1, h2, -⟩, -, -⟩ := hC; exact ⟨ao, cap, h1, h2⟩
  replace hC : Hid (IsCode w (.slice ao c.n cap) c) := hC
  go_enter Try.func26, Try.ntmps26
  go_wp2_with fail
  refine (l1Take_at c _ p p 30 w rfl hC.out (by omega) (by omega) ha.out).mono ?_
  rintro e w' ⟨rfl, rfl⟩
  go_wp2_with fail
  refine (l1Take_at c _ (p + 1) (p + 1) 4 _ (by omega) hC.out (by omega) (by omega) hx.out).mono ?_
  rintro e w' ⟨rfl, rfl⟩
  go_wp2_with fail
  refine (l1Take_at c _ (p + 2) (p + 1 + 1) 4 _ (by omega) hC.out (by omega) (by omega) hy.out).mono ?_
  rintro e w' ⟨rfl, rfl⟩
  go_wp2_with fail
  refine (l1Take_at c _ (p + 3) (p + 1 + 1 + 1) 16 _ (by omega) hC.out (by omega) (by omega) hz.out).mono ?_
  rintro e w' ⟨rfl, rfl⟩
  clear ha hx hy hz hC
  go_wp2_with fail
  refine (l4I_in (9) (x) (y) (3) _ (by omega) (by omega) (by omega) (by omega) (by omega) (by omega) (by omega) (by omega)).mono ?_
  rintro e y1 ⟨rfl, b1⟩
  replace B := B.trans (b1.mono B.size)
  clear b1
  have S := WS.lit B [pI (9) (x) (y) (3)] (by simp)
  go_wp2_with fail
  go_ret2
  exact ⟨_, _, rfl, by omega, S⟩
set_option maxRecDepth 100000 in
set_option maxHeartbeats 1000000 in
theorem blkD6 (c : Sl Int) (p : Nat) (kids ups : Int) (a x y z : Int) (hd : Dr c p a x y z) (x1 : 0 ≤ x) (x2 : x ≤ 3) (y1 : 0 ≤ y) (y2 : y ≤ 3) (z1 : 0 ≤ z) (z2 : z ≤ 15) (k1 : 0 ≤ kids) (k2 : kids ≤ 3) (u1 : 0 ≤ ups) (u2 : ups ≤ 3) (hp : p ≤ 100000) (ca : a = 28) (cz : 4 ≤ z) : BlkOk c p kids ups false true := by
  refine ⟨[pI (9) (x) (y) (3)], by simp, U32.cons (pI_bd (by omega) (by omega) (by omega) (by omega) (by omega) (by omega) (by omega) (by omega)) (U32.nil), ?_⟩
  intro w v hC
  have B := Below.refl w.heap.size w
  obtain ⟨ha, hx, hy, hz⟩ := hd
  replace ha : Hid _ := ha
  replace hx : Hid _ := hx
  replace hy : Hid _ := hy
  replace hz : Hid _ := hz
  obtain ⟨ao, cap, rfl, hl0⟩ : ∃ ao cap, v = .slice ao c.n cap ∧ c.n ≤ 9223372036854775807 := by obtain ⟨⟨ao, cap, h1, h2, -⟩, -, -⟩ := hC; exact ⟨ao, cap, h1, h2⟩
  replace hC : Hid (IsCode w (.slice ao c.n cap) c) := hC
  go_enter Try.func26, Try.ntmps26
  go_wp2_with fail
  refine (l1Take_at c _ p p 30 w rfl hC.out (by omega) (by omega) ha.out).mono ?_
  rintro e w' ⟨rfl, rfl⟩
  go_wp2_with fail
  refine (l1Take_at c _ (p + 1) (p + 1) 4 _ (by omega) hC.out (by omega) (by omega) hx.out).mono ?_
  rintro e w' ⟨rfl, rfl⟩
  go_wp2_with fail
  refine (l1Take_at c _ (p + 2) (p + 1 + 1) 4 _ (by omega) hC.out (by omega) (by omega) hy.out).mono ?_
  rintro e w' ⟨rfl, rfl⟩
  go_wp2_with fail
  refine (l1Take_at c _ (p + 3) (p + 1 + 1 + 1) 16 _ (by omega) hC.out (by omega) (by omega) hz.out).mono ?_
  rintro e w' ⟨rfl, rfl⟩
  clear ha hx hy hz hC
  go_wp2_with fail
  refine (l4I_in (9) (x) (y) (3) _ (by omega) (by omega) (by omega) (by omega) (by omega) (by omega) (by omega) (by omega)).mono ?_
  rintro e y1 ⟨rfl, b1⟩
  replace B := B.trans (b1.mono B.size)
  clear b1
  have S := WS.lit B [pI (9) (x) (y) (3)] (by simp)
  go_wp2_with fail
  go_ret2
  exact ⟨_, _, rfl, by omega, S⟩
set_option maxRecDepth 100000 in
set_option maxHeartbeats 1000000 in
theorem blkD7 (c : Sl Int) (p : Nat) (kids ups : Int) (a x y z : Int) (hd : Dr c p a x y z) (x1 : 0 ≤ x) (x2 : x ≤ 3) (y1 : 0 ≤ y) (y2 : y ≤ 3) (z1 : 0 ≤ z) (z2 : z ≤ 15) (k1 : 0 ≤ kids) (k2 : kids ≤ 3) (u1 : 0 ≤ ups) (u2 : ups ≤ 3) (hp : p ≤ 100000) (ca : a = 28) : BlkOk c p kids ups false false := by
  refine ⟨[pI (9) (x) (y) (3)], by simp, U32.cons (pI_bd (by omega) (by omega) (by omega) (by omega) (by omega) (by omega) (by omega) (by omega)) (U32.nil), ?_⟩
  intro w v hC
  have B := Below.refl w.heap.size w
  obtain ⟨ha, hx, hy, hz⟩ := hd
  replace ha : Hid _ := ha
  replace hx : Hid _ := hx
  replace hy : Hid _ := hy
  replace hz : Hid _ := hz
  obtain ⟨ao, cap, rfl, hl0⟩ : ∃ ao cap, v = .slice ao c.n cap ∧ c.n ≤ 9223372036854775807 := by obtain ⟨⟨ao, cap, h1, h2, -⟩, -, -⟩ := hC; exact ⟨ao, cap, h1, h2⟩
  replace hC : Hid (IsCode w (.slice ao c.n cap) c) := hC
  go_enter Try.func26, Try.ntmps26
  go_wp2_with fail
  refine (l1Take_at c _ p p 30 w rfl hC.out (by omega) (by omega) ha.out).mono ?_
  rintro e w' ⟨rfl, rfl⟩
  go_wp2_with fail
  refine (l1Take_at c _ (p + 1) (p + 1) 4 _ (by omega) hC.out (by omega) (by omega) hx.out).mono ?_
  rintro e w' ⟨rfl, rfl⟩
  go_wp2_with fail
  refine (l1Take_at c _ (p + 2) (p + 1 + 1) 4 _ (by omega) hC.out (by omega) (by omega) hy.out).mono ?_
  rintro e w' ⟨rfl, rfl⟩
  go_wp2_with fail
  refine (l1Take_at c _ (p + 3) (p + 1 + 1 + 1) 16 _ (by omega) hC.out (by omega) (by omega) hz.out).mono ?_
  rintro e w' ⟨rfl, rfl⟩
  clear ha hx hy hz hC
  go_wp2_with fail
  refine (l4I_in (9) (x) (y) (3) _ (by omega) (by omega) (by omega) (by omega) (by omega) (by omega) (by omega) (by omega)).mono ?_
  rintro e y1 ⟨rfl, b1⟩
  replace B := B.trans (b1.mono B.size)
  clear b1
  have S := WS.lit B [pI (9) (x) (y) (3)] (by simp)
  go_wp2_with fail
  go_ret2
  exact ⟨_, _, rfl, by omega, S⟩
set_option maxRecDepth 100000 in
set_option maxHeartbeats 1000000 in
theorem blk11 (c : Sl Int) (p : Nat) (kids ups : Int) (va : Bool) (a x y z : Int) (hd : Dr c p a x y z) (x1 : 0 ≤ x) (x2 : x ≤ 3) (y1 : 0 ≤ y) (y2 : y ≤ 3) (z1 : 0 ≤ z) (z2 : z ≤ 15) (k1 : 0 ≤ kids) (k2 : kids ≤ 3) (u1 : 0 ≤ ups) (u2 : ups ≤ 3) (hp : p ≤ 100000) (ca : a = 27) : BlkOk c p kids ups va true := by
  refine ⟨[pI (0) (7) (x) (0), pI (31) (7) (z % 3) (1 + z % 2), pI (0) (y) (7) (0)], by simp, U32.cons (pI_bd (by omega) (by omega) (by omega) (by omega) (by omega) (by omega) (by omega) (by omega)) (U32.cons (pI_bd (by omega) (by omega) (by omega) (by omega) (by omega) (by omega) (by omega) (by omega)) (U32.cons (pI_bd (by omega) (by omega) (by omega) (by omega) (by omega) (by omega) (by omega) (by omega)) (U32.nil))), ?_⟩
  intro w v hC
  have B := Below.refl w.heap.size w
  obtain ⟨ha, hx, hy, hz⟩ := hd
  replace ha : Hid _ := ha
  replace hx : Hid _ := hx
  replace hy : Hid _ := hy
  replace hz : Hid _ := hz
  obtain ⟨ao, cap, rfl, hl0⟩ : ∃ ao cap, v = .slice ao c.n cap ∧ c.n ≤ 9223372036854775807 := by obtain ⟨⟨ao, cap, h1, h2, -⟩, -, -⟩ := hC; exact ⟨ao, cap, h1, h2⟩
  replace hC : Hid (IsCode w (.slice ao c.n cap) c) := hC
  go_enter Try.func26, Try.ntmps26
  go_wp2_with fail
  refine (l1Take_at c _ p p 30 w rfl hC.out (by omega) (by omega) ha.out).mono ?_
  rintro e w' ⟨rfl, rfl⟩
  go_wp2_with fail
  refine (l1Take_at c _ (p + 1) (p + 1) 4 _ (by omega) hC.out (by omega) (by omega) hx.out).mono ?_
  rintro e w' ⟨rfl, rfl⟩
  go_wp2_with fail
  refine (l1Take_at c _ (p + 2) (p + 1 + 1) 4 _ (by omega) hC.out (by omega) (by omega) hy.out).mono ?_
  rintro e w' ⟨rfl, rfl⟩
  go_wp2_with fail
  refine (l1Take_at c _ (p + 3) (p + 1 + 1 + 1) 16 _ (by omega) hC.out (by omega) (by omega) hz.out).mono ?_
  rintro e w' ⟨rfl, rfl⟩
  clear ha hx hy hz hC
  go_wp2_with fail
  refine (l4I_in (0) (7) (x) (0) _ (by omega) (by omega) (by omega) (by omega) (by omega) (by omega) (by omega) (by omega)).mono ?_
  rintro e y1 ⟨rfl, b1⟩
  replace B := B.trans (b1.mono B.size)
  clear b1
  go_wp2_with fail
  refine (l4I_in (31) (7) (z % 3) (1 + z % 2) _ (by omega) (by omega) (by omega) (by omega) (by omega) (by omega) (by omega) (by omega)).mono ?_
  rintro e y2 ⟨rfl, b2⟩
  replace B := B.trans (b2.mono B.size)
  clear b2
  go_wp2_with fail
  refine (l4I_in (0) (y) (7) (0) _ (by omega) (by omega) (by omega) (by omega) (by omega) (by omega) (by omega) (by omega)).mono ?_
  rintro e y3 ⟨rfl, b3⟩
  replace B := B.trans (b3.mono B.size)
  clear b3
  have S := WS.lit B [pI (0) (7) (x) (0), pI (31) (7) (z % 3) (1 + z % 2), pI (0) (y) (7) (0)] (by simp)
  go_wp2_with fail
  go_ret2
  exact ⟨_, _, rfl, by omega, S⟩
set_option maxRecDepth 100000 in
set_option maxHeartbeats 1000000 in
theorem blk12 (c : Sl Int) (p : Nat) (kids ups : Int) (va : Bool) (a x y z : Int) (hd : Dr c p a x y z) (x1 : 0 ≤ x) (x2 : x ≤ 3) (y1 : 0 ≤ y) (y2 : y ≤ 3) (z1 : 0 ≤ z) (z2 : z ≤ 15) (k1 : 0 ≤ kids) (k2 : kids ≤ 3) (u1 : 0 ≤ ups) (u2 : ups ≤ 3) (hp : p ≤ 100000) (ca : a = 28) (cz : z < 4) : BlkOk c p kids ups va true := by
  refine ⟨[pI (0) (7) (x) (0), pI (31) (7) (1) (511), pI (23) (7) (511) (0)], by simp, U32.cons (pI_bd (by omega) (by omega) (by omega) (by omega) (by omega) (by omega) (by omega) (by omega)) (U32.cons (pI_bd (by omega) (by omega) (by omega) (by omega) (by omega) (by omega) (by omega) (by omega)) (U32.cons (pI_bd (by omega) (by omega) (by omega) (by omega) (by omega) (by omega) (by omega) (by omega)) (U32.nil))), ?_⟩
  intro w v hC
  have B := Below.refl w.heap.size w
  obtain ⟨ha, hx, hy, hz⟩ := hd
  replace ha : Hid _ := ha
  replace hx : Hid _ := hx
  replace hy : Hid _ := hy
  replace hz : Hid _ := hz
  obtain ⟨ao, cap, rfl, hl0⟩ : ∃ ao cap, v = .slice ao c.n cap ∧ c.n ≤ 9223372036854775807 := by obtain ⟨⟨ao, cap, h1, h2, -⟩, -, -⟩ := hC; exact ⟨ao, cap, h1, h2⟩
  replace hC : Hid (IsCode w (.slice ao c.n cap) c) := hC
  go_enter Try.func26, Try.ntmps26
  go_wp2_with fail
  refine (l1Take_at c _ p p 30 w rfl hC.out (by omega) (by omega) ha.out).mono ?_
  rintro e w' ⟨rfl, rfl⟩
  go_wp2_with fail
  refine (l1Take_at c _ (p + 1) (p + 1) 4 _ (by omega) hC.out (by omega) (by omega) hx.out).mono ?_
  rintro e w' ⟨rfl, rfl⟩
  go_wp2_with fail
  refine (l1Take_at c _ (p + 2) (p + 1 + 1) 4 _ (by omega) hC.out (by omega) (by omega) hy.out).mono ?_
  rintro e w' ⟨rfl, rfl⟩
  go_wp2_with fail
  refine (l1Take_at c _ (p + 3) (p + 1 + 1 + 1) 16 _ (by omega) hC.out (by omega) (by omega) hz.out).mono ?_
  rintro e w' ⟨rfl, rfl⟩
  clear ha hx hy hz hC
  go_wp2_with fail
  refine (l4I_in (0) (7) (x) (0) _ (by omega) (by omega) (by omega) (by omega) (by omega) (by omega) (by omega) (by omega)).mono ?_
  rintro e y1 ⟨rfl, b1⟩
  replace B := B.trans (b1.mono B.size)
  clear b1
  go_wp2_with fail
  refine (l4I_in (31) (7) (1) (511) _ (by omega) (by omega) (by omega) (by omega) (by omega) (by omega) (by omega) (by omega)).mono ?_
  rintro e y2 ⟨rfl, b2⟩
  replace B := B.trans (b2.mono B.size)
  clear b2
  go_wp2_with fail
  refine (l4I_in (23) (7) (511) (0) _ (by omega) (by omega) (by omega) (by omega) (by omega) (by omega) (by omega) (by omega)).mono ?_
  rintro e y3 ⟨rfl, b3⟩
  replace B := B.trans (b3.mono B.size)
  clear b3
  have S := WS.lit B [pI (0) (7) (x) (0), pI (31) (7) (1) (511), pI (23) (7) (511) (0)] (by simp)
  go_wp2_with fail
  go_ret2
  exact ⟨_, _, rfl, by omega, S⟩
set_option maxRecDepth 100000 in
set_option maxHeartbeats 1000000 in
theorem blk13a (c : Sl Int) (p : Nat) (kids ups : Int) (a x y z : Int) (hd : Dr c p a x y z) (x1 : 0 ≤ x) (x2 : x ≤ 3) (y1 : 0 ≤ y) (y2 : y ≤ 3) (z1 : 0 ≤ z) (z2 : z ≤ 15) (k1 : 0 ≤ kids) (k2 : kids ≤ 3) (u1 : 0 ≤ ups) (u2 : ups ≤ 3) (hp : p ≤ 100000) (ca : a = 28) (cz : 4 ≤ z) : BlkOk c p kids ups true true := by
  refine ⟨[pI (24) (7) (2) (0), pI (0) (x) (7) (0)], by simp, U32.cons (pI_bd (by omega) (by omega) (by omega) (by omega) (by omega) (by omega) (by omega) (by omega)) (U32.cons (pI_bd (by omega) (by omega) (by omega) (by omega) (by omega) (by omega) (by omega) (by omega)) (U32.nil)), ?_⟩
  intro w v hC
  have B := Below.refl w.heap.size w
  obtain ⟨ha, hx, hy, hz⟩ := hd
  replace ha : Hid _ := ha
  replace hx : Hid _ := hx
  replace hy : Hid _ := hy
  replace hz : Hid _ := hz
  obtain ⟨ao, cap, rfl, hl0⟩ : ∃ ao cap, v = .slice ao c.n cap ∧ c.n ≤ 9223372036854775807 := by obtain ⟨⟨ao, cap, h1, h2, -⟩, -, -⟩ := hC; exact ⟨ao, cap, h1, h2⟩
  replace hC : Hid (IsCode w (.slice ao c.n cap) c) := hC
  go_enter Try.func26, Try.ntmps26
  go_wp2_with fail
  refine (l1Take_at c _ p p 30 w rfl hC.out (by omega) (by omega) ha.out).mono ?_
  rintro e w' ⟨rfl, rfl⟩
  go_wp2_with fail
  refine (l1Take_at c _ (p + 1) (p + 1) 4 _ (by omega) hC.out (by omega) (by omega) hx.out).mono ?_
  rintro e w' ⟨rfl, rfl⟩
  go_wp2_with fail
  refine (l1Take_at c _ (p + 2) (p + 1 + 1) 4 _ (by omega) hC.out (by omega) (by omega) hy.out).mono ?_
  rintro e w' ⟨rfl, rfl⟩
  go_wp2_with fail
  refine (l1Take_at c _ (p + 3) (p + 1 + 1 + 1) 16 _ (by omega) hC.out (by omega) (by omega) hz.out).mono ?_
  rintro e w' ⟨rfl, rfl⟩
  clear ha hx hy hz hC
  go_wp2_with fail
  refine (l4I_in (24) (7) (2) (0) _ (by omega) (by omega) (by omega) (by omega) (by omega) (by omega) (by omega) (by omega)).mono ?_
  rintro e y1 ⟨rfl, b1⟩
  replace B := B.trans (b1.mono B.size)
  clear b1
  go_wp2_with fail
  refine (l4I_in (0) (x) (7) (0) _ (by omega) (by omega) (by omega) (by omega) (by omega) (by omega) (by omega) (by omega)).mono ?_
  rintro e y2 ⟨rfl, b2⟩
  replace B := B.trans (b2.mono B.size)
  clear b2
  have S := WS.lit B [pI (24) (7) (2) (0), pI (0) (x) (7) (0)] (by simp)
  go_wp2_with fail
  go_ret2
  exact ⟨_, _, rfl, by omega, S⟩
set_option maxRecDepth 100000 in
set_option maxHeartbeats 1000000 in
theorem blk13b (c : Sl Int) (p : Nat) (kids ups : Int) (a x y z : Int) (hd : Dr c p a x y z) (x1 : 0 ≤ x) (x2 : x ≤ 3) (y1 : 0 ≤ y) (y2 : y ≤ 3) (z1 : 0 ≤ z) (z2 : z ≤ 15) (k1 : 0 ≤ kids) (k2 : kids ≤ 3) (u1 : 0 ≤ ups) (u2 : ups ≤ 3) (hp : p ≤ 100000) (ca : a = 28) : BlkOk c p kids ups true false := by
  refine ⟨[pI (24) (7) (2) (0), pI (0) (x) (7) (0)], by simp, U32.cons (pI_bd (by omega) (by omega) (by omega) (by omega) (by omega) (by omega) (by omega) (by omega)) (U32.cons (pI_bd (by omega) (by omega) (by omega) (by omega) (by omega) (by omega) (by omega) (by omega)) (U32.nil)), ?_⟩
  intro w v hC
  have B := Below.refl w.heap.size w
  obtain ⟨ha, hx, hy, hz⟩ := hd
  replace ha : Hid _ := ha
  replace hx : Hid _ := hx
  replace hy : Hid _ := hy
  replace hz : Hid _ := hz
  obtain ⟨ao, cap, rfl, hl0⟩ : ∃ ao cap, v = .slice ao c.n cap ∧ c.n ≤ 9223372036854775807 := by obtain ⟨⟨ao, cap, h1, h2, -⟩, -, -⟩ := hC; exact ⟨ao, cap, h1, h2⟩
  replace hC : Hid (IsCode w (.slice ao c.n cap) c) := hC
  go_enter Try.func26, Try.ntmps26
  go_wp2_with fail
  refine (l1Take_at c _ p p 30 w rfl hC.out (by omega) (by omega) ha.out).mono ?_
  rintro e w' ⟨rfl, rfl⟩
  go_wp2_with fail
  refine (l1Take_at c _ (p + 1) (p + 1) 4 _ (by omega) hC.out (by omega) (by omega) hx.out).mono ?_
  rintro e w' ⟨rfl, rfl⟩
  go_wp2_with fail
  refine (l1Take_at c _ (p + 2) (p + 1 + 1) 4 _ (by omega) hC.out (by omega) (by omega) hy.out).mono ?_
  rintro e w' ⟨rfl, rfl⟩
  go_wp2_with fail
  refine (l1Take_at c _ (p + 3) (p + 1 + 1 + 1) 16 _ (by omega) hC.out (by omega) (by omega) hz.out).mono ?_
  rintro e w' ⟨rfl, rfl⟩
  clear ha hx hy hz hC
  go_wp2_with fail
  refine (l4I_in (24) (7) (2) (0) _ (by omega) (by omega) (by omega) (by omega) (by omega) (by omega) (by omega) (by omega)).mono ?_
  rintro e y1 ⟨rfl, b1⟩
  replace B := B.trans (b1.mono B.size)
  clear b1
  go_wp2_with fail
  refine (l4I_in (0) (x) (7) (0) _ (by omega) (by omega) (by omega) (by omega) (by omega) (by omega) (by omega) (by omega)).mono ?_
  rintro e y2 ⟨rfl, b2⟩
  replace B := B.trans (b2.mono B.size)
  clear b2
  have S := WS.lit B [pI (24) (7) (2) (0), pI (0) (x) (7) (0)] (by simp)
  go_wp2_with fail
  go_ret2
  exact ⟨_, _, rfl, by omega, S⟩
set_option maxRecDepth 100000 in
set_option maxHeartbeats 1000000 in
theorem blk14 (c : Sl Int) (p : Nat) (kids ups : Int) (va : Bool) (inn : Bool) (a x y z : Int) (hd : Dr c p a x y z) (x1 : 0 ≤ x) (x2 : x ≤ 3) (y1 : 0 ≤ y) (y2 : y ≤ 3) (z1 : 0 ≤ z) (z2 : z ≤ 15) (k1 : 0 ≤ kids) (k2 : kids ≤ 3) (u1 : 0 ≤ ups) (u2 : ups ≤ 3) (hp : p ≤ 100000) (ca : a = 29) (cz : z = 0) : BlkOk c p kids ups va inn := by
  refine ⟨[pI (33) (x) (0) (0)], by simp, U32.cons (pI_bd (by omega) (by omega) (by omega) (by omega) (by omega) (by omega) (by omega) (by omega)) (U32.nil), ?_⟩
  intro w v hC
  have B := Below.refl w.heap.size w
  obtain ⟨ha, hx, hy, hz⟩ := hd
  replace ha : Hid _ := ha
  replace hx : Hid _ := hx
  replace hy : Hid _ := hy
  replace hz : Hid _ := hz
  obtain ⟨ao, cap, rfl, hl0⟩ : ∃ ao cap, v = .slice ao c.n cap ∧ c.n ≤ 9223372036854775807 := by obtain ⟨⟨ao, cap, h1, h2, -⟩, -, -⟩ := hC; exact ⟨ao, cap, h1, h2⟩
  replace hC : Hid (IsCode w (.slice ao c.n cap) c) := hC
  go_enter Try.func26, Try.ntmps26
  go_wp2_with fail
  refine (l1Take_at c _ p p 30 w rfl hC.out (by omega) (by omega) ha.out).mono ?_
  rintro e w' ⟨rfl, rfl⟩
  go_wp2_with fail
  refine (l1Take_at c _ (p + 1) (p + 1) 4 _ (by omega) hC.out (by omega) (by omega) hx.out).mono ?_
  rintro e w' ⟨rfl, rfl⟩
  go_wp2_with fail
  refine (l1Take_at c _ (p + 2) (p + 1 + 1) 4 _ (by omega) hC.out (by omega) (by omega) hy.out).mono ?_
  rintro e w' ⟨rfl, rfl⟩
  go_wp2_with fail
  refine (l1Take_at c _ (p + 3) (p + 1 + 1 + 1) 16 _ (by omega) hC.out (by omega) (by omega) hz.out).mono ?_
  rintro e w' ⟨rfl, rfl⟩
  clear ha hx hy hz hC
  go_wp2_with fail
  refine (l4I_in (33) (x) (0) (0) _ (by omega) (by omega) (by omega) (by omega) (by omega) (by omega) (by omega) (by omega)).mono ?_
  rintro e y1 ⟨rfl, b1⟩
  replace B := B.trans (b1.mono B.size)
  clear b1
  have S := WS.lit B [pI (33) (x) (0) (0)] (by simp)
  go_wp2_with fail
  go_ret2
  exact ⟨_, _, rfl, by omega, S⟩
set_option maxRecDepth 100000 in
set_option maxHeartbeats 1000000 in
theorem blk15 (c : Sl Int) (p : Nat) (kids ups : Int) (va : Bool) (inn : Bool) (a x y z : Int) (hd : Dr c p a x y z) (x1 : 0 ≤ x) (x2 : x ≤ 3) (y1 : 0 ≤ y) (y2 : y ≤ 3) (z1 : 0 ≤ z) (z2 : z ≤ 15) (k1 : 0 ≤ kids) (k2 : kids ≤ 3) (u1 : 0 ≤ ups) (u2 : ups ≤ 3) (hp : p ≤ 100000) (ca : a = 29) (cz : z ≠ 0) : BlkOk c p kids ups va inn := by
  refine ⟨[pI (3) (10) (z % 2) (0), pI (26) (z % 12) (0) (0), pI (6) (11) (0) (0), pI (8) (11) (5) (10), pI (7) (9) (11) (5)], by simp, U32.cons (pI_bd (by omega) (by omega) (by omega) (by omega) (by omega) (by omega) (by omega) (by omega)) (U32.cons (pI_bd (by omega) (by omega) (by omega) (by omega) (by omega) (by omega) (by omega) (by omega)) (U32.cons (pI_bd (by omega) (by omega) (by omega) (by omega) (by omega) (by omega) (by omega) (by omega)) (U32.cons (pI_bd (by omega) (by omega) (by omega) (by omega) (by omega) (by omega) (by omega) (by omega)) (U32.cons (pI_bd (by omega) (by omega) (by omega) (by omega) (by omega) (by omega) (by omega) (by omega)) (U32.nil))))), ?_⟩
  intro w v hC
  have B := Below.refl w.heap.size w
  obtain ⟨ha, hx, hy, hz⟩ := hd
  replace ha : Hid _ := ha
  replace hx : Hid _ := hx
  replace hy : Hid _ := hy
  replace hz : Hid _ := hz
  obtain ⟨ao, cap, rfl, hl0⟩ : ∃ ao cap, v = .slice ao c.n cap ∧ c.n ≤ 9223372036854775807 := by obtain ⟨⟨ao, cap, h1, h2, -⟩, -, -⟩ := hC; exact ⟨ao, cap, h1, h2⟩
  replace hC : Hid (IsCode w (.slice ao c.n cap) c) := hC
  go_enter Try.func26, Try.ntmps26
  go_wp2_with fail
  refine (l1Take_at c _ p p 30 w rfl hC.out (by omega) (by omega) ha.out).mono ?_
  rintro e w' ⟨rfl, rfl⟩
  go_wp2_with fail
  refine (l1Take_at c _ (p + 1) (p + 1) 4 _ (by omega) hC.out (by omega) (by omega) hx.out).mono ?_
  rintro e w' ⟨rfl, rfl⟩
  go_wp2_with fail
  refine (l1Take_at c _ (p + 2) (p + 1 + 1) 4 _ (by omega) hC.out (by omega) (by omega) hy.out).mono ?_
  rintro e w' ⟨rfl, rfl⟩
  go_wp2_with fail
  refine (l1Take_at c _ (p + 3) (p + 1 + 1 + 1) 16 _ (by omega) hC.out (by omega) (by omega) hz.out).mono ?_
  rintro e w' ⟨rfl, rfl⟩
  clear ha hx hy hz hC
  go_wp2_with fail
  refine (l4I_in (3) (10) (z % 2) (0) _ (by omega) (by omega) (by omega) (by omega) (by omega) (by omega) (by omega) (by omega)).mono ?_
  rintro e y1 ⟨rfl, b1⟩
  replace B := B.trans (b1.mono B.size)
  clear b1
  go_wp2_with fail
  refine (l4I_in (26) (z % 12) (0) (0) _ (by omega) (by omega) (by omega) (by omega) (by omega) (by omega) (by omega) (by omega)).mono ?_
  rintro e y2 ⟨rfl, b2⟩
  replace B := B.trans (b2.mono B.size)
  clear b2
  go_wp2_with fail
  refine (l4I_in (6) (11) (0) (0) _ (by omega) (by omega) (by omega) (by omega) (by omega) (by omega) (by omega) (by omega)).mono ?_
  rintro e y3 ⟨rfl, b3⟩
  replace B := B.trans (b3.mono B.size)
  clear b3
  go_wp2_with fail
  refine (l4I_in (8) (11) (5) (10) _ (by omega) (by omega) (by omega) (by omega) (by omega) (by omega) (by omega) (by omega)).mono ?_
  rintro e y4 ⟨rfl, b4⟩
  replace B := B.trans (b4.mono B.size)
  clear b4
  go_wp2_with fail
  refine (l4I_in (7) (9) (11) (5) _ (by omega) (by omega) (by omega) (by omega) (by omega) (by omega) (by omega) (by omega)).mono ?_
  rintro e y5 ⟨rfl, b5⟩
  replace B := B.trans (b5.mono B.size)
  clear b5
  have S := WS.lit B [pI (3) (10) (z % 2) (0), pI (26) (z % 12) (0) (0), pI (6) (11) (0) (0), pI (8) (11) (5) (10), pI (7) (9) (11) (5)] (by simp)
  go_wp2_with fail
  go_ret2
  exact ⟨_, _, rfl, by omega, S⟩
set_option maxRecDepth 100000 in
set_option maxHeartbeats 1000000 in
theorem blk9a (c : Sl Int) (p : Nat) (kids ups : Int) (va : Bool) (inn : Bool) (a x y z : Int) (hd : Dr c p a x y z) (x1 : 0 ≤ x) (x2 : x ≤ 3) (y1 : 0 ≤ y) (y2 : y ≤ 3) (z1 : 0 ≤ z) (z2 : z ≤ 15) (k1 : 0 ≤ kids) (k2 : kids ≤ 3) (u1 : 0 ≤ ups) (u2 : ups ≤ 3) (hp : p ≤ 100000) (ca : a = 15) (cu : ups = 0) (ck : 0 < kids) : BlkOk c p kids ups va inn := by
  obtain ⟨L, hl, hu, hcb⟩ := l4CallBlock_in x y z kids ⟨x1, x2⟩ ⟨y1, y2⟩ ⟨z1, z2⟩ ⟨by omega, k2⟩
  replace hcb : Hid _ := hcb
  refine ⟨L, by omega, hu, ?_⟩
  intro w v hC
  have B := Below.refl w.heap.size w
  obtain ⟨ha, hx, hy, hz⟩ := hd
  replace ha : Hid _ := ha
  replace hx : Hid _ := hx
  replace hy : Hid _ := hy
  replace hz : Hid _ := hz
  obtain ⟨ao, cap, rfl, hl0⟩ : ∃ ao cap, v = .slice ao c.n cap ∧ c.n ≤ 9223372036854775807 := by obtain ⟨⟨ao, cap, h1, h2, -⟩, -, -⟩ := hC; exact ⟨ao, cap, h1, h2⟩
  replace hC : Hid (IsCode w (.slice ao c.n cap) c) := hC
  go_enter Try.func26, Try.ntmps26
  go_wp2_with fail
  refine (l1Take_at c _ p p 30 w rfl hC.out (by omega) (by omega) ha.out).mono ?_
  rintro e w' ⟨rfl, rfl⟩
  go_wp2_with fail
  refine (l1Take_at c _ (p + 1) (p + 1) 4 _ (by omega) hC.out (by omega) (by omega) hx.out).mono ?_
  rintro e w' ⟨rfl, rfl⟩
  go_wp2_with fail
  refine (l1Take_at c _ (p + 2) (p + 1 + 1) 4 _ (by omega) hC.out (by omega) (by omega) hy.out).mono ?_
  rintro e w' ⟨rfl, rfl⟩
  go_wp2_with fail
  refine (l1Take_at c _ (p + 3) (p + 1 + 1 + 1) 16 _ (by omega) hC.out (by omega) (by omega) hz.out).mono ?_
  rintro e w' ⟨rfl, rfl⟩
  clear ha hx hy hz hC
  go_wp2_with fail
  refine Calls.mono (hcb.out _) ?_
  rintro e w' ⟨u, rfl, S⟩
  go_wp2_with fail
  go_ret2
  exact ⟨_, _, rfl, by omega, S⟩
set_option maxRecDepth 100000 in
set_option maxHeartbeats 1000000 in
theorem blk9b (c : Sl Int) (p : Nat) (kids ups : Int) (va : Bool) (inn : Bool) (a x y z : Int) (hd : Dr c p a x y z) (x1 : 0 ≤ x) (x2 : x ≤ 3) (y1 : 0 ≤ y) (y2 : y ≤ 3) (z1 : 0 ≤ z) (z2 : z ≤ 15) (k1 : 0 ≤ kids) (k2 : kids ≤ 3) (u1 : 0 ≤ ups) (u2 : ups ≤ 3) (hp : p ≤ 100000) (ca : 15 < a) (cb : a < 19) (cu : ups = 0) (ck : 0 < kids) : BlkOk c p kids ups va inn := by
  obtain ⟨L, hl, hu, hcb⟩ := l4CallBlock_in x y z kids ⟨x1, x2⟩ ⟨y1, y2⟩ ⟨z1, z2⟩ ⟨by omega, k2⟩
  replace hcb : Hid _ := hcb
  refine ⟨L, by omega, hu, ?_⟩
  intro w v hC
  have B := Below.refl w.heap.size w
  obtain ⟨ha, hx, hy, hz⟩ := hd
  replace ha : Hid _ := ha
  replace hx : Hid _ := hx
  replace hy : Hid _ := hy
  replace hz : Hid _ := hz
  obtain ⟨ao, cap, rfl, hl0⟩ : ∃ ao cap, v = .slice ao c.n cap ∧ c.n ≤ 9223372036854775807 := by obtain ⟨⟨ao, cap, h1, h2, -⟩, -, -⟩ := hC; exact ⟨ao, cap, h1, h2⟩
  replace hC : Hid (IsCode w (.slice ao c.n cap) c) := hC
  go_enter Try.func26, Try.ntmps26
  go_wp2_with fail
  refine (l1Take_at c _ p p 30 w rfl hC.out (by omega) (by omega) ha.out).mono ?_
  rintro e w' ⟨rfl, rfl⟩
  go_wp2_with fail
  refine (l1Take_at c _ (p + 1) (p + 1) 4 _ (by omega) hC.out (by omega) (by omega) hx.out).mono ?_
  rintro e w' ⟨rfl, rfl⟩
  go_wp2_with fail
  refine (l1Take_at c _ (p + 2) (p + 1 + 1) 4 _ (by omega) hC.out (by omega) (by omega) hy.out).mono ?_
  rintro e w' ⟨rfl, rfl⟩
  go_wp2_with fail
  refine (l1Take_at c _ (p + 3) (p + 1 + 1 + 1) 16 _ (by omega) hC.out (by omega) (by omega) hz.out).mono ?_
  rintro e w' ⟨rfl, rfl⟩
  clear ha hx hy hz hC
  go_wp2_with fail
  refine Calls.mono (hcb.out _) ?_
  rintro e w' ⟨u, rfl, S⟩
  go_wp2_with fail
  go_ret2
  exact ⟨_, _, rfl, by omega, S⟩
set_option maxRecDepth 100000 in
set_option maxHeartbeats 1000000 in
theorem blk9c (c : Sl Int) (p : Nat) (kids ups : Int) (va : Bool) (inn : Bool) (a x y z : Int) (hd : Dr c p a x y z) (x1 : 0 ≤ x) (x2 : x ≤ 3) (y1 : 0 ≤ y) (y2 : y ≤ 3) (z1 : 0 ≤ z) (z2 : z ≤ 15) (k1 : 0 ≤ kids) (k2 : kids ≤ 3) (u1 : 0 ≤ ups) (u2 : ups ≤ 3) (hp : p ≤ 100000) (ca : 19 ≤ a) (cb : a < 23) (ck : 0 < kids) : BlkOk c p kids ups va inn := by
  obtain ⟨L, hl, hu, hcb⟩ := l4CallBlock_in x y z kids ⟨x1, x2⟩ ⟨y1, y2⟩ ⟨z1, z2⟩ ⟨by omega, k2⟩
  replace hcb : Hid _ := hcb
  refine ⟨L, by omega, hu, ?_⟩
  intro w v hC
  have B := Below.refl w.heap.size w
  obtain ⟨ha, hx, hy, hz⟩ := hd
  replace ha : Hid _ := ha
  replace hx : Hid _ := hx
  replace hy : Hid _ := hy
  replace hz : Hid _ := hz
  obtain ⟨ao, cap, rfl, hl0⟩ : ∃ ao cap, v = .slice ao c.n cap ∧ c.n ≤ 9223372036854775807 := by obtain ⟨⟨ao, cap, h1, h2, -⟩, -, -⟩ := hC; exact ⟨ao, cap, h1, h2⟩
  replace hC : Hid (IsCode w (.slice ao c.n cap) c) := hC
  go_enter Try.func26, Try.ntmps26
  go_wp2_with fail
  refine (l1Take_at c _ p p 30 w rfl hC.out (by omega) (by omega) ha.out).mono ?_
  rintro e w' ⟨rfl, rfl⟩
  go_wp2_with fail
  refine (l1Take_at c _ (p + 1) (p + 1) 4 _ (by omega) hC.out (by omega) (by omega) hx.out).mono ?_
  rintro e w' ⟨rfl, rfl⟩
  go_wp2_with fail
  refine (l1Take_at c _ (p + 2) (p + 1 + 1) 4 _ (by omega) hC.out (by omega) (by omega) hy.out).mono ?_
  rintro e w' ⟨rfl, rfl⟩
  go_wp2_with fail
  refine (l1Take_at c _ (p + 3) (p + 1 + 1 + 1) 16 _ (by omega) hC.out (by omega) (by omega) hz.out).mono ?_
  rintro e w' ⟨rfl, rfl⟩
  clear ha hx hy hz hC
  go_wp2_with fail
  refine Calls.mono (hcb.out _) ?_
  rintro e w' ⟨u, rfl, S⟩
  go_wp2_with fail
  go_ret2
  exact ⟨_, _, rfl, by omega, S⟩
set_option maxRecDepth 100000 in
set_option maxHeartbeats 1000000 in
theorem blk10 (c : Sl Int) (p : Nat) (kids ups : Int) (va : Bool) (inn : Bool) (a x y z : Int) (hd : Dr c p a x y z) (x1 : 0 ≤ x) (x2 : x ≤ 3) (y1 : 0 ≤ y) (y2 : y ≤ 3) (z1 : 0 ≤ z) (z2 : z ≤ 15) (k1 : 0 ≤ kids) (k2 : kids ≤ 3) (u1 : 0 ≤ ups) (u2 : ups ≤ 3) (hp : p ≤ 100000) (ca : 23 ≤ a) (cb : a < 27) (ck : 0 < kids) : BlkOk c p kids ups va inn := by
  obtain ⟨L, hl, hu, hcb⟩ := l4ThreadBlock_in x y z kids ⟨x1, x2⟩ ⟨y1, y2⟩ ⟨z1, z2⟩ ⟨by omega, k2⟩
  replace hcb : Hid _ := hcb
  refine ⟨L, by omega, hu, ?_⟩
  intro w v hC
  have B := Below.refl w.heap.size w
  obtain ⟨ha, hx, hy, hz⟩ := hd
  replace ha : Hid _ := ha
  replace hx : Hid _ := hx
  replace hy : Hid _ := hy
  replace hz : Hid _ := hz
  obtain ⟨ao, cap, rfl, hl0⟩ : ∃ ao cap, v = .slice ao c.n cap ∧ c.n ≤ 9223372036854775807 := by obtain ⟨⟨ao, cap, h1, h2, -⟩, -, -⟩ := hC; exact ⟨ao, cap, h1, h2⟩
  replace hC : Hid (IsCode w (.slice ao c.n cap) c) := hC
  go_enter Try.func26, Try.ntmps26
  go_wp2_with fail
  refine (l1Take_at c _ p p 30 w rfl hC.out (by omega) (by omega) ha.out).mono ?_
  rintro e w' ⟨rfl, rfl⟩
  go_wp2_with fail
  refine (l1Take_at c _ (p + 1) (p + 1) 4 _ (by omega) hC.out (by omega) (by omega) hx.out).mono ?_
  rintro e w' ⟨rfl, rfl⟩
  go_wp2_with fail
  refine (l1Take_at c _ (p + 2) (p + 1 + 1) 4 _ (by omega) hC.out (by omega) (by omega) hy.out).mono ?_
  rintro e w' ⟨rfl, rfl⟩
  go_wp2_with fail
  refine (l1Take_at c _ (p + 3) (p + 1 + 1 + 1) 16 _ (by omega) hC.out (by omega) (by omega) hz.out).mono ?_
  rintro e w' ⟨rfl, rfl⟩
  clear ha hx hy hz hC
  go_wp2_with fail
  refine Calls.mono (hcb.out _) ?_
  rintro e w' ⟨u, rfl, S⟩
  go_wp2_with fail
  go_ret2
  exact ⟨_, _, rfl, by omega, S⟩
end Go.Proofs.Ytlkmohhkhcbiaaa

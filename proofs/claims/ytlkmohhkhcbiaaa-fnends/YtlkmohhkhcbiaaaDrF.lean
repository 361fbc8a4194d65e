import Derived.Test.YtlkmohhkhcbiaaaDrD
namespace Go.Proofs.Ytlkmohhkhcbiaaa
open Go.RowKit
set_option linter.unusedVariables false
set_option linter.unusedSimpArgs false
theorem l1Take_to (c : Sl Int) (v : Value) (p : Nat) (P n : Int) (w : World) (hP : P = (p : Int)) (hC : IsCode w v c) (hp : p ≤ 1000000) (hn : n ≤ 1000000) {x : Int} (hx : tk c p n = x) :
    Calls Try.prog 7 #[v, .int .i64 P, .int .i64 n] w fun e w' => e = .returned (.tuple #[.int .i64 x, .int .i64 (P + 1)]) ∧ w = w' :=
  (l1Take_at c v p P n w hP hC hp hn hx).mono fun e w' ⟨h1, h2⟩ => ⟨h1, h2.symm⟩
/-- two lists of words. -/
structure WS2 (w0 y : World) (v : Value) (L : List Int) (u : Value) (M : List Int) : Prop where
  out : WS w0 y v L
  body : y.ownsRow w0.heap.size 51 1 u M.length (M.map (Value.int .u32))
  ne : ∀ k, u.ownBlock = some k → v.ownBlock ≠ some k
theorem WS2.swap {w0 y : World} {v u : Value} {L M : List Int} (h : WS2 w0 y v L u M) : WS2 w0 y u M v L := ⟨⟨h.body, h.out.bel⟩, h.out.row, fun k hk e => h.ne k e hk⟩
theorem WS2.later {w0 y y' : World} {v u : Value} {L M : List Int} (h : WS2 w0 y v L u M) (hb : Below y.heap.size y y') : WS2 w0 y' v L u M := ⟨h.out.later hb, own_below h.body hb, h.ne⟩
theorem WS2.lit {w0 y : World} {v : Value} {L : List Int} (h : WS w0 y v L) (M : List Int) (hl : M.length ≤ 1000000) : WS2 w0 (y.alloc (.cells (M.map (Value.int .u32)).toArray 51)) v L (.slice (some ⟨y.heap.size, 0, none⟩) M.length M.length) M :=
  ⟨h.later ((Below.refl _ _).alloc (Nat.le_refl _) _), (WS.lit h.bel M hl).row, fun k hk e => by
    have := (h.row.lt k e).2
    simp only [Value.ownBlock, Option.some.injEq] at hk
    omega⟩
theorem app_words2 {ops : Array Oper} {rest : List Oper} {o : Oper} {a : Act} {Q : Exit → Act → World → Prop} {w0 y W : World} {v u : Value} {L M : List Int} (h : WS2 w0 y v L u M) (N : List Int) (hgd : o.guard = none) (s x : Operand)
    (ho : o.op = .call { callee := .builtin .append, args := #[s, x], argTypes := #[29, 29] }) (hs : a.eval s = v) (m : Nat) (hm : N.length = m) (hx : a.eval x = .slice (some ⟨y.heap.size, 0, none⟩) m m) (hW : W = y.alloc (.cells (N.map (Value.int .u32)).toArray 51)) (hl : L.length + m ≤ 1000000)
    (k : ∀ v' w', WS2 w0 w' v' (L ++ N) u M → wpList Try.prog ops Q rest (a.put o.dst v') w') : wpList Try.prog ops Q (o :: rest) a W := by
  subst hm
  obtain ⟨i0, hi, hz0, hz1, hz2⟩ := info_parts info32
  subst hW
  refine wpList_append_own_at _ hgd s x 29 ho w0.heap.size 51 i0 (.int .u32 0) 1 4 Try.underlying29 hi hz0 hz1 hz2 rfl (by decide) v L.length _ hs (h.out.row.alloc _) ⟨y.heap.size, 0, none⟩ N.length N.length (N.map (Value.int .u32)) hx (by simp) (World.news_of_block (heap_alloc_new y _)) ?_ ?_ ?_ ?_ ?_
  · intro u hu
    obtain ⟨z, -, rfl⟩ := List.mem_map.1 hu
    rfl
  · simp only [maxLen]; omega
  · omega
  · have := h.out.bel.size
    simp only [World.size_alloc]
    omega
  · intro v' w' hown hg _ hat
    have hb := h.out.bel.alloc h.out.bel.size (.cells (N.map (Value.int .u32)).toArray 51)
    refine k v' w' ⟨⟨by simpa using hown, Below.grown hb hg (by have := h.out.bel.size; simp only [World.size_alloc]; omega) (fun q hq => (h.out.row.lt q hq).1)⟩, World.ownsRow.kept (h.body.alloc _) hg ?_, fun q hq e => ?_⟩
    · cases e : u.ownBlock with
      | none => exact .inl rfl
      | some q => exact .inr fun e2 => h.ne q e e2.symm
    · rcases hat with e1 | e1
      · exact h.ne q hq (e1 ▸ e)
      · rw [e1] at e
        have := (h.body.lt q hq).2
        simp only [World.size_alloc, Option.some.injEq] at e
        omega
theorem WS2.cell {w0 y : World} {v u : Value} {L M : List Int} (h : WS2 w0 y v L u M) {i : Nat} (hi : i < M.length) : ∃ g cap, u = .slice (some ⟨g, 0, none⟩) M.length cap ∧ y.cell? ⟨g, i, none⟩ = some (.int .u32 (M[i]'hi)) := by
  obtain ⟨g, cap, rfl, -, -⟩ := h.body.form (by omega)
  refine ⟨g, cap, rfl, ?_⟩
  have := h.body.cells (g := g) rfl i (.int .u32 (M[i]'hi)) (by simp [hi])
  rwa [show (⟨g, 0, none⟩ : Addr).add i = ⟨g, i, none⟩ by unfold Addr.add; split <;> simp_all] at this
set_option maxRecDepth 100000 in
set_option maxHeartbeats 2000000 in
theorem blk6a (c : Sl Int) (p : Nat) (kids ups : Int) (va : Bool) (inn : Bool) (a x y z : Int) (hd : Dr c p a x y z) (x1 : 0 ≤ x) (x2 : x ≤ 3) (y1 : 0 ≤ y) (y2 : y ≤ 3) (z1 : 0 ≤ z) (z2 : z ≤ 15) (k1 : 0 ≤ kids) (k2 : kids ≤ 3) (u1 : 0 ≤ ups) (u2 : ups ≤ 3) (hp : p ≤ 100000) (ca : 12 < a) (cb : a < 15) (ck : 0 < kids) (cz : z % 2 = 0) : BlkOk c p kids ups va inn := by
  have r1 := Int.emod_nonneg (z / 2) (show kids ≠ 0 by omega)
  have r2 := Int.emod_lt_of_pos (z / 2) (show 0 < kids by omega)
  have hM : U32 ([pI (9) (y) (y) (9), pI (8) (4) (9) (y), pW (25) (10) (z / 2 % kids), pI (8) (4) (5) (10), pI (26) (z % 10) (0) (0)]) := U32.cons (pI_bd (by omega) (by omega) (by omega) (by omega) (by omega) (by omega) (by omega) (by omega)) (U32.cons (pI_bd (by omega) (by omega) (by omega) (by omega) (by omega) (by omega) (by omega) (by omega)) (U32.cons (pW_bd (by omega) (by omega) (by omega) (by omega) (by omega) (by omega)) (U32.cons (pI_bd (by omega) (by omega) (by omega) (by omega) (by omega) (by omega) (by omega) (by omega)) (U32.cons (pI_bd (by omega) (by omega) (by omega) (by omega) (by omega) (by omega) (by omega) (by omega)) (U32.nil)))))
  refine ⟨[pI (0) (6) (x) (0), pW (1) (7) (2), pW (1) (8) (3)] ++ [pW (27) (6) (6)] ++ ([pI (9) (y) (y) (9), pI (8) (4) (9) (y), pW (25) (10) (z / 2 % kids), pI (8) (4) (5) (10), pI (26) (z % 10) (0) (0)]) ++ [pW (28) (6) (-6)], by simp, U32.append (U32.append (U32.append (U32.cons (pI_bd (by omega) (by omega) (by omega) (by omega) (by omega) (by omega) (by omega) (by omega)) (U32.cons (pW_bd (by omega) (by omega) (by omega) (by omega) (by omega) (by omega)) (U32.cons (pW_bd (by omega) (by omega) (by omega) (by omega) (by omega) (by omega)) (U32.nil)))) (U32.cons (pW_bd (by omega) (by omega) (by omega) (by omega) (by omega) (by omega)) (U32.nil))) hM) (U32.cons (pW_bd (by omega) (by omega) (by omega) (by omega) (by omega) (by omega)) (U32.nil)), ?_⟩
  intro w v hC
  have B := Below.refl w.heap.size w
  obtain ⟨ha, hx, hy, hz⟩ := hd
  replace ha : Hid _ := ha
  replace hx : Hid _ := hx
  replace hy : Hid _ := hy
  replace hz : Hid _ := hz
  obtain ⟨ao, cap, rfl, hl0⟩ : ∃ ao cap, v = .slice ao c.n cap ∧ c.n ≤ 9223372036854775807 := by obtain ⟨⟨ao, cap, h1, h2, -⟩, -, -⟩ := hC; exact ⟨ao, cap, h1, h2⟩
  replace hC : Hid (IsCode w (.slice ao c.n cap) c) := hC
  go_enter Try.func26, Try.ntmps26
  go_wp2_with fail
  refine (l1Take_to c _ p p 30 w rfl hC.out (by omega) (by omega) ha.out).mono ?_
  rintro e w' ⟨rfl, rfl⟩
  go_wp2_with fail
  refine (l1Take_to c _ (p + 1) (p + 1) 4 _ (by omega) hC.out (by omega) (by omega) hx.out).mono ?_
  rintro e w' ⟨rfl, rfl⟩
  go_wp2_with fail
  refine (l1Take_to c _ (p + 2) (p + 1 + 1) 4 _ (by omega) hC.out (by omega) (by omega) hy.out).mono ?_
  rintro e w' ⟨rfl, rfl⟩
  go_wp2_with fail
  refine (l1Take_to c _ (p + 3) (p + 1 + 1 + 1) 16 _ (by omega) hC.out (by omega) (by omega) hz.out).mono ?_
  rintro e w' ⟨rfl, rfl⟩
  clear ha hx hy hz hC
  go_wp2_with fail
  refine (l4I_in (0) (6) (x) (0) _ (by omega) (by omega) (by omega) (by omega) (by omega) (by omega) (by omega) (by omega)).mono ?_
  rintro e y1 ⟨rfl, b1⟩
  replace B := B.trans (b1.mono B.size)
  clear b1
  go_wp2_with fail
  refine (l4W_in (1) (7) (2) _ (by omega) (by omega) (by omega) (by omega) (by omega) (by omega)).mono ?_
  rintro e y2 ⟨rfl, b2⟩
  replace B := B.trans (b2.mono B.size)
  clear b2
  go_wp2_with fail
  refine (l4W_in (1) (8) (3) _ (by omega) (by omega) (by omega) (by omega) (by omega) (by omega)).mono ?_
  rintro e y3 ⟨rfl, b3⟩
  replace B := B.trans (b3.mono B.size)
  clear b3
  have S := WS.lit B [pI (0) (6) (x) (0), pW (1) (7) (2), pW (1) (8) (3)] (by simp)
  go_wp2_with fail
  refine (l4I_in (9) (y) (y) (9) _ (by omega) (by omega) (by omega) (by omega) (by omega) (by omega) (by omega) (by omega)).mono ?_
  rintro e y4 ⟨rfl, b4⟩
  replace S := S.later b4
  clear b4
  go_wp2_with fail
  refine (l4I_in (8) (4) (9) (y) _ (by omega) (by omega) (by omega) (by omega) (by omega) (by omega) (by omega) (by omega)).mono ?_
  rintro e y5 ⟨rfl, b5⟩
  replace S := S.later b5
  clear b5
  have S2 := WS2.lit S [pI (9) (y) (y) (9), pI (8) (4) (9) (y)] (by simp)
  clear S
  replace S2 := S2.swap
  go_wp2_with fail
  refine (l4W_in (25) (10) (z / 2 % kids) _ (by omega) (by omega) (by omega) (by omega) (by omega) (by omega)).mono ?_
  rintro e y6 ⟨rfl, b6⟩
  replace S2 := S2.later b6
  clear b6
  go_wp2_with fail
  refine (l4I_in (8) (4) (5) (10) _ (by omega) (by omega) (by omega) (by omega) (by omega) (by omega) (by omega) (by omega)).mono ?_
  rintro e y7 ⟨rfl, b7⟩
  replace S2 := S2.later b7
  clear b7
  go_wp2_with fail
  refine (l4I_in (26) (z % 10) (0) (0) _ (by omega) (by omega) (by omega) (by omega) (by omega) (by omega) (by omega) (by omega)).mono ?_
  rintro e y8 ⟨rfl, b8⟩
  replace S2 := S2.later b8
  clear b8
  go_wp2_with (at_builtin; refine app_words2 S2 [pW (25) (10) (z / 2 % kids), pI (8) (4) (5) (10), pI (26) (z % 10) (0) (0)] rfl (.tmp 144) (.tmp 154) rfl rfl 3 rfl rfl rfl ?sz ?_)
  case sz => simp only [List.length_append, List.length_cons, List.length_nil]; omega
  clear S2
  intro v' w' S2
  replace S2 := S2.swap
  replace S2 : WS2 w _ _ _ _ ([pI (9) (y) (y) (9), pI (8) (4) (9) (y), pW (25) (10) (z / 2 % kids), pI (8) (4) (5) (10), pI (26) (z % 10) (0) (0)]) := S2
  obtain ⟨g, cp, hv, -, -⟩ := S2.body.form (by simp)
  replace hv : _ = Value.slice (some ⟨g, 0, none⟩) 5 cp := hv
  subst hv
  go_wp2_with fail
  refine (l4W_in (27) (6) (6) _ (by omega) (by omega) (by omega) (by omega) (by omega) (by omega)).mono ?_
  rintro e y9 ⟨rfl, b9⟩
  replace S2 := S2.later b9
  clear b9
  go_wp2_with (at_builtin; refine app_words2 S2 [pW (27) (6) (6)] rfl (.tmp 156) (.tmp 161) rfl rfl 1 rfl rfl rfl ?sz ?_)
  case sz => simp only [List.length_append, List.length_cons, List.length_nil]; omega
  clear S2
  intro v' w' S2
  have hMl : ([pI (9) (y) (y) (9), pI (8) (4) (9) (y), pW (25) (10) (z / 2 % kids), pI (8) (4) (5) (10), pI (26) (z % 10) (0) (0)]).length = 5 := rfl
  obtain ⟨M, hMd⟩ : ∃ M, M = [pI (9) (y) (y) (9), pI (8) (4) (9) (y), pW (25) (10) (z / 2 % kids), pI (8) (4) (5) (10), pI (26) (z % 10) (0) (0)] := ⟨_, rfl⟩
  replace S2 : WS2 w w' v' ([pI (0) (6) (x) (0), pW (1) (7) (2), pW (1) (8) (3)] ++ [pW (27) (6) (6)]) _ ([pI (9) (y) (y) (9), pI (8) (4) (9) (y), pW (25) (10) (z / 2 % kids), pI (8) (4) (5) (10), pI (26) (z % 10) (0) (0)]) := S2
  rw [← hMd] at S2 hMl
  replace hMd : Hid _ := hMd
  have T0 : Hid (WS2 w w' v' ([pI (0) (6) (x) (0), pW (1) (7) (2), pW (1) (8) (3)] ++ [pW (27) (6) (6)]) (.slice (some ⟨g, 0, none⟩) 5 cp) M) := S2
  clear S2
  go_wp2_with fail
  go_loopw [19, 21] (fun o i wr => ∃ i' : Nat, i = .int .i64 (i' : Int) ∧ i' ≤ 5 ∧ Hid (WS2 w wr o (([pI (0) (6) (x) (0), pW (1) (7) (2), pW (1) (8) (3)] ++ [pW (27) (6) (6)]) ++ M.take i') (.slice (some ⟨g, 0, none⟩) 5 cp) M))
    (fun _ i _ => 5 - (intOf i).toNat)
  case atStart => exact ⟨0, rfl, by omega, (by show WS2 w _ _ (([pI (0) (6) (x) (0), pW (1) (7) (2), pW (1) (8) (3)] ++ [pW (27) (6) (6)]) ++ M.take 0) _ _; rw [List.take_zero, List.append_nil]; exact T0.out)⟩
  case round =>
    obtain ⟨i', rfl, hin, hT⟩ := hrel
    obtain ⟨wz, hwz⟩ : ∃ x, x = wr := ⟨_, rfl⟩
    subst hwz
    by_cases hlt : i' < 5
    · have hii : (i' : Int) < 5 := by omega
      obtain ⟨g', cp', hu, hcell⟩ := hT.out.cell (show i' < M.length by omega)
      simp only [Value.slice.injEq, Option.some.injEq, Addr.mk.injEq, and_true, true_and] at hu
      obtain ⟨rfl, -, rfl⟩ := hu
      have hmi : M.take (i' + 1) = M.take i' ++ [M[i']'(by omega)] := by rw [List.take_add_one]; simp [show i' < M.length by omega]
      generalize M[i']'(by omega) = e0 at hcell hmi
      replace hmi : Hid _ := hmi
      go_wp2_with (at_builtin; refine app_words2 hT.out [e0] rfl (.tmp 169) (.tmp 174) rfl rfl 1 rfl rfl rfl ?sz ?_)
      case sz => simp only [List.length_append, List.length_cons, List.length_nil, List.length_take]; omega
      intro v' w' S2
      have hT1 : Hid (WS2 w w' v' (([pI (0) (6) (x) (0), pW (1) (7) (2), pW (1) (8) (3)] ++ [pW (27) (6) (6)]) ++ M.take (i' + 1)) (.slice (some ⟨g, 0, none⟩) 5 cp) M) := by
        show WS2 _ _ _ _ _ _
        rw [hmi.out, ← List.append_assoc]
        exact S2
      clear S2 hT hcell hmi
      go_wp2_with fail
      go_roundw
      case rel => exact ⟨i' + 1, by go_num, by omega, hT1.out⟩
      case measure => simp [intOf]; omega
    · obtain rfl : i' = 5 := by omega
      have S2 : WS2 w wz u19 (([pI (0) (6) (x) (0), pW (1) (7) (2), pW (1) (8) (3)] ++ [pW (27) (6) (6)]) ++ M) (.slice (some ⟨g, 0, none⟩) 5 cp) M := by
        have := hT.out
        rwa [List.take_of_length_le (by omega)] at this
      clear hT T0
      go_wp2_with fail
      refine (l4W_in (28) (6) (-6) _ (by omega) (by omega) (by omega) (by omega) (by omega) (by omega)).mono ?_
      rintro e y10 ⟨rfl, b10⟩
      replace S2 := S2.later b10
      clear b10
      go_wp2_with (at_builtin; refine app_words2 S2 [pW (28) (6) (-6)] rfl (.tmp 176) (.tmp 182) rfl rfl 1 rfl rfl rfl ?sz ?_)
      case sz => simp only [List.length_append, List.length_cons, List.length_nil]; omega
      clear S2
      intro v' w' S2
      go_wp2_with fail
      go_ret2
      have S3 := S2.out
      rw [hMd.out] at S3
      exact ⟨_, _, rfl, by omega, S3⟩
set_option maxRecDepth 100000 in
set_option maxHeartbeats 2000000 in
theorem blk6b (c : Sl Int) (p : Nat) (kids ups : Int) (va : Bool) (inn : Bool) (a x y z : Int) (hd : Dr c p a x y z) (x1 : 0 ≤ x) (x2 : x ≤ 3) (y1 : 0 ≤ y) (y2 : y ≤ 3) (z1 : 0 ≤ z) (z2 : z ≤ 15) (k1 : 0 ≤ kids) (k2 : kids ≤ 3) (u1 : 0 ≤ ups) (u2 : ups ≤ 3) (hp : p ≤ 100000) (ca : 12 < a) (cb : a < 15) (ck : kids = 0) : BlkOk c p kids ups va inn := by
  have hM : U32 ([pI (9) (y) (y) (9), pI (8) (4) (9) (y)]) := U32.cons (pI_bd (by omega) (by omega) (by omega) (by omega) (by omega) (by omega) (by omega) (by omega)) (U32.cons (pI_bd (by omega) (by omega) (by omega) (by omega) (by omega) (by omega) (by omega) (by omega)) (U32.nil))
  refine ⟨[pI (0) (6) (x) (0), pW (1) (7) (2), pW (1) (8) (3)] ++ [pW (27) (6) (3)] ++ ([pI (9) (y) (y) (9), pI (8) (4) (9) (y)]) ++ [pW (28) (6) (-3)], by simp, U32.append (U32.append (U32.append (U32.cons (pI_bd (by omega) (by omega) (by omega) (by omega) (by omega) (by omega) (by omega) (by omega)) (U32.cons (pW_bd (by omega) (by omega) (by omega) (by omega) (by omega) (by omega)) (U32.cons (pW_bd (by omega) (by omega) (by omega) (by omega) (by omega) (by omega)) (U32.nil)))) (U32.cons (pW_bd (by omega) (by omega) (by omega) (by omega) (by omega) (by omega)) (U32.nil))) hM) (U32.cons (pW_bd (by omega) (by omega) (by omega) (by omega) (by omega) (by omega)) (U32.nil)), ?_⟩
  intro w v hC
  have B := Below.refl w.heap.size w
  obtain ⟨ha, hx, hy, hz⟩ := hd
  replace ha : Hid _ := ha
  replace hx : Hid _ := hx
  replace hy : Hid _ := hy
  replace hz : Hid _ := hz
  obtain ⟨ao, cap, rfl, hl0⟩ : ∃ ao cap, v = .slice ao c.n cap ∧ c.n ≤ 9223372036854775807 := by obtain ⟨⟨ao, cap, h1, h2, -⟩, -, -⟩ := hC; exact ⟨ao, cap, h1, h2⟩
  replace hC : Hid (IsCode w (.slice ao c.n cap) c) := hC
  go_enter Try.func26, Try.ntmps26
  go_wp2_with fail
  refine (l1Take_to c _ p p 30 w rfl hC.out (by omega) (by omega) ha.out).mono ?_
  rintro e w' ⟨rfl, rfl⟩
  go_wp2_with fail
  refine (l1Take_to c _ (p + 1) (p + 1) 4 _ (by omega) hC.out (by omega) (by omega) hx.out).mono ?_
  rintro e w' ⟨rfl, rfl⟩
  go_wp2_with fail
  refine (l1Take_to c _ (p + 2) (p + 1 + 1) 4 _ (by omega) hC.out (by omega) (by omega) hy.out).mono ?_
  rintro e w' ⟨rfl, rfl⟩
  go_wp2_with fail
  refine (l1Take_to c _ (p + 3) (p + 1 + 1 + 1) 16 _ (by omega) hC.out (by omega) (by omega) hz.out).mono ?_
  rintro e w' ⟨rfl, rfl⟩
  clear ha hx hy hz hC
  go_wp2_with fail
  refine (l4I_in (0) (6) (x) (0) _ (by omega) (by omega) (by omega) (by omega) (by omega) (by omega) (by omega) (by omega)).mono ?_
  rintro e y1 ⟨rfl, b1⟩
  replace B := B.trans (b1.mono B.size)
  clear b1
  go_wp2_with fail
  refine (l4W_in (1) (7) (2) _ (by omega) (by omega) (by omega) (by omega) (by omega) (by omega)).mono ?_
  rintro e y2 ⟨rfl, b2⟩
  replace B := B.trans (b2.mono B.size)
  clear b2
  go_wp2_with fail
  refine (l4W_in (1) (8) (3) _ (by omega) (by omega) (by omega) (by omega) (by omega) (by omega)).mono ?_
  rintro e y3 ⟨rfl, b3⟩
  replace B := B.trans (b3.mono B.size)
  clear b3
  have S := WS.lit B [pI (0) (6) (x) (0), pW (1) (7) (2), pW (1) (8) (3)] (by simp)
  go_wp2_with fail
  refine (l4I_in (9) (y) (y) (9) _ (by omega) (by omega) (by omega) (by omega) (by omega) (by omega) (by omega) (by omega)).mono ?_
  rintro e y4 ⟨rfl, b4⟩
  replace S := S.later b4
  clear b4
  go_wp2_with fail
  refine (l4I_in (8) (4) (9) (y) _ (by omega) (by omega) (by omega) (by omega) (by omega) (by omega) (by omega) (by omega)).mono ?_
  rintro e y5 ⟨rfl, b5⟩
  replace S := S.later b5
  clear b5
  have S2 := WS2.lit S [pI (9) (y) (y) (9), pI (8) (4) (9) (y)] (by simp)
  clear S
  go_wp2_with fail
  refine (l4W_in (27) (6) (3) _ (by omega) (by omega) (by omega) (by omega) (by omega) (by omega)).mono ?_
  rintro e y6 ⟨rfl, b6⟩
  replace S2 := S2.later b6
  clear b6
  go_wp2_with (at_builtin; refine app_words2 S2 [pW (27) (6) (3)] rfl (.tmp 156) (.tmp 161) rfl rfl 1 rfl rfl rfl ?sz ?_)
  case sz => simp only [List.length_append, List.length_cons, List.length_nil]; omega
  clear S2
  intro v' w' S2
  have hMl : ([pI (9) (y) (y) (9), pI (8) (4) (9) (y)]).length = 2 := rfl
  obtain ⟨M, hMd⟩ : ∃ M, M = [pI (9) (y) (y) (9), pI (8) (4) (9) (y)] := ⟨_, rfl⟩
  replace S2 : WS2 w w' v' ([pI (0) (6) (x) (0), pW (1) (7) (2), pW (1) (8) (3)] ++ [pW (27) (6) (3)]) _ ([pI (9) (y) (y) (9), pI (8) (4) (9) (y)]) := S2
  rw [← hMd] at S2 hMl
  replace hMd : Hid _ := hMd
  obtain ⟨g, hg⟩ : ∃ g, g = y5.heap.size := ⟨_, rfl⟩
  obtain ⟨cp, hcp⟩ : ∃ cp : Nat, cp = 2 := ⟨_, rfl⟩
  have T0 : Hid (WS2 w w' v' ([pI (0) (6) (x) (0), pW (1) (7) (2), pW (1) (8) (3)] ++ [pW (27) (6) (3)]) (.slice (some ⟨y5.heap.size, 0, none⟩) 2 2) M) := S2
  clear S2
  go_wp2_with fail
  go_loopw [19, 21] (fun o i wr => ∃ i' : Nat, i = .int .i64 (i' : Int) ∧ i' ≤ 2 ∧ Hid (WS2 w wr o (([pI (0) (6) (x) (0), pW (1) (7) (2), pW (1) (8) (3)] ++ [pW (27) (6) (3)]) ++ M.take i') (.slice (some ⟨y5.heap.size, 0, none⟩) 2 2) M))
    (fun _ i _ => 2 - (intOf i).toNat)
  case atStart => exact ⟨0, rfl, by omega, (by show WS2 w _ _ (([pI (0) (6) (x) (0), pW (1) (7) (2), pW (1) (8) (3)] ++ [pW (27) (6) (3)]) ++ M.take 0) _ _; rw [List.take_zero, List.append_nil]; exact T0.out)⟩
  case round =>
    obtain ⟨i', rfl, hin, hT⟩ := hrel
    obtain ⟨wz, hwz⟩ : ∃ x, x = wr := ⟨_, rfl⟩
    subst hwz
    by_cases hlt : i' < 2
    · have hii : (i' : Int) < 2 := by omega
      obtain ⟨g', cp', hu, hcell⟩ := hT.out.cell (show i' < M.length by omega)
      simp only [Value.slice.injEq, Option.some.injEq, Addr.mk.injEq, and_true, true_and] at hu
      obtain ⟨rfl, -, rfl⟩ := hu
      have hmi : M.take (i' + 1) = M.take i' ++ [M[i']'(by omega)] := by rw [List.take_add_one]; simp [show i' < M.length by omega]
      generalize M[i']'(by omega) = e0 at hcell hmi
      replace hmi : Hid _ := hmi
      go_wp2_with (at_builtin; refine app_words2 hT.out [e0] rfl (.tmp 169) (.tmp 174) rfl rfl 1 rfl rfl rfl ?sz ?_)
      case sz => simp only [List.length_append, List.length_cons, List.length_nil, List.length_take]; omega
      intro v' w' S2
      have hT1 : Hid (WS2 w w' v' (([pI (0) (6) (x) (0), pW (1) (7) (2), pW (1) (8) (3)] ++ [pW (27) (6) (3)]) ++ M.take (i' + 1)) (.slice (some ⟨y5.heap.size, 0, none⟩) 2 2) M) := by
        show WS2 _ _ _ _ _ _
        rw [hmi.out, ← List.append_assoc]
        exact S2
      clear S2 hT hcell hmi
      go_wp2_with fail
      go_roundw
      case rel => exact ⟨i' + 1, by go_num, by omega, hT1.out⟩
      case measure => simp [intOf]; omega
    · obtain rfl : i' = 2 := by omega
      have S2 : WS2 w wz u19 (([pI (0) (6) (x) (0), pW (1) (7) (2), pW (1) (8) (3)] ++ [pW (27) (6) (3)]) ++ M) (.slice (some ⟨y5.heap.size, 0, none⟩) 2 2) M := by
        have := hT.out
        rwa [List.take_of_length_le (by omega)] at this
      clear hT T0
      go_wp2_with fail
      refine (l4W_in (28) (6) (-3) _ (by omega) (by omega) (by omega) (by omega) (by omega) (by omega)).mono ?_
      rintro e y7 ⟨rfl, b7⟩
      replace S2 := S2.later b7
      clear b7
      go_wp2_with (at_builtin; refine app_words2 S2 [pW (28) (6) (-3)] rfl (.tmp 176) (.tmp 182) rfl rfl 1 rfl rfl rfl ?sz ?_)
      case sz => simp only [List.length_append, List.length_cons, List.length_nil]; omega
      clear S2
      intro v' w' S2
      go_wp2_with fail
      go_ret2
      have S3 := S2.out
      rw [hMd.out] at S3
      exact ⟨_, _, rfl, by omega, S3⟩
set_option maxRecDepth 100000 in
set_option maxHeartbeats 2000000 in
theorem blk6c (c : Sl Int) (p : Nat) (kids ups : Int) (va : Bool) (inn : Bool) (a x y z : Int) (hd : Dr c p a x y z) (x1 : 0 ≤ x) (x2 : x ≤ 3) (y1 : 0 ≤ y) (y2 : y ≤ 3) (z1 : 0 ≤ z) (z2 : z ≤ 15) (k1 : 0 ≤ kids) (k2 : kids ≤ 3) (u1 : 0 ≤ ups) (u2 : ups ≤ 3) (hp : p ≤ 100000) (ca : 12 < a) (cb : a < 15) (ck : 0 < kids) (cz : z % 2 ≠ 0) : BlkOk c p kids ups va inn := by
  have hM : U32 ([pI (9) (y) (y) (9), pI (8) (4) (9) (y)]) := U32.cons (pI_bd (by omega) (by omega) (by omega) (by omega) (by omega) (by omega) (by omega) (by omega)) (U32.cons (pI_bd (by omega) (by omega) (by omega) (by omega) (by omega) (by omega) (by omega) (by omega)) (U32.nil))
  refine ⟨[pI (0) (6) (x) (0), pW (1) (7) (2), pW (1) (8) (3)] ++ [pW (27) (6) (3)] ++ ([pI (9) (y) (y) (9), pI (8) (4) (9) (y)]) ++ [pW (28) (6) (-3)], by simp, U32.append (U32.append (U32.append (U32.cons (pI_bd (by omega) (by omega) (by omega) (by omega) (by omega) (by omega) (by omega) (by omega)) (U32.cons (pW_bd (by omega) (by omega) (by omega) (by omega) (by omega) (by omega)) (U32.cons (pW_bd (by omega) (by omega) (by omega) (by omega) (by omega) (by omega)) (U32.nil)))) (U32.cons (pW_bd (by omega) (by omega) (by omega) (by omega) (by omega) (by omega)) (U32.nil))) hM) (U32.cons (pW_bd (by omega) (by omega) (by omega) (by omega) (by omega) (by omega)) (U32.nil)), ?_⟩
  intro w v hC
  have B := Below.refl w.heap.size w
  obtain ⟨ha, hx, hy, hz⟩ := hd
  replace ha : Hid _ := ha
  replace hx : Hid _ := hx
  replace hy : Hid _ := hy
  replace hz : Hid _ := hz
  obtain ⟨ao, cap, rfl, hl0⟩ : ∃ ao cap, v = .slice ao c.n cap ∧ c.n ≤ 9223372036854775807 := by obtain ⟨⟨ao, cap, h1, h2, -⟩, -, -⟩ := hC; exact ⟨ao, cap, h1, h2⟩
  replace hC : Hid (IsCode w (.slice ao c.n cap) c) := hC
  go_enter Try.func26, Try.ntmps26
  go_wp2_with fail
  refine (l1Take_to c _ p p 30 w rfl hC.out (by omega) (by omega) ha.out).mono ?_
  rintro e w' ⟨rfl, rfl⟩
  go_wp2_with fail
  refine (l1Take_to c _ (p + 1) (p + 1) 4 _ (by omega) hC.out (by omega) (by omega) hx.out).mono ?_
  rintro e w' ⟨rfl, rfl⟩
  go_wp2_with fail
  refine (l1Take_to c _ (p + 2) (p + 1 + 1) 4 _ (by omega) hC.out (by omega) (by omega) hy.out).mono ?_
  rintro e w' ⟨rfl, rfl⟩
  go_wp2_with fail
  refine (l1Take_to c _ (p + 3) (p + 1 + 1 + 1) 16 _ (by omega) hC.out (by omega) (by omega) hz.out).mono ?_
  rintro e w' ⟨rfl, rfl⟩
  clear ha hx hy hz hC
  go_wp2_with fail
  refine (l4I_in (0) (6) (x) (0) _ (by omega) (by omega) (by omega) (by omega) (by omega) (by omega) (by omega) (by omega)).mono ?_
  rintro e y1 ⟨rfl, b1⟩
  replace B := B.trans (b1.mono B.size)
  clear b1
  go_wp2_with fail
  refine (l4W_in (1) (7) (2) _ (by omega) (by omega) (by omega) (by omega) (by omega) (by omega)).mono ?_
  rintro e y2 ⟨rfl, b2⟩
  replace B := B.trans (b2.mono B.size)
  clear b2
  go_wp2_with fail
  refine (l4W_in (1) (8) (3) _ (by omega) (by omega) (by omega) (by omega) (by omega) (by omega)).mono ?_
  rintro e y3 ⟨rfl, b3⟩
  replace B := B.trans (b3.mono B.size)
  clear b3
  have S := WS.lit B [pI (0) (6) (x) (0), pW (1) (7) (2), pW (1) (8) (3)] (by simp)
  go_wp2_with fail
  refine (l4I_in (9) (y) (y) (9) _ (by omega) (by omega) (by omega) (by omega) (by omega) (by omega) (by omega) (by omega)).mono ?_
  rintro e y4 ⟨rfl, b4⟩
  replace S := S.later b4
  clear b4
  go_wp2_with fail
  refine (l4I_in (8) (4) (9) (y) _ (by omega) (by omega) (by omega) (by omega) (by omega) (by omega) (by omega) (by omega)).mono ?_
  rintro e y5 ⟨rfl, b5⟩
  replace S := S.later b5
  clear b5
  have S2 := WS2.lit S [pI (9) (y) (y) (9), pI (8) (4) (9) (y)] (by simp)
  clear S
  go_wp2_with fail
  refine (l4W_in (27) (6) (3) _ (by omega) (by omega) (by omega) (by omega) (by omega) (by omega)).mono ?_
  rintro e y6 ⟨rfl, b6⟩
  replace S2 := S2.later b6
  clear b6
  go_wp2_with (at_builtin; refine app_words2 S2 [pW (27) (6) (3)] rfl (.tmp 156) (.tmp 161) rfl rfl 1 rfl rfl rfl ?sz ?_)
  case sz => simp only [List.length_append, List.length_cons, List.length_nil]; omega
  clear S2
  intro v' w' S2
  have hMl : ([pI (9) (y) (y) (9), pI (8) (4) (9) (y)]).length = 2 := rfl
  obtain ⟨M, hMd⟩ : ∃ M, M = [pI (9) (y) (y) (9), pI (8) (4) (9) (y)] := ⟨_, rfl⟩
  replace S2 : WS2 w w' v' ([pI (0) (6) (x) (0), pW (1) (7) (2), pW (1) (8) (3)] ++ [pW (27) (6) (3)]) _ ([pI (9) (y) (y) (9), pI (8) (4) (9) (y)]) := S2
  rw [← hMd] at S2 hMl
  replace hMd : Hid _ := hMd
  obtain ⟨g, hg⟩ : ∃ g, g = y5.heap.size := ⟨_, rfl⟩
  obtain ⟨cp, hcp⟩ : ∃ cp : Nat, cp = 2 := ⟨_, rfl⟩
  have T0 : Hid (WS2 w w' v' ([pI (0) (6) (x) (0), pW (1) (7) (2), pW (1) (8) (3)] ++ [pW (27) (6) (3)]) (.slice (some ⟨y5.heap.size, 0, none⟩) 2 2) M) := S2
  clear S2
  go_wp2_with fail
  go_loopw [19, 21] (fun o i wr => ∃ i' : Nat, i = .int .i64 (i' : Int) ∧ i' ≤ 2 ∧ Hid (WS2 w wr o (([pI (0) (6) (x) (0), pW (1) (7) (2), pW (1) (8) (3)] ++ [pW (27) (6) (3)]) ++ M.take i') (.slice (some ⟨y5.heap.size, 0, none⟩) 2 2) M))
    (fun _ i _ => 2 - (intOf i).toNat)
  case atStart => exact ⟨0, rfl, by omega, (by show WS2 w _ _ (([pI (0) (6) (x) (0), pW (1) (7) (2), pW (1) (8) (3)] ++ [pW (27) (6) (3)]) ++ M.take 0) _ _; rw [List.take_zero, List.append_nil]; exact T0.out)⟩
  case round =>
    obtain ⟨i', rfl, hin, hT⟩ := hrel
    obtain ⟨wz, hwz⟩ : ∃ x, x = wr := ⟨_, rfl⟩
    subst hwz
    by_cases hlt : i' < 2
    · have hii : (i' : Int) < 2 := by omega
      obtain ⟨g', cp', hu, hcell⟩ := hT.out.cell (show i' < M.length by omega)
      simp only [Value.slice.injEq, Option.some.injEq, Addr.mk.injEq, and_true, true_and] at hu
      obtain ⟨rfl, -, rfl⟩ := hu
      have hmi : M.take (i' + 1) = M.take i' ++ [M[i']'(by omega)] := by rw [List.take_add_one]; simp [show i' < M.length by omega]
      generalize M[i']'(by omega) = e0 at hcell hmi
      replace hmi : Hid _ := hmi
      go_wp2_with (at_builtin; refine app_words2 hT.out [e0] rfl (.tmp 169) (.tmp 174) rfl rfl 1 rfl rfl rfl ?sz ?_)
      case sz => simp only [List.length_append, List.length_cons, List.length_nil, List.length_take]; omega
      intro v' w' S2
      have hT1 : Hid (WS2 w w' v' (([pI (0) (6) (x) (0), pW (1) (7) (2), pW (1) (8) (3)] ++ [pW (27) (6) (3)]) ++ M.take (i' + 1)) (.slice (some ⟨y5.heap.size, 0, none⟩) 2 2) M) := by
        show WS2 _ _ _ _ _ _
        rw [hmi.out, ← List.append_assoc]
        exact S2
      clear S2 hT hcell hmi
      go_wp2_with fail
      go_roundw
      case rel => exact ⟨i' + 1, by go_num, by omega, hT1.out⟩
      case measure => simp [intOf]; omega
    · obtain rfl : i' = 2 := by omega
      have S2 : WS2 w wz u19 (([pI (0) (6) (x) (0), pW (1) (7) (2), pW (1) (8) (3)] ++ [pW (27) (6) (3)]) ++ M) (.slice (some ⟨y5.heap.size, 0, none⟩) 2 2) M := by
        have := hT.out
        rwa [List.take_of_length_le (by omega)] at this
      clear hT T0
      go_wp2_with fail
      refine (l4W_in (28) (6) (-3) _ (by omega) (by omega) (by omega) (by omega) (by omega) (by omega)).mono ?_
      rintro e y7 ⟨rfl, b7⟩
      replace S2 := S2.later b7
      clear b7
      go_wp2_with (at_builtin; refine app_words2 S2 [pW (28) (6) (-3)] rfl (.tmp 176) (.tmp 182) rfl rfl 1 rfl rfl rfl ?sz ?_)
      case sz => simp only [List.length_append, List.length_cons, List.length_nil]; omega
      clear S2
      intro v' w' S2
      go_wp2_with fail
      go_ret2
      have S3 := S2.out
      rw [hMd.out] at S3
      exact ⟨_, _, rfl, by omega, S3⟩
end Go.Proofs.Ytlkmohhkhcbiaaa

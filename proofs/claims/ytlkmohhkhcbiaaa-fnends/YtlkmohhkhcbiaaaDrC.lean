import Derived.Test.YtlkmohhkhcbiaaaDrB
import Derived.Maps.AppendAt
import Derived.Deep.AppendLies
namespace Go.Proofs.Ytlkmohhkhcbiaaa
open Go.RowKit
set_option linter.unusedVariables false
set_option linter.unusedSimpArgs false
theorem info32 : (Try.prog.info? 51).map (fun i => (i.zero, i.size, i.bytes)) = some (some (.int .u32 0), 1, 4) := by kernel_rfl
/-- a list of words that the call owns. -/
structure WS (w0 y : World) (v : Value) (L : List Int) : Prop where
  row : y.ownsRow w0.heap.size 51 1 v L.length (L.map (Value.int .u32))
  bel : Below w0.heap.size w0 y
theorem own_below {base : Nat} {e : TypeId} {z n : Nat} {y y' : World} {v : Value} {xs : List Value} (h : y.ownsRow base e z v n xs) (hb : Below y.heap.size y y') : y'.ownsRow base e z v n xs := by
  refine ⟨h.1, ?_⟩
  rcases h.2 with hn | ⟨g, cap, cur, hv, hbb, hg, rest⟩
  · exact .inl hn
  · exact .inr ⟨g, cap, cur, hv, hbb, (hb.block g (Array.getElem?_eq_some_iff.1 hg).1).trans hg, rest⟩
theorem WS.later {w0 y y' : World} {v : Value} {L : List Int} (h : WS w0 y v L) (hb : Below y.heap.size y y') : WS w0 y' v L := ⟨own_below h.row hb, h.bel.trans (hb.mono h.bel.size)⟩
theorem WS.lit {w0 y : World} (hb : Below w0.heap.size w0 y) (L : List Int) (hl : L.length ≤ 1000000) : WS w0 (y.alloc (.cells (L.map (Value.int .u32)).toArray 51)) (.slice (some ⟨y.heap.size, 0, none⟩) L.length L.length) L :=
  ⟨⟨by simp, .inr ⟨y.heap.size, L.length, _, rfl, hb.size, heap_alloc_new y _, Nat.le_refl _, by simp only [maxLen]; omega, by simp, by simp [List.take_of_length_le]⟩⟩, hb.alloc hb.size _⟩
theorem app_words {ops : Array Oper} {rest : List Oper} {o : Oper} {a : Act} {Q : Exit → Act → World → Prop} {w0 y W : World} {v : Value} {L : List Int} (h : WS w0 y v L) (N : List Int) (hgd : o.guard = none) (s x : Operand)
    (ho : o.op = .call { callee := .builtin .append, args := #[s, x], argTypes := #[29, 29] }) (hs : a.eval s = v) (m : Nat) (hm : N.length = m) (hx : a.eval x = .slice (some ⟨y.heap.size, 0, none⟩) m m) (hW : W = y.alloc (.cells (N.map (Value.int .u32)).toArray 51)) (hl : L.length + m ≤ 1000000)
    (k : ∀ v' w', WS w0 w' v' (L ++ N) → wpList Try.prog ops Q rest (a.put o.dst v') w') : wpList Try.prog ops Q (o :: rest) a W := by
  subst hm
  obtain ⟨i0, hi, hz0, hz1, hz2⟩ := info_parts info32
  subst hW
  refine wpList_append_own_at _ hgd s x 29 ho w0.heap.size 51 i0 (.int .u32 0) 1 4 Try.underlying29 hi hz0 hz1 hz2 rfl (by decide) v L.length _ hs (h.row.alloc _) ⟨y.heap.size, 0, none⟩ N.length N.length (N.map (Value.int .u32)) hx (by simp) (World.news_of_block (heap_alloc_new y _)) ?_ ?_ ?_ ?_ ?_
  · intro u hu
    obtain ⟨z, -, rfl⟩ := List.mem_map.1 hu
    rfl
  · simp only [maxLen]; omega
  · omega
  · have := h.bel.size
    simp only [World.size_alloc]
    omega
  · intro v' w' hown hg _ _
    refine k v' w' ⟨by simpa using hown, ?_⟩
    have hb := h.bel.alloc h.bel.size (.cells (N.map (Value.int .u32)).toArray 51)
    exact Below.grown hb hg (by have := h.bel.size; simp only [World.size_alloc]; omega) (fun q hq => (h.row.lt q hq).1)
/-- words are words. -/
def U32 (L : List Int) : Prop := ∀ x ∈ L, 0 ≤ x ∧ x ≤ 4294967295
theorem U32.nil : U32 [] := fun x hx => by cases hx
theorem U32.cons {x : Int} {L : List Int} (h : 0 ≤ x ∧ x ≤ 4294967295) (k : U32 L) : U32 (x :: L) := fun y hy => by
  rcases List.mem_cons.1 hy with rfl | hy
  · exact h
  · exact k y hy
theorem U32.append {L M : List Int} (h : U32 L) (k : U32 M) : U32 (L ++ M) := fun y hy => by
  rcases List.mem_append.1 hy with hy | hy
  · exact h y hy
  · exact k y hy
def repL (B : List Int) : Nat → List Int
  | 0 => []
  | k + 1 => repL B k ++ B
theorem repL_len (B : List Int) : ∀ k, (repL B k).length = k * B.length
  | 0 => by simp [repL]
  | k + 1 => by rw [repL, List.length_append, repL_len B k, Nat.add_mul, Nat.one_mul]
theorem repL_u32 {B : List Int} (h : U32 B) : ∀ k, U32 (repL B k)
  | 0 => U32.nil
  | k + 1 => (repL_u32 h k).append h
set_option maxRecDepth 100000 in
set_option maxHeartbeats 1000000 in
theorem l4CallBlock_in (x y z kids : Int) (h1 : 0 ≤ x ∧ x ≤ 3) (h2 : 0 ≤ y ∧ y ≤ 3) (h3 : 0 ≤ z ∧ z ≤ 15) (h4 : 1 ≤ kids ∧ kids ≤ 3) :
    ∃ L : List Int, L.length ≤ 40 ∧ U32 L ∧ ∀ w, Calls Try.prog 41 #[.int .i64 x, .int .i64 y, .int .i64 z, .int .i64 kids] w fun e w' => ∃ v, e = .returned v ∧ WS w w' v L := by
  obtain ⟨x1, x2⟩ := h1
  obtain ⟨y1, y2⟩ := h2
  obtain ⟨z1, z2⟩ := h3
  obtain ⟨k1, k2⟩ := h4
  have r1 := Int.emod_nonneg z (show kids ≠ 0 by omega)
  have r2 := Int.emod_lt_of_pos z (show 0 < kids by omega)
  by_cases z8 : z < 8
  · refine ⟨[pW (25) (7) (z % kids), pI (0) (8) (x) (0), pI (0) (9) (y) (0)] ++ [pI (22) (7) (2) (1 + z % 3), pI (0) (x) (7) (0)], by simp, U32.append (U32.cons (pW_bd (by omega) (by omega) (by omega) (by omega) (by omega) (by omega)) (U32.cons (pI_bd (by omega) (by omega) (by omega) (by omega) (by omega) (by omega) (by omega) (by omega)) (U32.cons (pI_bd (by omega) (by omega) (by omega) (by omega) (by omega) (by omega) (by omega) (by omega)) (U32.nil)))) (U32.cons (pI_bd (by omega) (by omega) (by omega) (by omega) (by omega) (by omega) (by omega) (by omega)) (U32.cons (pI_bd (by omega) (by omega) (by omega) (by omega) (by omega) (by omega) (by omega) (by omega)) (U32.nil))), fun w => ?_⟩
    go_enter Try.func41, Try.ntmps41
    have B := Below.refl w.heap.size w
    go_wp2_with fail
    refine (l4W_in (25) (7) (z % kids) _ (by omega) (by omega) (by omega) (by omega) (by omega) (by omega)).mono ?_
    rintro e y1 ⟨rfl, b1⟩
    replace B := B.trans (b1.mono B.size)
    clear b1
    go_wp2_with fail
    refine (l4I_in (0) (8) (x) (0) _ (by omega) (by omega) (by omega) (by omega) (by omega) (by omega) (by omega) (by omega)).mono ?_
    rintro e y2 ⟨rfl, b2⟩
    replace B := B.trans (b2.mono B.size)
    clear b2
    go_wp2_with fail
    refine (l4I_in (0) (9) (y) (0) _ (by omega) (by omega) (by omega) (by omega) (by omega) (by omega) (by omega) (by omega)).mono ?_
    rintro e y3 ⟨rfl, b3⟩
    replace B := B.trans (b3.mono B.size)
    clear b3
    have S := WS.lit B [pW (25) (7) (z % kids), pI (0) (8) (x) (0), pI (0) (9) (y) (0)] (by simp)
    go_wp2_with fail
    go_wp2_with fail
    refine (l4I_in (22) (7) (2) (1 + z % 3) _ (by omega) (by omega) (by omega) (by omega) (by omega) (by omega) (by omega) (by omega)).mono ?_
    rintro e y4 ⟨rfl, b4⟩
    replace S := S.later b4
    clear b4
    go_wp2_with fail
    refine (l4I_in (0) (x) (7) (0) _ (by omega) (by omega) (by omega) (by omega) (by omega) (by omega) (by omega) (by omega)).mono ?_
    rintro e y5 ⟨rfl, b5⟩
    replace S := S.later b5
    clear b5
    go_wp2_with (at_builtin; refine app_words S [pI (22) (7) (2) (1 + z % 3), pI (0) (x) (7) (0)] rfl (.tmp 21) (.tmp 28) rfl rfl 2 rfl rfl rfl ?sz ?_)
    case sz => simp only [List.length_append, List.length_cons, List.length_nil, repL_len]; omega
    clear S
    intro v' w' S
    go_wp2_with fail
    go_ret
    exact ⟨_, rfl, S⟩
  by_cases z11 : z < 11
  · refine ⟨[pW (25) (7) (z % kids), pI (0) (8) (x) (0), pI (0) (9) (y) (0)] ++ [pW (25) (6) (z % kids), pI (22) (7) (2) (511)] ++ [pI (22) (6) (511) (2), pI (0) (y) (6) (0)], by simp, U32.append (U32.append (U32.cons (pW_bd (by omega) (by omega) (by omega) (by omega) (by omega) (by omega)) (U32.cons (pI_bd (by omega) (by omega) (by omega) (by omega) (by omega) (by omega) (by omega) (by omega)) (U32.cons (pI_bd (by omega) (by omega) (by omega) (by omega) (by omega) (by omega) (by omega) (by omega)) (U32.nil)))) (U32.cons (pW_bd (by omega) (by omega) (by omega) (by omega) (by omega) (by omega)) (U32.cons (pI_bd (by omega) (by omega) (by omega) (by omega) (by omega) (by omega) (by omega) (by omega)) (U32.nil)))) (U32.cons (pI_bd (by omega) (by omega) (by omega) (by omega) (by omega) (by omega) (by omega) (by omega)) (U32.cons (pI_bd (by omega) (by omega) (by omega) (by omega) (by omega) (by omega) (by omega) (by omega)) (U32.nil))), fun w => ?_⟩
    go_enter Try.func41, Try.ntmps41
    have B := Below.refl w.heap.size w
    go_wp2_with fail
    refine (l4W_in (25) (7) (z % kids) _ (by omega) (by omega) (by omega) (by omega) (by omega) (by omega)).mono ?_
    rintro e y1 ⟨rfl, b1⟩
    replace B := B.trans (b1.mono B.size)
    clear b1
    go_wp2_with fail
    refine (l4I_in (0) (8) (x) (0) _ (by omega) (by omega) (by omega) (by omega) (by omega) (by omega) (by omega) (by omega)).mono ?_
    rintro e y2 ⟨rfl, b2⟩
    replace B := B.trans (b2.mono B.size)
    clear b2
    go_wp2_with fail
    refine (l4I_in (0) (9) (y) (0) _ (by omega) (by omega) (by omega) (by omega) (by omega) (by omega) (by omega) (by omega)).mono ?_
    rintro e y3 ⟨rfl, b3⟩
    replace B := B.trans (b3.mono B.size)
    clear b3
    have S := WS.lit B [pW (25) (7) (z % kids), pI (0) (8) (x) (0), pI (0) (9) (y) (0)] (by simp)
    go_wp2_with fail
    go_wp2_with fail
    refine (l4W_in (25) (6) (z % kids) _ (by omega) (by omega) (by omega) (by omega) (by omega) (by omega)).mono ?_
    rintro e y4 ⟨rfl, b4⟩
    replace S := S.later b4
    clear b4
    go_wp2_with fail
    refine (l4I_in (22) (7) (2) (511) _ (by omega) (by omega) (by omega) (by omega) (by omega) (by omega) (by omega) (by omega)).mono ?_
    rintro e y5 ⟨rfl, b5⟩
    replace S := S.later b5
    clear b5
    go_wp2_with (at_builtin; refine app_words S [pW (25) (6) (z % kids), pI (22) (7) (2) (511)] rfl (.tmp 32) (.tmp 38) rfl rfl 2 rfl rfl rfl ?sz ?_)
    case sz => simp only [List.length_append, List.length_cons, List.length_nil, repL_len]; omega
    clear S
    intro v' w' S
    go_wp2_with fail
    refine (l4I_in (22) (6) (511) (2) _ (by omega) (by omega) (by omega) (by omega) (by omega) (by omega) (by omega) (by omega)).mono ?_
    rintro e y6 ⟨rfl, b6⟩
    replace S := S.later b6
    clear b6
    go_wp2_with fail
    refine (l4I_in (0) (y) (6) (0) _ (by omega) (by omega) (by omega) (by omega) (by omega) (by omega) (by omega) (by omega)).mono ?_
    rintro e y7 ⟨rfl, b7⟩
    replace S := S.later b7
    clear b7
    go_wp2_with (at_builtin; refine app_words S [pI (22) (6) (511) (2), pI (0) (y) (6) (0)] rfl (.tmp 40) (.tmp 44) rfl rfl 2 rfl rfl rfl ?sz ?_)
    case sz => simp only [List.length_append, List.length_cons, List.length_nil, repL_len]; omega
    clear S
    intro v' w' S
    go_wp2_with fail
    go_ret
    exact ⟨_, rfl, S⟩
  by_cases ze : z = 11
  · subst ze
    refine ⟨[pW (25) (7) (11 % kids), pI (0) (8) (x) (0), pI (0) (9) (y) (0)] ++ [pI (22) (7) (1) (511), pI (23) (6) (511) (0)], by simp, U32.append (U32.cons (pW_bd (by omega) (by omega) (by omega) (by omega) (by omega) (by omega)) (U32.cons (pI_bd (by omega) (by omega) (by omega) (by omega) (by omega) (by omega) (by omega) (by omega)) (U32.cons (pI_bd (by omega) (by omega) (by omega) (by omega) (by omega) (by omega) (by omega) (by omega)) (U32.nil)))) (U32.cons (pI_bd (by omega) (by omega) (by omega) (by omega) (by omega) (by omega) (by omega) (by omega)) (U32.cons (pI_bd (by omega) (by omega) (by omega) (by omega) (by omega) (by omega) (by omega) (by omega)) (U32.nil))), fun w => ?_⟩
    go_enter Try.func41, Try.ntmps41
    have B := Below.refl w.heap.size w
    go_wp2_with fail
    refine (l4W_in (25) (7) (11 % kids) _ (by omega) (by omega) (by omega) (by omega) (by omega) (by omega)).mono ?_
    rintro e y1 ⟨rfl, b1⟩
    replace B := B.trans (b1.mono B.size)
    clear b1
    go_wp2_with fail
    refine (l4I_in (0) (8) (x) (0) _ (by omega) (by omega) (by omega) (by omega) (by omega) (by omega) (by omega) (by omega)).mono ?_
    rintro e y2 ⟨rfl, b2⟩
    replace B := B.trans (b2.mono B.size)
    clear b2
    go_wp2_with fail
    refine (l4I_in (0) (9) (y) (0) _ (by omega) (by omega) (by omega) (by omega) (by omega) (by omega) (by omega) (by omega)).mono ?_
    rintro e y3 ⟨rfl, b3⟩
    replace B := B.trans (b3.mono B.size)
    clear b3
    have S := WS.lit B [pW (25) (7) (11 % kids), pI (0) (8) (x) (0), pI (0) (9) (y) (0)] (by simp)
    go_wp2_with fail
    go_wp2_with fail
    refine (l4I_in (22) (7) (1) (511) _ (by omega) (by omega) (by omega) (by omega) (by omega) (by omega) (by omega) (by omega)).mono ?_
    rintro e y4 ⟨rfl, b4⟩
    replace S := S.later b4
    clear b4
    go_wp2_with fail
    refine (l4I_in (23) (6) (511) (0) _ (by omega) (by omega) (by omega) (by omega) (by omega) (by omega) (by omega) (by omega)).mono ?_
    rintro e y5 ⟨rfl, b5⟩
    replace S := S.later b5
    clear b5
    go_wp2_with (at_builtin; refine app_words S [pI (22) (7) (1) (511), pI (23) (6) (511) (0)] rfl (.tmp 48) (.tmp 51) rfl rfl 2 rfl rfl rfl ?sz ?_)
    case sz => simp only [List.length_append, List.length_cons, List.length_nil, repL_len]; omega
    clear S
    intro v' w' S
    go_wp2_with fail
    go_ret
    exact ⟨_, rfl, S⟩
  · refine ⟨[pW (25) (7) (z % kids), pI (0) (8) (x) (0), pI (0) (9) (y) (0)] ++ [pI (22) (7) (0) (0)], by simp, U32.append (U32.cons (pW_bd (by omega) (by omega) (by omega) (by omega) (by omega) (by omega)) (U32.cons (pI_bd (by omega) (by omega) (by omega) (by omega) (by omega) (by omega) (by omega) (by omega)) (U32.cons (pI_bd (by omega) (by omega) (by omega) (by omega) (by omega) (by omega) (by omega) (by omega)) (U32.nil)))) (U32.cons (pI_bd (by omega) (by omega) (by omega) (by omega) (by omega) (by omega) (by omega) (by omega)) (U32.nil)), fun w => ?_⟩
    go_enter Try.func41, Try.ntmps41
    have B := Below.refl w.heap.size w
    go_wp2_with fail
    refine (l4W_in (25) (7) (z % kids) _ (by omega) (by omega) (by omega) (by omega) (by omega) (by omega)).mono ?_
    rintro e y1 ⟨rfl, b1⟩
    replace B := B.trans (b1.mono B.size)
    clear b1
    go_wp2_with fail
    refine (l4I_in (0) (8) (x) (0) _ (by omega) (by omega) (by omega) (by omega) (by omega) (by omega) (by omega) (by omega)).mono ?_
    rintro e y2 ⟨rfl, b2⟩
    replace B := B.trans (b2.mono B.size)
    clear b2
    go_wp2_with fail
    refine (l4I_in (0) (9) (y) (0) _ (by omega) (by omega) (by omega) (by omega) (by omega) (by omega) (by omega) (by omega)).mono ?_
    rintro e y3 ⟨rfl, b3⟩
    replace B := B.trans (b3.mono B.size)
    clear b3
    have S := WS.lit B [pW (25) (7) (z % kids), pI (0) (8) (x) (0), pI (0) (9) (y) (0)] (by simp)
    go_wp2_with fail
    go_wp2_with fail
    refine (l4I_in (22) (7) (0) (0) _ (by omega) (by omega) (by omega) (by omega) (by omega) (by omega) (by omega) (by omega)).mono ?_
    rintro e y4 ⟨rfl, b4⟩
    replace S := S.later b4
    clear b4
    go_wp2_with (at_builtin; refine app_words S [pI (22) (7) (0) (0)] rfl (.tmp 53) (.tmp 55) rfl rfl 1 rfl rfl rfl ?sz ?_)
    case sz => simp only [List.length_append, List.length_cons, List.length_nil, repL_len]; omega
    clear S
    intro v' w' S
    go_wp2_with fail
    go_ret
    exact ⟨_, rfl, S⟩
set_option maxRecDepth 100000 in
set_option maxHeartbeats 2000000 in
theorem l4ThreadBlock_in (x y z kids : Int) (h1 : 0 ≤ x ∧ x ≤ 3) (h2 : 0 ≤ y ∧ y ≤ 3) (h3 : 0 ≤ z ∧ z ≤ 15) (h4 : 1 ≤ kids ∧ kids ≤ 3) :
    ∃ L : List Int, L.length ≤ 40 ∧ U32 L ∧ ∀ w, Calls Try.prog 42 #[.int .i64 x, .int .i64 y, .int .i64 z, .int .i64 kids] w fun e w' => ∃ v, e = .returned v ∧ WS w w' v L := by
  obtain ⟨x1, x2⟩ := h1
  obtain ⟨y1, y2⟩ := h2
  obtain ⟨z1, z2⟩ := h3
  obtain ⟨k1, k2⟩ := h4
  have r1 := Int.emod_nonneg z (show kids ≠ 0 by omega)
  have r2 := Int.emod_lt_of_pos z (show 0 < kids by omega)
  by_cases ze : z = 15
  · replace ze : Hid (z = 15) := ze
    refine ⟨[pW (25) (7) (z % kids), pI (29) (6) (7) (0)] ++ repL ([pI (0) (7) (6) (0), pI (0) (8) (x) (0), pI (0) (9) (y) (0)] ++ [pI (30) (7) (2) (2)]) (1 + z % 3).toNat ++ [pI (0) (7) (6) (0), pI (30) (7) (0) (511), pI (23) (7) (511) (0)] ++ [pI (32) (10) (6) (0), pI (8) (4) (10) (8)] ++ [pI (21) (8) (0) (0), pW (18) (0) (1), pI (0) (x) (8) (0)], by simp only [List.length_append, repL_len, List.length_cons, List.length_nil]; omega, U32.append (U32.append (U32.append (U32.append (U32.cons (pW_bd (by omega) (by omega) (by omega) (by omega) (by omega) (by omega)) (U32.cons (pI_bd (by omega) (by omega) (by omega) (by omega) (by omega) (by omega) (by omega) (by omega)) (U32.nil))) (repL_u32 (U32.append (U32.cons (pI_bd (by omega) (by omega) (by omega) (by omega) (by omega) (by omega) (by omega) (by omega)) (U32.cons (pI_bd (by omega) (by omega) (by omega) (by omega) (by omega) (by omega) (by omega) (by omega)) (U32.cons (pI_bd (by omega) (by omega) (by omega) (by omega) (by omega) (by omega) (by omega) (by omega)) (U32.nil)))) (U32.cons (pI_bd (by omega) (by omega) (by omega) (by omega) (by omega) (by omega) (by omega) (by omega)) (U32.nil))) _)) (U32.cons (pI_bd (by omega) (by omega) (by omega) (by omega) (by omega) (by omega) (by omega) (by omega)) (U32.cons (pI_bd (by omega) (by omega) (by omega) (by omega) (by omega) (by omega) (by omega) (by omega)) (U32.cons (pI_bd (by omega) (by omega) (by omega) (by omega) (by omega) (by omega) (by omega) (by omega)) (U32.nil))))) (U32.cons (pI_bd (by omega) (by omega) (by omega) (by omega) (by omega) (by omega) (by omega) (by omega)) (U32.cons (pI_bd (by omega) (by omega) (by omega) (by omega) (by omega) (by omega) (by omega) (by omega)) (U32.nil)))) (U32.cons (pI_bd (by omega) (by omega) (by omega) (by omega) (by omega) (by omega) (by omega) (by omega)) (U32.cons (pW_bd (by omega) (by omega) (by omega) (by omega) (by omega) (by omega)) (U32.cons (pI_bd (by omega) (by omega) (by omega) (by omega) (by omega) (by omega) (by omega) (by omega)) (U32.nil)))), fun w => ?_⟩
    go_enter Try.func42, Try.ntmps42
    have B := Below.refl w.heap.size w
    go_wp2_with fail
    refine (l4W_in (25) (7) (z % kids) _ (by omega) (by omega) (by omega) (by omega) (by omega) (by omega)).mono ?_
    rintro e y1 ⟨rfl, b1⟩
    replace B := B.trans (b1.mono B.size)
    clear b1
    go_wp2_with fail
    refine (l4I_in (29) (6) (7) (0) _ (by omega) (by omega) (by omega) (by omega) (by omega) (by omega) (by omega) (by omega)).mono ?_
    rintro e y2 ⟨rfl, b2⟩
    replace B := B.trans (b2.mono B.size)
    clear b2
    have S := WS.lit B [pW (25) (7) (z % kids), pI (29) (6) (7) (0)] (by simp)
    go_wp2_with fail
    go_loopw [9, 10] (fun o i wr => ∃ i' : Nat, i = .int .i64 (i' : Int) ∧ i' ≤ (1 + z % 3).toNat ∧ Hid (WS w wr o ([pW (25) (7) (z % kids), pI (29) (6) (7) (0)] ++ repL ([pI (0) (7) (6) (0), pI (0) (8) (x) (0), pI (0) (9) (y) (0)] ++ [pI (30) (7) (2) (2)]) i')))
      (fun _ i _ => (1 + z % 3).toNat - (intOf i).toNat)
    case atStart => exact ⟨0, rfl, by omega, (by show WS w _ _ ([pW (25) (7) (z % kids), pI (29) (6) (7) (0)] ++ []); rw [List.append_nil]; exact S)⟩
    case round =>
      obtain ⟨i', rfl, hin, hT⟩ := hrel
      obtain ⟨wz, hwz⟩ : ∃ x, x = wr := ⟨_, rfl⟩
      subst hwz
      by_cases hlt : i' < (1 + z % 3).toNat
      · have hii : (i' : Int) < 1 + z % 3 := by omega
        have hlen : (repL ([pI (0) (7) (6) (0), pI (0) (8) (x) (0), pI (0) (9) (y) (0)] ++ [pI (30) (7) (2) (2)]) i').length ≤ 1000 := by rw [repL_len]; simp only [List.length_append, List.length_cons, List.length_nil]; omega
        have S : WS w wz u9 ([pW (25) (7) (z % kids), pI (29) (6) (7) (0)] ++ repL ([pI (0) (7) (6) (0), pI (0) (8) (x) (0), pI (0) (9) (y) (0)] ++ [pI (30) (7) (2) (2)]) i') := hT.out
        clear hT
        go_wp2_with fail
        refine (l4I_in (0) (7) (6) (0) _ (by omega) (by omega) (by omega) (by omega) (by omega) (by omega) (by omega) (by omega)).mono ?_
        rintro e y3 ⟨rfl, b3⟩
        replace S := S.later b3
        clear b3
        go_wp2_with fail
        refine (l4I_in (0) (8) (x) (0) _ (by omega) (by omega) (by omega) (by omega) (by omega) (by omega) (by omega) (by omega)).mono ?_
        rintro e y4 ⟨rfl, b4⟩
        replace S := S.later b4
        clear b4
        go_wp2_with fail
        refine (l4I_in (0) (9) (y) (0) _ (by omega) (by omega) (by omega) (by omega) (by omega) (by omega) (by omega) (by omega)).mono ?_
        rintro e y5 ⟨rfl, b5⟩
        replace S := S.later b5
        clear b5
        go_wp2_with (at_builtin; refine app_words S [pI (0) (7) (6) (0), pI (0) (8) (x) (0), pI (0) (9) (y) (0)] rfl (.tmp 24) (.tmp 30) rfl rfl 3 rfl rfl rfl ?sz ?_)
        case sz => simp only [List.length_append, List.length_cons, List.length_nil, repL_len]; omega
        clear S
        intro v' w' S
        go_wp2_with fail
        refine (l4I_in (30) (7) (2) (2) _ (by omega) (by omega) (by omega) (by omega) (by omega) (by omega) (by omega) (by omega)).mono ?_
        rintro e y6 ⟨rfl, b6⟩
        replace S := S.later b6
        clear b6
        go_wp2_with (at_builtin; refine app_words S [pI (30) (7) (2) (2)] rfl (.tmp 32) (.tmp 34) rfl rfl 1 rfl rfl rfl ?sz ?_)
        case sz => simp only [List.length_append, List.length_cons, List.length_nil, repL_len]; omega
        clear S
        intro v' w' S
        have hT1 : Hid (WS w w' v' ([pW (25) (7) (z % kids), pI (29) (6) (7) (0)] ++ repL ([pI (0) (7) (6) (0), pI (0) (8) (x) (0), pI (0) (9) (y) (0)] ++ [pI (30) (7) (2) (2)]) (i' + 1))) := by
          show WS w w' v' ([pW (25) (7) (z % kids), pI (29) (6) (7) (0)] ++ (repL ([pI (0) (7) (6) (0), pI (0) (8) (x) (0), pI (0) (9) (y) (0)] ++ [pI (30) (7) (2) (2)]) i' ++ ([pI (0) (7) (6) (0), pI (0) (8) (x) (0), pI (0) (9) (y) (0)] ++ [pI (30) (7) (2) (2)])))
          simpa only [List.append_assoc, List.cons_append, List.nil_append] using S
        clear S
        go_wp2_with fail
        go_roundw
        case rel => exact ⟨i' + 1, by go_num, by omega, hT1.out⟩
        case measure => simp [intOf]; omega
      · obtain rfl : i' = (1 + z % 3).toNat := by omega
        have hlen : (repL ([pI (0) (7) (6) (0), pI (0) (8) (x) (0), pI (0) (9) (y) (0)] ++ [pI (30) (7) (2) (2)]) (1 + z % 3).toNat).length ≤ 1000 := by rw [repL_len]; simp only [List.length_append, List.length_cons, List.length_nil]; omega
        have S : WS w wz u9 ([pW (25) (7) (z % kids), pI (29) (6) (7) (0)] ++ repL ([pI (0) (7) (6) (0), pI (0) (8) (x) (0), pI (0) (9) (y) (0)] ++ [pI (30) (7) (2) (2)]) (1 + z % 3).toNat) := hT.out
        clear hT
        have hnn : ¬ (((1 + z % 3).toNat : Int) < 1 + z % 3) := by omega
        have ze2 := ze.out
        go_wp2_with fail
        refine (l4I_in (0) (7) (6) (0) _ (by omega) (by omega) (by omega) (by omega) (by omega) (by omega) (by omega) (by omega)).mono ?_
        rintro e y7 ⟨rfl, b7⟩
        replace S := S.later b7
        clear b7
        go_wp2_with fail
        refine (l4I_in (30) (7) (0) (511) _ (by omega) (by omega) (by omega) (by omega) (by omega) (by omega) (by omega) (by omega)).mono ?_
        rintro e y8 ⟨rfl, b8⟩
        replace S := S.later b8
        clear b8
        go_wp2_with fail
        refine (l4I_in (23) (7) (511) (0) _ (by omega) (by omega) (by omega) (by omega) (by omega) (by omega) (by omega) (by omega)).mono ?_
        rintro e y9 ⟨rfl, b9⟩
        replace S := S.later b9
        clear b9
        go_wp2_with (at_builtin; refine app_words S [pI (0) (7) (6) (0), pI (30) (7) (0) (511), pI (23) (7) (511) (0)] rfl (.tmp 38) (.tmp 42) rfl rfl 3 rfl rfl rfl ?sz ?_)
        case sz => simp only [List.length_append, List.length_cons, List.length_nil, repL_len]; omega
        clear S
        intro v' w' S
        go_wp2_with fail
        refine (l4I_in (32) (10) (6) (0) _ (by omega) (by omega) (by omega) (by omega) (by omega) (by omega) (by omega) (by omega)).mono ?_
        rintro e y10 ⟨rfl, b10⟩
        replace S := S.later b10
        clear b10
        go_wp2_with fail
        refine (l4I_in (8) (4) (10) (8) _ (by omega) (by omega) (by omega) (by omega) (by omega) (by omega) (by omega) (by omega)).mono ?_
        rintro e y11 ⟨rfl, b11⟩
        replace S := S.later b11
        clear b11
        go_wp2_with (at_builtin; refine app_words S [pI (32) (10) (6) (0), pI (8) (4) (10) (8)] rfl (.tmp 44) (.tmp 47) rfl rfl 2 rfl rfl rfl ?sz ?_)
        case sz => simp only [List.length_append, List.length_cons, List.length_nil, repL_len]; omega
        clear S
        intro v' w' S
        go_wp2_with fail
        refine (l4I_in (21) (8) (0) (0) _ (by omega) (by omega) (by omega) (by omega) (by omega) (by omega) (by omega) (by omega)).mono ?_
        rintro e y12 ⟨rfl, b12⟩
        replace S := S.later b12
        clear b12
        go_wp2_with fail
        refine (l4W_in (18) (0) (1) _ (by omega) (by omega) (by omega) (by omega) (by omega) (by omega)).mono ?_
        rintro e y13 ⟨rfl, b13⟩
        replace S := S.later b13
        clear b13
        go_wp2_with fail
        refine (l4I_in (0) (x) (8) (0) _ (by omega) (by omega) (by omega) (by omega) (by omega) (by omega) (by omega) (by omega)).mono ?_
        rintro e y14 ⟨rfl, b14⟩
        replace S := S.later b14
        clear b14
        go_wp2_with (at_builtin; refine app_words S [pI (21) (8) (0) (0), pW (18) (0) (1), pI (0) (x) (8) (0)] rfl (.tmp 49) (.tmp 54) rfl rfl 3 rfl rfl rfl ?sz ?_)
        case sz => simp only [List.length_append, List.length_cons, List.length_nil, repL_len]; omega
        clear S
        intro v' w' S
        go_wp2_with fail
        go_ret
        refine ⟨v', rfl, ?_⟩
        rw [ze.out]
        simpa [List.append_assoc] using S
  · refine ⟨[pW (25) (7) (z % kids), pI (29) (6) (7) (0)] ++ repL ([pI (0) (7) (6) (0), pI (0) (8) (x) (0), pI (0) (9) (y) (0)] ++ [pI (30) (7) (2) (2)]) (1 + z % 3).toNat ++ [pI (32) (10) (6) (0), pI (8) (4) (10) (8)] ++ [pI (21) (8) (0) (0), pW (18) (0) (1), pI (0) (x) (8) (0)], by simp only [List.length_append, repL_len, List.length_cons, List.length_nil]; omega, U32.append (U32.append (U32.append (U32.cons (pW_bd (by omega) (by omega) (by omega) (by omega) (by omega) (by omega)) (U32.cons (pI_bd (by omega) (by omega) (by omega) (by omega) (by omega) (by omega) (by omega) (by omega)) (U32.nil))) (repL_u32 (U32.append (U32.cons (pI_bd (by omega) (by omega) (by omega) (by omega) (by omega) (by omega) (by omega) (by omega)) (U32.cons (pI_bd (by omega) (by omega) (by omega) (by omega) (by omega) (by omega) (by omega) (by omega)) (U32.cons (pI_bd (by omega) (by omega) (by omega) (by omega) (by omega) (by omega) (by omega) (by omega)) (U32.nil)))) (U32.cons (pI_bd (by omega) (by omega) (by omega) (by omega) (by omega) (by omega) (by omega) (by omega)) (U32.nil))) _)) (U32.cons (pI_bd (by omega) (by omega) (by omega) (by omega) (by omega) (by omega) (by omega) (by omega)) (U32.cons (pI_bd (by omega) (by omega) (by omega) (by omega) (by omega) (by omega) (by omega) (by omega)) (U32.nil)))) (U32.cons (pI_bd (by omega) (by omega) (by omega) (by omega) (by omega) (by omega) (by omega) (by omega)) (U32.cons (pW_bd (by omega) (by omega) (by omega) (by omega) (by omega) (by omega)) (U32.cons (pI_bd (by omega) (by omega) (by omega) (by omega) (by omega) (by omega) (by omega) (by omega)) (U32.nil)))), fun w => ?_⟩
    go_enter Try.func42, Try.ntmps42
    have B := Below.refl w.heap.size w
    go_wp2_with fail
    refine (l4W_in (25) (7) (z % kids) _ (by omega) (by omega) (by omega) (by omega) (by omega) (by omega)).mono ?_
    rintro e y1 ⟨rfl, b1⟩
    replace B := B.trans (b1.mono B.size)
    clear b1
    go_wp2_with fail
    refine (l4I_in (29) (6) (7) (0) _ (by omega) (by omega) (by omega) (by omega) (by omega) (by omega) (by omega) (by omega)).mono ?_
    rintro e y2 ⟨rfl, b2⟩
    replace B := B.trans (b2.mono B.size)
    clear b2
    have S := WS.lit B [pW (25) (7) (z % kids), pI (29) (6) (7) (0)] (by simp)
    go_wp2_with fail
    go_loopw [9, 10] (fun o i wr => ∃ i' : Nat, i = .int .i64 (i' : Int) ∧ i' ≤ (1 + z % 3).toNat ∧ Hid (WS w wr o ([pW (25) (7) (z % kids), pI (29) (6) (7) (0)] ++ repL ([pI (0) (7) (6) (0), pI (0) (8) (x) (0), pI (0) (9) (y) (0)] ++ [pI (30) (7) (2) (2)]) i')))
      (fun _ i _ => (1 + z % 3).toNat - (intOf i).toNat)
    case atStart => exact ⟨0, rfl, by omega, (by show WS w _ _ ([pW (25) (7) (z % kids), pI (29) (6) (7) (0)] ++ []); rw [List.append_nil]; exact S)⟩
    case round =>
      obtain ⟨i', rfl, hin, hT⟩ := hrel
      obtain ⟨wz, hwz⟩ : ∃ x, x = wr := ⟨_, rfl⟩
      subst hwz
      by_cases hlt : i' < (1 + z % 3).toNat
      · have hii : (i' : Int) < 1 + z % 3 := by omega
        have hlen : (repL ([pI (0) (7) (6) (0), pI (0) (8) (x) (0), pI (0) (9) (y) (0)] ++ [pI (30) (7) (2) (2)]) i').length ≤ 1000 := by rw [repL_len]; simp only [List.length_append, List.length_cons, List.length_nil]; omega
        have S : WS w wz u9 ([pW (25) (7) (z % kids), pI (29) (6) (7) (0)] ++ repL ([pI (0) (7) (6) (0), pI (0) (8) (x) (0), pI (0) (9) (y) (0)] ++ [pI (30) (7) (2) (2)]) i') := hT.out
        clear hT
        go_wp2_with fail
        refine (l4I_in (0) (7) (6) (0) _ (by omega) (by omega) (by omega) (by omega) (by omega) (by omega) (by omega) (by omega)).mono ?_
        rintro e y3 ⟨rfl, b3⟩
        replace S := S.later b3
        clear b3
        go_wp2_with fail
        refine (l4I_in (0) (8) (x) (0) _ (by omega) (by omega) (by omega) (by omega) (by omega) (by omega) (by omega) (by omega)).mono ?_
        rintro e y4 ⟨rfl, b4⟩
        replace S := S.later b4
        clear b4
        go_wp2_with fail
        refine (l4I_in (0) (9) (y) (0) _ (by omega) (by omega) (by omega) (by omega) (by omega) (by omega) (by omega) (by omega)).mono ?_
        rintro e y5 ⟨rfl, b5⟩
        replace S := S.later b5
        clear b5
        go_wp2_with (at_builtin; refine app_words S [pI (0) (7) (6) (0), pI (0) (8) (x) (0), pI (0) (9) (y) (0)] rfl (.tmp 24) (.tmp 30) rfl rfl 3 rfl rfl rfl ?sz ?_)
        case sz => simp only [List.length_append, List.length_cons, List.length_nil, repL_len]; omega
        clear S
        intro v' w' S
        go_wp2_with fail
        refine (l4I_in (30) (7) (2) (2) _ (by omega) (by omega) (by omega) (by omega) (by omega) (by omega) (by omega) (by omega)).mono ?_
        rintro e y6 ⟨rfl, b6⟩
        replace S := S.later b6
        clear b6
        go_wp2_with (at_builtin; refine app_words S [pI (30) (7) (2) (2)] rfl (.tmp 32) (.tmp 34) rfl rfl 1 rfl rfl rfl ?sz ?_)
        case sz => simp only [List.length_append, List.length_cons, List.length_nil, repL_len]; omega
        clear S
        intro v' w' S
        have hT1 : Hid (WS w w' v' ([pW (25) (7) (z % kids), pI (29) (6) (7) (0)] ++ repL ([pI (0) (7) (6) (0), pI (0) (8) (x) (0), pI (0) (9) (y) (0)] ++ [pI (30) (7) (2) (2)]) (i' + 1))) := by
          show WS w w' v' ([pW (25) (7) (z % kids), pI (29) (6) (7) (0)] ++ (repL ([pI (0) (7) (6) (0), pI (0) (8) (x) (0), pI (0) (9) (y) (0)] ++ [pI (30) (7) (2) (2)]) i' ++ ([pI (0) (7) (6) (0), pI (0) (8) (x) (0), pI (0) (9) (y) (0)] ++ [pI (30) (7) (2) (2)])))
          simpa only [List.append_assoc, List.cons_append, List.nil_append] using S
        clear S
        go_wp2_with fail
        go_roundw
        case rel => exact ⟨i' + 1, by go_num, by omega, hT1.out⟩
        case measure => simp [intOf]; omega
      · obtain rfl : i' = (1 + z % 3).toNat := by omega
        have hlen : (repL ([pI (0) (7) (6) (0), pI (0) (8) (x) (0), pI (0) (9) (y) (0)] ++ [pI (30) (7) (2) (2)]) (1 + z % 3).toNat).length ≤ 1000 := by rw [repL_len]; simp only [List.length_append, List.length_cons, List.length_nil]; omega
        have S : WS w wz u9 ([pW (25) (7) (z % kids), pI (29) (6) (7) (0)] ++ repL ([pI (0) (7) (6) (0), pI (0) (8) (x) (0), pI (0) (9) (y) (0)] ++ [pI (30) (7) (2) (2)]) (1 + z % 3).toNat) := hT.out
        clear hT
        have hnn : ¬ (((1 + z % 3).toNat : Int) < 1 + z % 3) := by omega
        go_wp2_with fail
        refine (l4I_in (32) (10) (6) (0) _ (by omega) (by omega) (by omega) (by omega) (by omega) (by omega) (by omega) (by omega)).mono ?_
        rintro e y7 ⟨rfl, b7⟩
        replace S := S.later b7
        clear b7
        go_wp2_with fail
        refine (l4I_in (8) (4) (10) (8) _ (by omega) (by omega) (by omega) (by omega) (by omega) (by omega) (by omega) (by omega)).mono ?_
        rintro e y8 ⟨rfl, b8⟩
        replace S := S.later b8
        clear b8
        go_wp2_with (at_builtin; refine app_words S [pI (32) (10) (6) (0), pI (8) (4) (10) (8)] rfl (.tmp 44) (.tmp 47) rfl rfl 2 rfl rfl rfl ?sz ?_)
        case sz => simp only [List.length_append, List.length_cons, List.length_nil, repL_len]; omega
        clear S
        intro v' w' S
        go_wp2_with fail
        refine (l4I_in (21) (8) (0) (0) _ (by omega) (by omega) (by omega) (by omega) (by omega) (by omega) (by omega) (by omega)).mono ?_
        rintro e y9 ⟨rfl, b9⟩
        replace S := S.later b9
        clear b9
        go_wp2_with fail
        refine (l4W_in (18) (0) (1) _ (by omega) (by omega) (by omega) (by omega) (by omega) (by omega)).mono ?_
        rintro e y10 ⟨rfl, b10⟩
        replace S := S.later b10
        clear b10
        go_wp2_with fail
        refine (l4I_in (0) (x) (8) (0) _ (by omega) (by omega) (by omega) (by omega) (by omega) (by omega) (by omega) (by omega)).mono ?_
        rintro e y11 ⟨rfl, b11⟩
        replace S := S.later b11
        clear b11
        go_wp2_with (at_builtin; refine app_words S [pI (21) (8) (0) (0), pW (18) (0) (1), pI (0) (x) (8) (0)] rfl (.tmp 49) (.tmp 54) rfl rfl 3 rfl rfl rfl ?sz ?_)
        case sz => simp only [List.length_append, List.length_cons, List.length_nil, repL_len]; omega
        clear S
        intro v' w' S
        go_wp2_with fail
        go_ret
        refine ⟨v', rfl, ?_⟩
        simpa only [List.append_assoc, List.cons_append, List.nil_append] using S
end Go.Proofs.Ytlkmohhkhcbiaaa

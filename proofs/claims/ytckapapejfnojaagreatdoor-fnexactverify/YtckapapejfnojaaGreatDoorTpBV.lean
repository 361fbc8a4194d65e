import Derived.Test.YtckapapejfnojaaGreatDoorTpAV
import Derived.Test.YtckapapejfnojaaGreatDoorGAV
import Derived.Maps.AppendAt
import Derived.Deep.AppendLies
namespace Go.Proofs.YtckapapejfnojaaGreatDoor
open Go.RowKit Go.Shelf
set_option linter.unusedVariables false
set_option linter.unusedSimpArgs false
attribute [local go_sem] Oper.semAt_some
theorem folO_len (pc op s : Int) : (folO pc op s).length ≤ 2 := by
  unfold folO
  repeat' split
  all_goals simp
/-- how many places have not been reached. -/
def cntF (R : Nat → Bool) : Nat → Nat
  | 0 => 0
  | n + 1 => cntF R n + (if R n then 0 else 1)
def cntW (w : World) (g : Nat) : Nat → Nat
  | 0 => 0
  | n + 1 => cntW w g n + (match w.cell? ⟨g, n, none⟩ with | some (.bool true) => 0 | _ => 1)
theorem cntF_le (R R' : Nat → Bool) (h : ∀ i, R i = true → R' i = true) : ∀ n, cntF R' n ≤ cntF R n := by
  intro n
  induction n with
  | zero => exact Nat.le_refl _
  | succ n ih =>
    simp only [cntF]
    by_cases hr : R n = true
    · simp [hr, h n hr, ih]
    · cases h' : R' n <;> simp [hr, ih] <;> omega
def setB (R : Nat → Bool) (t : Nat) : Nat → Bool := fun i => decide (i = t) || R i
theorem setB_same (R : Nat → Bool) (t : Nat) : setB R t t = true := by simp [setB]
theorem setB_other {R : Nat → Bool} {t i : Nat} (h : i ≠ t) : setB R t i = R i := by simp [setB, h]
theorem setB_mono {R : Nat → Bool} {t i : Nat} (h : R i = true) : setB R t i = true := by simp [setB, h]
theorem cntF_lt (R : Nat → Bool) (t : Nat) (ht : R t = false) : ∀ n, t < n → cntF (setB R t) n < cntF R n := by
  intro n
  induction n with
  | zero => intro h; omega
  | succ n ih =>
    intro h
    simp only [cntF]
    by_cases e : n = t
    · subst e
      have := cntF_le R (setB R n) (fun i hi => setB_mono hi) n
      rw [setB_same, ht]
      simp
      omega
    · have := ih (by omega)
      rw [setB_other e]
      omega
/-- while the reachable places are looked for. -/
structure RS (w : World) (bx : List Value) (n : Nat) (R : Nat → Bool) (y : World) : Prop where
  box : RowL y w.heap.size 52 bx
  row : y.rowIs (w.heap.size + 1) 4 n (fun i => .bool (R i))
  bel : Below w.heap.size w y
section
variable {w : World} {bx : List Value} {n : Nat} {R : Nat → Bool} {y y' : World}
theorem RS.later (h : RS w bx n R y) (hb : Below y.heap.size y y') : RS w bx n R y' :=
  ⟨h.box.call hb, World.rowIs.of_block h.row (hb.block _ (World.rowIs.lt h.row)), h.bel.trans (hb.mono h.bel.size)⟩
theorem RS.set (h : RS w bx n R y) (t : Nat) : RS w bx n (setB R t) (y.setCell ⟨w.heap.size + 1, t, none⟩ (.bool true)) := by
  refine ⟨h.box.other (a := ⟨w.heap.size + 1, t, none⟩) (by show w.heap.size ≠ w.heap.size + 1; omega) _, ?_, h.bel.setCell (p := ⟨w.heap.size + 1, t, none⟩) (by show w.heap.size ≤ w.heap.size + 1; omega) _⟩
  refine (World.rowIs.set h.row t (.bool true)).congr fun i hi => ?_
  by_cases e : i = t
  · subst e; simp [setB_same]
  · simp [setB_other e, e]
theorem RS.cnt (h : RS w bx n R y) : ∀ m, m ≤ n → cntW y (w.heap.size + 1) m = cntF R m := by
  intro m
  induction m with
  | zero => intro _; rfl
  | succ m ih =>
    intro hm
    simp only [cntW, cntF]
    rw [ih (by omega), h.row.cell (show m < n by omega)]
    cases R m <;> simp
end
theorem RS.grown {w : World} {bx : List Value} {n : Nat} {R : Nat → Bool} {y y' : World} (h : RS w bx n R y) {row : Option Nat} (hg : y.grownBy y' row) (hr : ∀ k, row = some k → w.heap.size + 1 < k) : RS w bx n R y' := by
  have hk : ∀ k, k < y.heap.size → k ≤ w.heap.size + 1 → y'.heap[k]? = y.heap[k]? := fun k h1 h2 => hg.block k h1 fun e => by have := hr k e.symm; omega
  exact ⟨World.rowIs.of_block h.box (hk _ h.box.lt (by omega)), World.rowIs.of_block h.row (hk _ (World.rowIs.lt h.row) (by omega)), Below.grown h.bel hg h.bel.size fun k hk1 => by have := hr k hk1; omega⟩
theorem RS.setFar {w : World} {bx : List Value} {n : Nat} {R : Nat → Bool} {y : World} (h : RS w bx n R y) {g : Nat} (hg : w.heap.size + 1 < g) (f : Nat) (v : Value) : RS w bx n R (y.setCell ⟨g, f, none⟩ v) :=
  ⟨h.box.other (a := ⟨g, f, none⟩) (by show w.heap.size ≠ g; omega) _, World.rowIs.setOther h.row (a := ⟨g, f, none⟩) (by show w.heap.size + 1 ≠ g; omega) _, h.bel.setCell (p := ⟨g, f, none⟩) (by show w.heap.size ≤ g; omega) _⟩
/-- while the ways are put together. -/
structure TS (w : World) (bx : List Value) (n : Nat) (R : Nat → Bool) (lo g cp : Nat) (tv : Nat → Int) (y : World) : Prop where
  rs : RS w bx n R y
  row : y.ownsRow lo 3 1 (.slice (some ⟨g, 0, none⟩) n cp) n ((List.range n).map fun i => .int .i64 (tv i))
  hlo : w.heap.size + 2 ≤ lo
section
variable {w : World} {bx : List Value} {n : Nat} {R : Nat → Bool} {lo g cp : Nat} {tv : Nat → Int} {y y' : World}
theorem TS.later (h : TS w bx n R lo g cp tv y) (hb : Below y.heap.size y y') : TS w bx n R lo g cp tv y' := ⟨h.rs.later hb, ⟨h.row.1, by
  rcases h.row.2 with hn | ⟨g', cap, cur, hv, hbb, hg, rest⟩
  · exact .inl hn
  · exact .inr ⟨g', cap, cur, hv, hbb, (hb.block g' (Array.getElem?_eq_some_iff.1 hg).1).trans hg, rest⟩⟩, h.hlo⟩
theorem TS.cell (h : TS w bx n R lo g cp tv y) {t : Nat} (ht : t < n) : y.cell? ⟨g, t, none⟩ = some (.int .i64 (tv t)) := by
  rw [h.row.cellAt t (by omega)]
  simp [ht]
theorem TS.ints (h : TS w bx n R lo g cp tv y) (hn : n ≤ 2000) : IsInts .i64 (fun b => w.heap.size ≤ b ∧ b < y.heap.size) y (.slice (some ⟨g, 0, none⟩) n cp) ⟨n, tv⟩ := by
  have hg := h.row.lt g rfl
  have hl := h.hlo
  refine ⟨_, _, rfl, by show n ≤ _; omega, fun _ => ⟨g, 0, rfl, ⟨by omega, hg.2⟩, fun i hi j hj => ?_⟩⟩
  obtain rfl : j = 0 := by omega
  rw [Nat.zero_add, Nat.mul_one, Nat.add_zero]
  exact h.cell hi
def setT (tv : Nat → Int) (t : Nat) (v : Int) : Nat → Int := fun i => if i = t then v else tv i
theorem TS.set (h : TS w bx n R lo g cp tv y) (t : Nat) (v : Int) : TS w bx n R lo g cp (setT tv t v) (y.setCell ⟨g, t, none⟩ (.int .i64 v)) := by
  have hg := (h.row.lt g rfl).1
  have hl := h.hlo
  refine ⟨h.rs.setFar (by omega) _ _, ?_, h.hlo⟩
  have hs := (h.row.stored t (.int .i64 v)).1
  have e : ((List.range n).map fun i => Value.int .i64 (tv i)).set t (.int .i64 v) = (List.range n).map fun i => .int .i64 (setT tv t v i) := by
    refine List.ext_getElem (by simp) fun i h1 h2 => ?_
    by_cases e : t = i
    · subst e; simp [setT]
    · simp [setT, e, Ne.symm e]
  rw [e] at hs
  exact hs
end
/-- the ways out of the places before p. -/
def WD (c : Sl Int) (R : Nat → Bool) (p t : Nat) (x : Int) : Prop := (t = 0 ∧ x = -1) ∨ ∃ a, a < p ∧ R a = true ∧ folN c a t ∧ x = wayW (c.f a)
/-- and the first k out of p. -/
def WK (c : Sl Int) (R : Nat → Bool) (L : List Int) (p k t : Nat) (x : Int) : Prop := WD c R p t x ∨ (R p = true ∧ x = wayW (c.f p) ∧ ∃ j, j < k ∧ L[j]? = some (t : Int))
theorem WK.zero (c : Sl Int) (R : Nat → Bool) (L : List Int) (p t : Nat) (x : Int) : WD c R p t x ↔ WK c R L p 0 t x := ⟨.inl, fun h => h.elim id fun ⟨_, _, j, h, _⟩ => absurd h (by omega)⟩
theorem WK.done {c : Sl Int} {R : Nat → Bool} {L : List Int} {p k t : Nat} (hp : p < c.n) (ht : t < c.n) (hL : L = folW (p : Int) (c.f p)) (hd : R p = false ∨ L.length ≤ k) (x : Int) : WK c R L p k t x ↔ WD c R (p + 1) t x := by
  constructor
  · rintro ((h | ⟨a, h1, h2⟩) | ⟨h1, h2, j, hj, hx⟩)
    · exact .inl h
    · exact .inr ⟨a, by omega, h2⟩
    · exact .inr ⟨p, by omega, h1, ⟨hp, ht, hL ▸ List.mem_of_getElem? hx⟩, h2⟩
  · rintro (h | ⟨a, h1, h2, h3, h4⟩)
    · exact .inl (.inl h)
    · by_cases e : a = p
      · subst e
        rcases hd with h | h
        · rw [h] at h2; simp at h2
        · obtain ⟨-, -, hm⟩ := h3
          rw [← hL] at hm
          obtain ⟨j, hj, hx⟩ := List.getElem_of_mem hm
          exact .inr ⟨h2, h4, j, by omega, by rw [List.getElem?_eq_getElem hj, hx]⟩
      · exact .inl (.inr ⟨a, by omega, h2, h3, h4⟩)
theorem WK.skip {c : Sl Int} {R : Nat → Bool} {L : List Int} {p k t : Nat} (h : L[k]? ≠ some (t : Int)) (x : Int) : WK c R L p k t x ↔ WK c R L p (k + 1) t x := by
  constructor
  · rintro (h1 | ⟨h1, h2, j, hj, hx⟩)
    · exact .inl h1
    · exact .inr ⟨h1, h2, j, by omega, hx⟩
  · rintro (h1 | ⟨h1, h2, j, hj, hx⟩)
    · exact .inl h1
    · by_cases e : j = k
      · subst e; exact absurd hx h
      · exact .inr ⟨h1, h2, j, by omega, hx⟩
theorem WK.hit {c : Sl Int} {R : Nat → Bool} {L : List Int} {p k t : Nat} (hR : R p = true) (h : L[k]? = some (t : Int)) (x : Int) : (WK c R L p k t x ∨ x = wayW (c.f p)) ↔ WK c R L p (k + 1) t x := by
  constructor
  · rintro ((h1 | ⟨h1, h2, j, hj, hx⟩) | rfl)
    · exact .inl h1
    · exact .inr ⟨h1, h2, j, by omega, hx⟩
    · exact .inr ⟨hR, rfl, k, by omega, h⟩
  · rintro (h1 | ⟨h1, h2, j, hj, hx⟩)
    · exact .inl (.inl h1)
    · exact .inr h2
/-- whatever follows a reached place is reached. -/
def Clo (c : Sl Int) (R : Nat → Bool) : Prop := ∀ a b, R a = true → folN c a b → R b = true
/-- how far a round has come: something new was reached, or all is as it was and closed so far. -/
def PrB (c : Sl Int) (R R' : Nat → Bool) (q : Bool) (p : Nat) : Prop := (q = true ∧ cntF R' c.n < cntF R c.n) ∨ (q = false ∧ R' = R ∧ ∀ a b, a < p → R a = true → folN c a b → R b = true)
def PrC (c : Sl Int) (L : List Int) (R R' : Nat → Bool) (q : Bool) (p k : Nat) : Prop := (q = true ∧ cntF R' c.n < cntF R c.n) ∨ (q = false ∧ R' = R ∧ (∀ a b, a < p → R a = true → folN c a b → R b = true) ∧ ∀ j, j < k → ∀ t : Nat, L[j]? = some (t : Int) → t < c.n → R t = true)
theorem PrC.skip {c : Sl Int} {L : List Int} {R R' : Nat → Bool} {q : Bool} {p k : Nat} (h : PrC c L R R' q p k) (hk : ∀ t : Nat, L[k]? = some (t : Int) → t < c.n → R' t = true) : PrC c L R R' q p (k + 1) := by
  rcases h with h | ⟨h1, rfl, h3, h4⟩
  · exact .inl h
  · refine .inr ⟨h1, rfl, h3, fun j hj t ht htn => ?_⟩
    by_cases e : j = k
    · subst e; exact hk t ht htn
    · exact h4 j (by omega) t ht htn
theorem PrC.more {c : Sl Int} {L : List Int} {R R' : Nat → Bool} {q : Bool} {p k t k' : Nat} (h : PrC c L R R' q p k) (ht : R' t = false) (htn : t < c.n) : PrC c L R (setB R' t) true p k' := by
  have hl := cntF_lt R' t ht c.n htn
  rcases h with h | ⟨h1, rfl, h3, h4⟩
  · exact .inl ⟨rfl, by omega⟩
  · exact .inl ⟨rfl, hl⟩
theorem PrC.done {c : Sl Int} {L : List Int} {R R' : Nat → Bool} {q : Bool} {p k : Nat} (h : PrC c L R R' q p k) (hL : L = folW (p : Int) (c.f p)) (hd : R' p = false ∨ L.length ≤ k) : PrB c R R' q (p + 1) := by
  rcases h with h | ⟨h1, rfl, h3, h4⟩
  · exact .inl h
  · refine .inr ⟨h1, rfl, fun a t ha hR hf => ?_⟩
    by_cases e : a = p
    · subst e
      rcases hd with h | h
      · rw [h] at hR; simp at hR
      · obtain ⟨-, htn, hm⟩ := hf
        rw [← hL] at hm
        obtain ⟨j, hj, hx⟩ := List.getElem_of_mem hm
        exact h4 j (by omega) t (by rw [List.getElem?_eq_getElem hj, hx]) htn
    · exact h3 a t (by omega) hR hf
def Snd (c : Sl Int) (R : Nat → Bool) : Prop := R 0 = true ∧ ∀ i, i < c.n → R i = true → Rch c i
set_option maxRecDepth 100000 in
set_option maxHeartbeats 8000000 in
theorem l4Tops_in (c : Sl Int) (hcb : ∀ i, i < c.n → 0 ≤ c.f i ∧ c.f i ≤ 4294967295) (h0 : 0 < c.n) (hn : c.n ≤ 2000) (params regs kids : Int) (va : Bool) (name : ByteArray) (o4 o5 o8 o9 : Option Addr) (n4 c4 n5 c5 n8 c8 n9 c9 : Nat) (ac : Option Addr) (cc : Nat) (w : World) (hcode : IsInts .u32 (· < w.heap.size) w (.slice ac c.n cc) c) :
    Calls Tryz.prog 30 #[.agg #[.int .i64 params, .bool va, .int .i64 regs, .slice ac c.n cc, .slice o4 n4 c4, .slice o5 n5 c5, .int .i64 kids, .string name, .slice o8 n8 c8, .slice o9 n9 c9]] w fun e w' => ∃ u f, e = .returned u ∧ Below w.heap.size w w' ∧ IsInts .i64 (fun b => w.heap.size ≤ b ∧ b < w'.heap.size) w' u ⟨c.n, f⟩ ∧ ∀ t, t < c.n → TopAt c t (f t) := by
  obtain ⟨b, o, rfl, hb, hcell⟩ : ∃ b o, ac = some ⟨b, o, none⟩ ∧ b < w.heap.size ∧ ∀ i, i < c.n → w.cell? ⟨b, o + i, none⟩ = some (.int .u32 (c.f i)) := by
    obtain ⟨_, _, e, _, h⟩ := hcode
    obtain ⟨b, o, e', hb, hc⟩ := h h0
    simp only [Value.slice.injEq] at e
    obtain ⟨rfl, -, -⟩ := e
    exact ⟨b, o, e', hb, fun i hi => by simpa [iC] using hc i hi 0 (by omega)⟩
  clear hcode
  have hmk := run_make_rows 140 4 (.bool false) 1 1 Tryz.underlying140 (by kernel_rfl) c.n (by omega) (by omega)
  obtain ⟨bx, hbx⟩ : ∃ bx : List Value, bx = [.int .i64 params, .bool va, .int .i64 regs, .slice (some ⟨b, o, none⟩) c.n cc, .slice o4 n4 c4, .slice o5 n5 c5, .int .i64 kids, .string name, .slice o8 n8 c8, .slice o9 n9 c9] := ⟨_, rfl⟩
  have q0 : Hid (RS w bx c.n (setB (fun _ => false) 0) ((madeW (w.alloc (.cells #[.int .i64 params, .bool va, .int .i64 regs, .slice (some ⟨b, o, none⟩) c.n cc, .slice o4 n4 c4, .slice o5 n5 c5, .int .i64 kids, .string name, .slice o8 n8 c8, .slice o9 n9 c9] 52)) (.bool false) c.n 1 4).setCell ⟨w.heap.size + 1, 0, none⟩ (.bool true))) := by
    have r1 := World.rowIs_made (w.alloc (.cells #[.int .i64 params, .bool va, .int .i64 regs, .slice (some ⟨b, o, none⟩) c.n cc, .slice o4 n4 c4, .slice o5 n5 c5, .int .i64 kids, .string name, .slice o8 n8 c8, .slice o9 n9 c9] 52)) (.bool false) c.n 4
    have hm : (w.alloc (.cells #[.int .i64 params, .bool va, .int .i64 regs, .slice (some ⟨b, o, none⟩) c.n cc, .slice o4 n4 c4, .slice o5 n5 c5, .int .i64 kids, .string name, .slice o8 n8 c8, .slice o9 n9 c9] 52)).alloc (.cells (madeCells #[.bool false] c.n) 4) = madeW (w.alloc (.cells #[.int .i64 params, .bool va, .int .i64 regs, .slice (some ⟨b, o, none⟩) c.n cc, .slice o4 n4 c4, .slice o5 n5 c5, .int .i64 kids, .string name, .slice o8 n8 c8, .slice o9 n9 c9] 52)) (.bool false) c.n 1 4 := by unfold madeW; rw [Nat.mul_one]; rfl
    rw [hm, World.size_alloc] at r1
    have hB : Below w.heap.size w (madeW (w.alloc (.cells #[.int .i64 params, .bool va, .int .i64 regs, .slice (some ⟨b, o, none⟩) c.n cc, .slice o4 n4 c4, .slice o5 n5 c5, .int .i64 kids, .string name, .slice o8 n8 c8, .slice o9 n9 c9] 52)) (.bool false) c.n 1 4) := ((Below.refl _ _).alloc (Nat.le_refl _) _).trans ((below_madeW _ _ _ _ _).mono (by rw [World.size_alloc]; omega))
    have h1 : RS w bx c.n (fun _ => false) (madeW (w.alloc (.cells #[.int .i64 params, .bool va, .int .i64 regs, .slice (some ⟨b, o, none⟩) c.n cc, .slice o4 n4 c4, .slice o5 n5 c5, .int .i64 kids, .string name, .slice o8 n8 c8, .slice o9 n9 c9] 52)) (.bool false) c.n 1 4) := ⟨by rw [hbx]; exact (RowL.new w _ _).call (below_madeW _ _ _ _ _), r1, hB⟩
    exact h1.set 0
  have r0 := World.rowIs_made (w.alloc (.cells #[.int .i64 params, .bool va, .int .i64 regs, .slice (some ⟨b, o, none⟩) c.n cc, .slice o4 n4 c4, .slice o5 n5 c5, .int .i64 kids, .string name, .slice o8 n8 c8, .slice o9 n9 c9] 52)) (.bool false) c.n 4
  have hm0 : (w.alloc (.cells #[.int .i64 params, .bool va, .int .i64 regs, .slice (some ⟨b, o, none⟩) c.n cc, .slice o4 n4 c4, .slice o5 n5 c5, .int .i64 kids, .string name, .slice o8 n8 c8, .slice o9 n9 c9] 52)).alloc (.cells (madeCells #[.bool false] c.n) 4) = madeW (w.alloc (.cells #[.int .i64 params, .bool va, .int .i64 regs, .slice (some ⟨b, o, none⟩) c.n cc, .slice o4 n4 c4, .slice o5 n5 c5, .int .i64 kids, .string name, .slice o8 n8 c8, .slice o9 n9 c9] 52)) (.bool false) c.n 1 4 := by unfold madeW; rw [Nat.mul_one]; rfl
  rw [hm0, World.size_alloc] at r0
  have e0 := r0.cell h0
  have f0 := r0.frozen 0
  have hb3 : bx[3]? = some (.slice (some ⟨b, o, none⟩) c.n cc) := by rw [hbx]; rfl
  replace hm0 : Hid _ := hm0
  replace r0 : Hid _ := r0
  replace hbx : Hid _ := hbx
  replace hcell : Hid (∀ i, i < c.n → w.cell? ⟨b, o + i, none⟩ = some (.int .u32 (c.f i))) := hcell
  go_enter Tryz.func30, Tryz.ntmps30
  go_wp2_with fail
  clear e0 f0 r0 hm0 hmk
  generalize (madeW (w.alloc (.cells #[.int .i64 params, .bool va, .int .i64 regs, .slice (some ⟨b, o, none⟩) c.n cc, .slice o4 n4 c4, .slice o5 n5 c5, .int .i64 kids, .string name, .slice o8 n8 c8, .slice o9 n9 c9] 52)) (.bool false) c.n 1 4).setCell ⟨w.heap.size + 1, 0, none⟩ (.bool true) = y0 at q0 ⊢
  have s0 : Hid (RS w bx c.n (setB (fun _ => false) 0) y0 ∧ Snd c (setB (fun _ => false) 0) ∧ ((true = false) → Clo c (setB (fun _ => false) 0))) := ⟨q0.out, ⟨setB_same _ _, fun i _ h => by by_cases e : i = 0; subst e; exact .zero; rw [setB_other e] at h; simp at h⟩, fun h => by simp at h⟩
  clear q0
  go_loopw [5, 6, 7, 8] (fun av pv nv kv wr => ∃ (q : Bool) (R : Nat → Bool), av = .bool q ∧ Hid (RS w bx c.n R wr ∧ Snd c R ∧ (q = false → Clo c R)))
    (fun av _ _ _ wr => 2 * cntW wr (w.heap.size + 1) c.n + (match av with | .bool true => 1 | _ => 0))
  case atStart => exact ⟨true, _, rfl, s0.out⟩
  case round =>
    obtain ⟨q, R, rfl, hT⟩ := hrel
    obtain ⟨wA, hwA⟩ : ∃ x, x = wr := ⟨_, rfl⟩
    subst hwA
    clear s0
    cases q with
    | true =>
      obtain ⟨hS, hSn, -⟩ := hT.out
      have hcA := hS.cnt c.n (Nat.le_refl _)
      have sB : Hid (RS w bx c.n R wA ∧ Snd c R ∧ PrB c R R false 0) := ⟨hS, hSn, .inr ⟨rfl, rfl, fun a b h => absurd h (by omega)⟩⟩
      replace hcA : Hid (cntW wA (w.heap.size + 1) c.n = cntF R c.n) := hcA
      clear hT hS hSn
      go_wp2_with fail
      go_loopw [5, 6, 7, 8] (fun av pv nv kv wr => ∃ (q : Bool) (R' : Nat → Bool) (p : Nat), av = .bool q ∧ pv = .int .i64 (p : Int) ∧ p ≤ c.n ∧ Hid (RS w bx c.n R' wr ∧ Snd c R' ∧ PrB c R R' q p))
        (fun _ pv _ _ _ => c.n - (intOf pv).toNat)
      case atStart => exact ⟨false, R, 0, rfl, rfl, by omega, sB.out⟩
      case round =>
        obtain ⟨q, R', p, rfl, rfl, hp, hT⟩ := hrel
        obtain ⟨wB, hwB⟩ : ∃ x, x = wr := ⟨_, rfl⟩
        subst hwB
        clear sB
        by_cases hlt : p < c.n
        · have hpI : (p : Int) < (c.n : Int) := by omega
          obtain ⟨hS, hSn, hPr⟩ := hT.out
          have q3 := hS.box.cell 3 hb3
          have qc := (hS.bel.cell (p := ⟨b, o + p, none⟩) hb).trans (hcell.out p hlt)
          obtain ⟨z, hz⟩ : ∃ z, c.f p = z := ⟨_, rfl⟩
          have hzb := hcb p hlt
          rw [hz] at hzb qc
          have hz1 := hzb.1
          have hz2 := hzb.2
          replace hT : Hid (RS w bx c.n R' wB ∧ Snd c R' ∧ PrB c R R' q p) := hT
          clear hS hSn hPr hzb
          go_wp2_with fail
          refine (unpackS z _ hz1 hz2).mono ?_
          rintro e yU ⟨rfl, bU⟩
          go_wp2_with fail
          refine (l4Follow_in (p : Int) (opW z) (aW z) (bW z) (cW z) (sW z) _ (by omega) (by omega) (by unfold sW bW cW; omega) (by unfold sW bW cW; omega) (by unfold opW; omega) (by unfold opW; omega)).mono ?_
          rintro e yF ⟨u, rfl, bF, hu⟩
          obtain ⟨L, hL⟩ : ∃ L, folO (p : Int) (opW z) (sW z) = L := ⟨_, rfl⟩
          rw [hL] at hu
          have hLw : L = folW (p : Int) (c.f p) := by rw [hz, folW_eq, hL]
          have hLl : L.length ≤ 2 := by rw [← hL]; exact folO_len _ _ _
          replace hLw : Hid (L = folW (p : Int) (c.f p)) := hLw
          replace hL : Hid (folO (p : Int) (opW z) (sW z) = L) := hL
          replace hz : Hid (c.f p = z) := hz
          obtain ⟨au, cu, rfl⟩ : ∃ a b, u = .slice a L.length b := by obtain ⟨a, b, h, _⟩ := hu; exact ⟨a, b, h⟩
          obtain ⟨hS, hSn, hPr⟩ := hT.out
          have hws := hS.bel.size
          have hbb := World.rowIs.lt hS.row
          have hU := bU.size
          have sC : Hid (RS w bx c.n R' yF ∧ Snd c R' ∧ PrC c L R R' q p 0 ∧ IsInts .i64 (fun b => w.heap.size + 2 ≤ b ∧ b < yF.heap.size) yF (.slice au L.length cu) (slI L)) := by
            refine ⟨(hS.later bU).later bF, hSn, ?_, IsArr.mono hu fun b hb => ⟨by omega, hb.2⟩⟩
            rcases hPr with h | ⟨h1, h2, h3⟩
            · exact .inl h
            · exact .inr ⟨h1, h2, h3, fun j hj => absurd hj (by omega)⟩
          clear hu hS hSn hPr hT bU bF q3 qc hU hbb hws
          go_wp2_with fail
          go_loopw [5, 8] (fun av kv wr => ∃ (q : Bool) (R' : Nat → Bool) (k : Nat), av = .bool q ∧ kv = .int .i64 (k : Int) ∧ k ≤ L.length ∧ Hid (RS w bx c.n R' wr ∧ Snd c R' ∧ PrC c L R R' q p k ∧ IsInts .i64 (fun b => w.heap.size + 2 ≤ b ∧ b < wr.heap.size) wr (.slice au L.length cu) (slI L)))
            (fun _ kv _ => L.length - (intOf kv).toNat)
          case atStart => exact ⟨q, R', 0, rfl, rfl, by omega, sC.out⟩
          case round =>
            obtain ⟨q, R', k, rfl, rfl, hkL, hT⟩ := hrel
            obtain ⟨wC, hwC⟩ : ∃ x, x = wr := ⟨_, rfl⟩
            subst hwC
            clear sC
            obtain ⟨hS, hSn, hPr, hIn⟩ := hT.out
            by_cases hk : k < L.length
            · have hkI : (k : Int) < (L.length : Int) := by omega
              have qp : wC.cell? ⟨w.heap.size + 1, p, none⟩ = some (.bool (R' p)) := hS.row.cell hlt
              by_cases hRp : R' p = true
              · rw [hRp] at qp
                obtain ⟨x, hx⟩ : ∃ x, L[k]? = some x := ⟨L[k], List.getElem?_eq_getElem hk⟩
                obtain ⟨bl, ol, rfl, hbl, hcl⟩ : ∃ bl ol, au = some ⟨bl, ol, none⟩ ∧ (w.heap.size + 2 ≤ bl ∧ bl < wC.heap.size) ∧ wC.cell? ⟨bl, ol + k, none⟩ = some (.int .i64 x) := by
                  obtain ⟨_, _, e, _, h⟩ := hIn
                  obtain ⟨bl, ol, e', hb', hc'⟩ := h (by show 0 < L.length; omega)
                  simp only [Value.slice.injEq] at e
                  obtain ⟨rfl, -, -⟩ := e
                  have h1 := hc' k hk 0 (by omega)
                  have hxd : L.getD k 0 = x := by simp [List.getD, hx]
                  exact ⟨bl, ol, e', hb', by simpa [iC, slI, hxd, hx] using h1⟩
                replace hT : Hid (RS w bx c.n R' wC ∧ Snd c R' ∧ PrC c L R R' q p k ∧ IsInts .i64 (fun b => w.heap.size + 2 ≤ b ∧ b < wC.heap.size) wC (.slice (some ⟨bl, ol, none⟩) L.length cu) (slI L)) := hT
                by_cases hx0 : 0 ≤ x
                · obtain ⟨t, rfl⟩ := Int.eq_ofNat_of_zero_le hx0
                  by_cases htn : t < c.n
                  · have htI : (t : Int) < (c.n : Int) := by omega
                    have qt : wC.cell? ⟨w.heap.size + 1, t, none⟩ = some (.bool (R' t)) := hS.row.cell htn
                    have ft := hS.row.frozen t
                    by_cases hRt : R' t = true
                    · rw [hRt] at qt
                      have T1 : Hid (RS w bx c.n R' wC ∧ Snd c R' ∧ PrC c L R R' q p (k + 1) ∧ IsInts .i64 (fun b => w.heap.size + 2 ≤ b ∧ b < wC.heap.size) wC (.slice (some ⟨bl, ol, none⟩) L.length cu) (slI L)) := ⟨hS, hSn, hPr.skip (fun t' h1 h2 => by (rw [hx] at h1; simp at h1; have e : t = t' := (by omega); subst e; exact hRt)), hIn⟩
                      clear hS hSn hPr hIn hT
                      go_wp2_with fail
                      go_roundw
                      case rel => exact ⟨q, R', k + 1, rfl, by go_num, by omega, T1.out⟩
                      case measure => simp [intOf]; omega
                    · have hRf : R' t = false := by simpa using hRt
                      rw [hRf] at qt
                      have T1 : Hid (RS w bx c.n (setB R' t) (wC.setCell ⟨w.heap.size + 1, t, none⟩ (.bool true)) ∧ Snd c (setB R' t) ∧ PrC c L R (setB R' t) true p (k + 1) ∧ IsInts .i64 (fun b => w.heap.size + 2 ≤ b ∧ b < (wC.setCell ⟨w.heap.size + 1, t, none⟩ (.bool true)).heap.size) (wC.setCell ⟨w.heap.size + 1, t, none⟩ (.bool true)) (.slice (some ⟨bl, ol, none⟩) L.length cu) (slI L)) := by
                        refine ⟨hS.set t, ⟨setB_mono hSn.1, fun i hi h => ?_⟩, hPr.more hRf htn, (IsArr.keep hIn fun b hb => Below.heap_setCell _ _ _ _ (by show b ≠ w.heap.size + 1; omega)).mono fun b hb => ⟨hb.1, by rw [World.size_setCell]; exact hb.2⟩⟩
                        by_cases e : i = t
                        · subst e
                          refine .step (hSn.2 p hlt hRp) ⟨hlt, htn, ?_⟩
                          rw [← hLw.out]
                          exact List.mem_of_getElem? hx
                        · rw [setB_other e] at h
                          exact hSn.2 i hi h
                      clear hS hSn hPr hIn hT
                      go_wp2_with fail
                      go_roundw
                      case rel => exact ⟨true, setB R' t, k + 1, rfl, by go_num, by omega, T1.out⟩
                      case measure => simp [intOf]; omega
                  · have htI : ¬ ((t : Int) < (c.n : Int)) := by omega
                    have T1 : Hid (RS w bx c.n R' wC ∧ Snd c R' ∧ PrC c L R R' q p (k + 1) ∧ IsInts .i64 (fun b => w.heap.size + 2 ≤ b ∧ b < wC.heap.size) wC (.slice (some ⟨bl, ol, none⟩) L.length cu) (slI L)) := ⟨hS, hSn, hPr.skip (fun t' h1 h2 => by (rw [hx] at h1; simp at h1; omega)), hIn⟩
                    clear hS hSn hPr hIn hT
                    go_wp2_with fail
                    go_roundw
                    case rel => exact ⟨q, R', k + 1, rfl, by go_num, by omega, T1.out⟩
                    case measure => simp [intOf]; omega
                · have T1 : Hid (RS w bx c.n R' wC ∧ Snd c R' ∧ PrC c L R R' q p (k + 1) ∧ IsInts .i64 (fun b => w.heap.size + 2 ≤ b ∧ b < wC.heap.size) wC (.slice (some ⟨bl, ol, none⟩) L.length cu) (slI L)) := ⟨hS, hSn, hPr.skip (fun t' h1 h2 => by (rw [hx] at h1; simp at h1; omega)), hIn⟩
                  clear hS hSn hPr hIn hT
                  go_wp2_with fail
                  go_roundw
                  case rel => exact ⟨q, R', k + 1, rfl, by go_num, by omega, T1.out⟩
                  case measure => simp [intOf]; omega
              · have hRf : R' p = false := by simpa using hRp
                rw [hRf] at qp
                have T1 : Hid (RS w bx c.n R' wC ∧ Snd c R' ∧ PrB c R R' q (p + 1)) := ⟨hS, hSn, hPr.done hLw.out (.inl hRf)⟩
                clear hS hSn hPr hIn hT
                go_wp2_with fail
                go_roundw
                case rel => exact ⟨q, R', p + 1, rfl, by go_num, by omega, T1.out⟩
                case measure => simp [intOf]; omega
            · have hkI : ¬ ((k : Int) < (L.length : Int)) := by omega
              have T1 : Hid (RS w bx c.n R' wC ∧ Snd c R' ∧ PrB c R R' q (p + 1)) := ⟨hS, hSn, hPr.done hLw.out (.inr (by omega))⟩
              clear hS hSn hPr hIn hT
              go_wp2_with fail
              go_roundw
              case rel => exact ⟨q, R', p + 1, rfl, by go_num, by omega, T1.out⟩
              case measure => simp [intOf]; omega
        · obtain rfl : p = c.n := by omega
          obtain ⟨hS, hSn, hPr⟩ := hT.out
          have hcB := hS.cnt c.n (Nat.le_refl _)
          have T1 : Hid (RS w bx c.n R' wB ∧ Snd c R' ∧ (q = false → Clo c R')) := ⟨hS, hSn, fun hq => by
            rcases hPr with ⟨h, -⟩ | ⟨-, rfl, h⟩
            · rw [h] at hq; simp at hq
            · exact fun a b h1 h2 => h a b h2.1 h1 h2⟩
          have hms : 2 * cntW wB (w.heap.size + 1) c.n + (match (Value.bool q) with | .bool true => 1 | _ => 0) < 2 * cntW wA (w.heap.size + 1) c.n + 1 := by
            rw [hcB, hcA.out]
            rcases hPr with ⟨rfl, h⟩ | ⟨rfl, rfl, -⟩
            · show 2 * _ + 1 < _; omega
            · show 2 * _ + 0 < _; omega
          have hnI : ¬ ((c.n : Int) < (c.n : Int)) := by omega
          replace hms : Hid _ := hms
          clear hS hSn hPr hT hcB
          go_wp2_with fail
          go_roundw
          case rel => exact ⟨q, R', rfl, T1.out⟩
          case measure => exact hms.out
    | false =>
      obtain ⟨hS, hSn, hCl⟩ := hT.out
      have hRR : Hid (∀ a, a < c.n → (R a = true ↔ Rch c a)) := fun a ha => ⟨hSn.2 a ha, fun h => Rch.sub (D := fun a => R a = true) hSn.1 (fun a b h1 h2 => hCl rfl a b h1 h2) h⟩
      have hbb := World.rowIs.lt hS.row
      have sD : Hid (RS w bx c.n R (wA.alloc (.cells #[] 3)) ∧ (wA.alloc (.cells #[] 3)).ownsRow wA.heap.size 3 1 (.slice (some ⟨wA.heap.size, 0, none⟩) 0 0) 0 (List.replicate 0 (.int .i64 (-2)))) := ⟨hS.later ((Below.refl _ _).alloc (Nat.le_refl _) _), World.ownsRow_lit wA #[] 0 (Nat.le_refl _) (by simp only [maxLen]; omega) rfl⟩
      have hlo : w.heap.size + 2 ≤ wA.heap.size := by omega
      clear hT hS hSn hCl hbb
      go_wp2_with fail
      go_loopw [9, 10] (fun tvv pv wr => ∃ k g cp : Nat, pv = .int .i64 (k : Int) ∧ tvv = .slice (some ⟨g, 0, none⟩) k cp ∧ k ≤ c.n ∧ Hid (RS w bx c.n R wr ∧ wr.ownsRow wA.heap.size 3 1 (.slice (some ⟨g, 0, none⟩) k cp) k (List.replicate k (.int .i64 (-2)))))
        (fun _ pv _ => c.n - (intOf pv).toNat)
      case atStart => exact ⟨0, _, _, rfl, rfl, by omega, sD.out⟩
      case round =>
        obtain ⟨k, g, cp, rfl, rfl, hk, hT⟩ := hrel
        obtain ⟨wD, hwD⟩ : ∃ x, x = wr := ⟨_, rfl⟩
        subst hwD
        clear sD
        obtain ⟨hS, hrow⟩ := hT.out
        have hgl := hrow.lt g rfl
        by_cases hlt : k < c.n
        · have hkI : (k : Int) < (c.n : Int) := by omega
          obtain ⟨i0, hi, hz0, hz1, hz2⟩ := info_parts (show (Tryz.prog.info? 3).map (fun i => (i.zero, i.size, i.bytes)) = some (some (.int .i64 0), 1, 8) by kernel_rfl)
          replace hS : Hid (RS w bx c.n R wD) := hS
          replace hrow : Hid (wD.ownsRow wA.heap.size 3 1 (.slice (some ⟨g, 0, none⟩) k cp) k (List.replicate k (.int .i64 (-2)))) := hrow
          clear hT
          go_wp2_with (at_builtin; refine wpList_append_own_at _ rfl (.tmp 83) (.tmp 84) 34 rfl wA.heap.size 3 i0 (.int .i64 0) 1 8 Tryz.underlying34 hi hz0 hz1 hz2 rfl (by decide) (.slice (some ⟨g, 0, none⟩) k cp) k _ rfl (hrow.out.alloc _) ⟨wD.heap.size, 0, none⟩ 1 1 [.int .i64 (-2)] rfl rfl ?s1 ?s2 ?s3 ?s4 ?s5 ?_)
          case s1 => exact World.news_of_block (heap_alloc_new _ _)
          case s2 => intro u hu; simp only [List.mem_cons, List.not_mem_nil, or_false] at hu; subst hu; rfl
          case s3 => simp only [maxLen]; omega
          case s4 => omega
          case s5 => (try simp only [World.size_alloc]); omega
          intro v' w' hown hg _ hat
          obtain ⟨g', cp', rfl, -, -⟩ := hown.form (by omega)
          have T1 : Hid (RS w bx c.n R w' ∧ w'.ownsRow wA.heap.size 3 1 (.slice (some ⟨g', 0, none⟩) (k + 1) cp') (k + 1) (List.replicate (k + 1) (.int .i64 (-2)))) := ⟨(hS.out.later ((Below.refl _ _).alloc (Nat.le_refl _) _)).grown hg fun q hq => by simp [Value.ownBlock] at hq; omega, by rw [List.replicate_succ']; exact hown⟩
          clear hown hg hat hi hz0 hz1 hz2 hS hrow
          go_wp2_with fail
          go_roundw
          case rel => exact ⟨k + 1, g', cp', by go_num, rfl, by omega, T1.out⟩
          case measure => simp [intOf]; omega
        · obtain rfl : k = c.n := by omega
          have hTS : TS w bx c.n R wA.heap.size g cp (fun _ => -2) wD := ⟨hS, by rw [show ((List.range c.n).map fun _ => Value.int .i64 (-2)) = List.replicate c.n (.int .i64 (-2)) by simp [List.map_const']]; exact hrow, hlo⟩
          have g0 := hTS.cell h0
          have gf0 := hrow.frozenAt 0
          have sE : Hid (TS w bx c.n R wA.heap.size g cp (setT (fun _ => -2) 0 (-1)) (wD.setCell ⟨g, 0, none⟩ (.int .i64 (-1))) ∧ ∀ t, t < c.n → Tp (WD c R 0 t) (setT (fun _ => -2) 0 (-1) t)) := by
            refine ⟨hTS.set 0 (-1), fun t ht => ?_⟩
            by_cases e : t = 0
            · subst e
              exact .shut rfl (.inl ⟨rfl, rfl⟩) fun x hx => by rcases hx with h | ⟨a, h, _⟩; exact h.2; omega
            · refine .none (by simp [setT, e]) fun x hx => ?_
              rcases hx with h | ⟨a, h, _⟩
              · exact e h.1
              · omega
          have hnI : ¬ ((c.n : Int) < (c.n : Int)) := by omega
          clear hT hS hrow hTS
          go_wp2_with fail
          clear g0 gf0
          generalize wD.setCell ⟨g, 0, none⟩ (.int .i64 (-1)) = yE at sE ⊢
          go_loopw [11, 12, 13, 14] (fun pv iv nv kv wr => ∃ (p : Nat) (tv : Nat → Int), pv = .int .i64 (p : Int) ∧ p ≤ c.n ∧ Hid (TS w bx c.n R wA.heap.size g cp tv wr ∧ ∀ t, t < c.n → Tp (WD c R p t) (tv t)))
            (fun pv _ _ _ _ => c.n - (intOf pv).toNat)
          case atStart => exact ⟨0, _, rfl, by omega, sE.out⟩
          case round =>
            obtain ⟨p, tv, rfl, hp, hT⟩ := hrel
            obtain ⟨wE, hwE⟩ : ∃ x, x = wr := ⟨_, rfl⟩
            subst hwE
            clear sE
            obtain ⟨hTS, hTp⟩ := hT.out
            by_cases hlt : p < c.n
            · have hpI : (p : Int) < (c.n : Int) := by omega
              have q3 := hTS.rs.box.cell 3 hb3
              have qc := (hTS.rs.bel.cell (p := ⟨b, o + p, none⟩) hb).trans (hcell.out p hlt)
              obtain ⟨z, hz⟩ : ∃ z, c.f p = z := ⟨_, rfl⟩
              have hzb := hcb p hlt
              rw [hz] at hzb qc
              have hz1 := hzb.1
              have hz2 := hzb.2
              replace hTS : Hid (TS w bx c.n R wA.heap.size g cp tv wE) := hTS
              replace hTp : Hid _ := hTp
              clear hT hzb
              go_wp2_with fail
              refine (unpackS z _ hz1 hz2).mono ?_
              rintro e yU ⟨rfl, bU⟩
              go_wp2_with fail
              refine (l4Follow_in (p : Int) (opW z) (aW z) (bW z) (cW z) (sW z) _ (by omega) (by omega) (by unfold sW bW cW; omega) (by unfold sW bW cW; omega) (by unfold opW; omega) (by unfold opW; omega)).mono ?_
              rintro e yF ⟨u, rfl, bF, hu⟩
              obtain ⟨L, hL⟩ : ∃ L, folO (p : Int) (opW z) (sW z) = L := ⟨_, rfl⟩
              rw [hL] at hu
              have hLw : Hid (L = folW (p : Int) (c.f p)) := by show _ = _; rw [hz, folW_eq, hL]
              have hLl : L.length ≤ 2 := by rw [← hL]; exact folO_len _ _ _
              replace hL : Hid (folO (p : Int) (opW z) (sW z) = L) := hL
              replace hz : Hid (c.f p = z) := hz
              obtain ⟨au, cu, rfl⟩ : ∃ a b, u = .slice a L.length b := by obtain ⟨a, b, h, _⟩ := hu; exact ⟨a, b, h⟩
              have hgE := (hTS.out.row.lt g rfl).2
              have hUs := bU.size
              have hgU : g < yU.heap.size := by omega
              have hUa : (yU.alloc (.cells #[.int .i64 (opW z), .int .i64 (aW z), .int .i64 (bW z), .int .i64 (cW z), .int .i64 (sW z)] 88)).heap.size = yU.heap.size + 1 := World.size_alloc _ _
              have sF : Hid (TS w bx c.n R wA.heap.size g cp tv yF ∧ (∀ t0, t0 < c.n → Tp (WK c R L p 0 t0) (tv t0)) ∧ RowL yF yU.heap.size 88 [.int .i64 (opW z), .int .i64 (aW z), .int .i64 (bW z), .int .i64 (cW z), .int .i64 (sW z)] ∧ IsInts .i64 (fun b => yU.heap.size + 1 ≤ b ∧ b < yF.heap.size) yF (.slice au L.length cu) (slI L)) := by
                refine ⟨((hTS.out.later bU).later ((Below.refl _ _).alloc (Nat.le_refl _) _)).later bF, fun t ht => (hTp.out t ht).congr fun x => WK.zero c R L p t x, (RowL.new yU [.int .i64 (opW z), .int .i64 (aW z), .int .i64 (bW z), .int .i64 (cW z), .int .i64 (sW z)] 88).call bF, ?_⟩
                rw [hUa] at hu
                exact hu
              clear hu hTS hTp bU bF q3 qc hUs hUa
              go_wp2_with fail
              go_loopw [14] (fun kv wr => ∃ (k : Nat) (tv : Nat → Int), kv = .int .i64 (k : Int) ∧ k ≤ L.length ∧ Hid (TS w bx c.n R wA.heap.size g cp tv wr ∧ (∀ t0, t0 < c.n → Tp (WK c R L p k t0) (tv t0)) ∧ RowL wr yU.heap.size 88 [.int .i64 (opW z), .int .i64 (aW z), .int .i64 (bW z), .int .i64 (cW z), .int .i64 (sW z)] ∧ IsInts .i64 (fun b => yU.heap.size + 1 ≤ b ∧ b < wr.heap.size) wr (.slice au L.length cu) (slI L)))
                (fun kv _ => L.length - (intOf kv).toNat)
              case atStart => exact ⟨0, tv, rfl, by omega, sF.out⟩
              case round =>
                obtain ⟨k, tv, rfl, hkL, hT⟩ := hrel
                obtain ⟨wF, hwF⟩ : ∃ x, x = wr := ⟨_, rfl⟩
                subst hwF
                clear sF
                obtain ⟨hTS, hTk, hRi, hIn⟩ := hT.out
                replace hTk : Hid (∀ t, t < c.n → Tp (WK c R L p k t) (tv t)) := hTk
                have hgF : w.heap.size + 1 < g := by have := (hTS.row.lt g rfl).1; omega
                by_cases hk : k < L.length
                · have hkI : (k : Int) < (L.length : Int) := by omega
                  have qp : wF.cell? ⟨w.heap.size + 1, p, none⟩ = some (.bool (R p)) := hTS.rs.row.cell hlt
                  by_cases hRp : R p = true
                  · rw [hRp] at qp
                    obtain ⟨x, hx⟩ : ∃ x, L[k]? = some x := ⟨L[k], List.getElem?_eq_getElem hk⟩
                    obtain ⟨bl, ol, rfl, hbl, hcl⟩ : ∃ bl ol, au = some ⟨bl, ol, none⟩ ∧ (yU.heap.size + 1 ≤ bl ∧ bl < wF.heap.size) ∧ wF.cell? ⟨bl, ol + k, none⟩ = some (.int .i64 x) := by
                      obtain ⟨_, _, e, _, h⟩ := hIn
                      obtain ⟨bl, ol, e', hb', hc'⟩ := h (by show 0 < L.length; omega)
                      simp only [Value.slice.injEq] at e
                      obtain ⟨rfl, -, -⟩ := e
                      have h1 := hc' k hk 0 (by omega)
                      have hxd : L.getD k 0 = x := by simp [List.getD, hx]
                      exact ⟨bl, ol, e', hb', by simpa [iC, slI, hxd, hx] using h1⟩
                    by_cases hx0 : 0 ≤ x
                    · obtain ⟨t, rfl⟩ := Int.eq_ofNat_of_zero_le hx0
                      by_cases htn : t < c.n
                      · have htI : (t : Int) < (c.n : Int) := by omega
                        have qt := hTS.cell htn
                        have qtd : wF.drew.cell? ⟨g, t, none⟩ = some (.int .i64 (tv t)) := qt
                        have hTSd := hTS.later (Below.refl _ _).drew
                        have hRid := hRi.call (Below.refl _ _).drew
                        have hInd : IsInts .i64 (fun b => yU.heap.size + 1 ≤ b ∧ b < wF.drew.heap.size) wF.drew (.slice (some ⟨bl, ol, none⟩) L.length cu) (slI L) := hIn
                        obtain ⟨S, hSe⟩ : ∃ S : World → Prop, S = fun y : World => y.cell? ⟨bl, ol + k, none⟩ = some (.int .i64 (t : Int)) ∧ y.cell? ⟨yU.heap.size, 0, none⟩ = some (.int .i64 (opW z)) ∧ y.cell? ⟨yU.heap.size, 1, none⟩ = some (.int .i64 (aW z)) ∧ y.cell? ⟨yU.heap.size, 2, none⟩ = some (.int .i64 (bW z)) ∧ y.cell? ⟨yU.heap.size, 3, none⟩ = some (.int .i64 (cW z)) ∧ y.cell? ⟨yU.heap.size, 4, none⟩ = some (.int .i64 (sW z)) := ⟨_, rfl⟩
                        have hSk : Hid (∀ y : World, (∀ j, y.cell? ⟨bl, j, none⟩ = wF.cell? ⟨bl, j, none⟩) → RowL y yU.heap.size 88 [.int .i64 (opW z), .int .i64 (aW z), .int .i64 (bW z), .int .i64 (cW z), .int .i64 (sW z)] → S y) := fun y h1 h2 => by
                          rw [hSe]
                          exact ⟨(h1 _).trans hcl, h2.cell 0 rfl, h2.cell 1 rfl, h2.cell 2 rfl, h2.cell 3 rfl, h2.cell 4 rfl⟩
                        have hSd : S wF.drew := hSk.out _ (fun _ => rfl) hRid
                        clear hTS hRi hIn
                        go_wp2_with fail
                        refine wp_region_held_drew (S := S) (by kernel_rfl) hSd (fun hH => ?_)
                        refine take_dst 0 127 (.slice (some ⟨g, 0, none⟩) c.n cp) rfl (by kernel_rfl) (by kernel_rfl) (by kernel_rfl) (fun _ _ _ h => h) (Or.inl ⟨by rfl, by intro wv hSv; (try dsimp only at hSv); go_simp⟩) hSd rfl ?_
                        try simp only [tk0, tk1, tk2, tk3, tk4]
                        refine take_dst 1 128 (.slice (some ⟨bl, ol, none⟩) L.length cu) rfl (by kernel_rfl) (by kernel_rfl) (by kernel_rfl) (fun _ _ _ h => h) (Or.inl ⟨by rfl, by intro wv hSv; (try dsimp only at hSv); go_simp⟩) hSd rfl ?_
                        try simp only [tk0, tk1, tk2, tk3, tk4]
                        refine take_dst 2 129 (.int .i64 (k : Int)) rfl (by kernel_rfl) (by kernel_rfl) (by kernel_rfl) (fun _ _ _ h => h) (Or.inl ⟨by rfl, by intro wv hSv; (try dsimp only at hSv); go_simp⟩) hSd rfl ?_
                        try simp only [tk0, tk1, tk2, tk3, tk4]
                        refine take_dst 3 130 (.pointer (some ⟨bl, ol + k, none⟩)) rfl (by kernel_rfl) (by kernel_rfl) (by kernel_rfl) (fun _ _ _ h => h) (Or.inl ⟨by rfl, by intro wv hSv; (try dsimp only at hSv); go_simp⟩) hSd rfl ?_
                        try simp only [tk0, tk1, tk2, tk3, tk4]
                        refine take_dst 4 131 (.int .i64 (t : Int)) rfl (by kernel_rfl) (by kernel_rfl) (by kernel_rfl) (fun _ _ _ h => h) (Or.inl ⟨by rfl, by intro wv hSv; (try dsimp only at hSv); rw [hSe] at hSv; obtain ⟨h0, h1, h2, h3, h4, h5⟩ := hSv; go_simp⟩) hSd rfl ?_
                        try simp only [tk0, tk1, tk2, tk3, tk4]
                        refine take_dst 5 132 (.slice (some ⟨g, 0, none⟩) c.n cp) rfl (by kernel_rfl) (by kernel_rfl) (by kernel_rfl) (fun _ _ _ h => h) (Or.inl ⟨by rfl, by intro wv hSv; (try dsimp only at hSv); go_simp⟩) hSd rfl ?_
                        try simp only [tk0, tk1, tk2, tk3, tk4]
                        refine take_dst 6 133 (.slice (some ⟨bl, ol, none⟩) L.length cu) rfl (by kernel_rfl) (by kernel_rfl) (by kernel_rfl) (fun _ _ _ h => h) (Or.inl ⟨by rfl, by intro wv hSv; (try dsimp only at hSv); go_simp⟩) hSd rfl ?_
                        try simp only [tk0, tk1, tk2, tk3, tk4]
                        refine take_dst 7 134 (.int .i64 (k : Int)) rfl (by kernel_rfl) (by kernel_rfl) (by kernel_rfl) (fun _ _ _ h => h) (Or.inl ⟨by rfl, by intro wv hSv; (try dsimp only at hSv); go_simp⟩) hSd rfl ?_
                        try simp only [tk0, tk1, tk2, tk3, tk4]
                        refine take_dst 8 135 (.pointer (some ⟨bl, ol + k, none⟩)) rfl (by kernel_rfl) (by kernel_rfl) (by kernel_rfl) (fun _ _ _ h => h) (Or.inl ⟨by rfl, by intro wv hSv; (try dsimp only at hSv); go_simp⟩) hSd rfl ?_
                        try simp only [tk0, tk1, tk2, tk3, tk4]
                        refine take_dst 9 136 (.int .i64 (t : Int)) rfl (by kernel_rfl) (by kernel_rfl) (by kernel_rfl) (fun _ _ _ h => h) (Or.inl ⟨by rfl, by intro wv hSv; (try dsimp only at hSv); rw [hSe] at hSv; obtain ⟨h0, h1, h2, h3, h4, h5⟩ := hSv; go_simp⟩) hSd rfl ?_
                        try simp only [tk0, tk1, tk2, tk3, tk4]
                        refine take_dst 10 137 (.pointer (some ⟨g, t, none⟩)) rfl (by kernel_rfl) (by kernel_rfl) (by kernel_rfl) (fun _ _ _ h => h) (Or.inl ⟨by rfl, by intro wv hSv; (try dsimp only at hSv); go_simp⟩) hSd rfl ?_
                        try simp only [tk0, tk1, tk2, tk3, tk4]
                        refine take_dst 12 139 (.agg #[.int .i64 (opW z), .int .i64 (aW z), .int .i64 (bW z), .int .i64 (cW z), .int .i64 (sW z)]) rfl (by kernel_rfl) (by kernel_rfl) (by kernel_rfl) (fun _ _ _ h => h) (Or.inl ⟨by rfl, by intro wv hSv; (try dsimp only at hSv); rw [hSe] at hSv; obtain ⟨h0, h1, h2, h3, h4, h5⟩ := hSv; go_simp⟩) hSd rfl ?_
                        try simp only [tk0, tk1, tk2, tk3, tk4]
                        refine wpAnyH_ready (rs := [11, 13]) (by kernel_rfl) (by simp) ?_
                        refine AllReadyH.cons rfl (fun KK hKK => ?_) (AllReadyH.cons rfl (fun KK hKK => ?_) AllReadyH.nil)
                        · go_simp
                          refine hKK.out _ _ hSd (fun _ => ?_)
                          clear hKK KK
                          try simp only [tk0, tk1, tk2, tk3, tk4]
                          refine wpAnyH_ready (rs := [13]) (by kernel_rfl) (by simp) ?_
                          refine AllReadyH.cons rfl (fun KK hKK => ?_) AllReadyH.nil
                          go_simp
                          refine (l4Opens_in (opW z) (aW z) (bW z) (cW z) (sW z) _).mono ?_
                          rintro e y13 ⟨rfl, b13⟩
                          rw [← wayW_eq]
                          have hTS2 := hTSd.later b13
                          have hRi2 := hRid.call b13
                          have hIn2 : IsInts .i64 (fun b => yU.heap.size + 1 ≤ b ∧ b < y13.heap.size) y13 (.slice (some ⟨bl, ol, none⟩) L.length cu) (slI L) := (IsArr.keep hInd fun b hb => b13.block b hb.2).mono fun b hb => ⟨hb.1, Nat.lt_of_lt_of_le hb.2 b13.size⟩
                          have q13 := hTS2.cell htn
                          have f13 := hTS2.row.frozenAt t
                          have hS13 := hSk.out y13 (fun j => b13.cell (p := ⟨bl, j, none⟩) (by show bl < wF.drew.heap.size; exact hbl.2)) hRi2
                          have hS16 := hSk.out (y13.setCell ⟨g, t, none⟩ (.int .i64 (meet (tv t) (wayW z)))) (fun j => (World.cell?_of_block (w := y13) (Below.heap_setCell _ _ _ _ (by show bl ≠ g; omega))).trans (b13.cell (p := ⟨bl, j, none⟩) (by show bl < wF.drew.heap.size; exact hbl.2))) (hRi2.other (a := ⟨g, t, none⟩) (by show yU.heap.size ≠ g; omega) _)
                          go_wp2_with fail
                          refine hKK.out _ _ hS13 (fun _ => ?_)
                          clear hKK KK
                          try simp only [tk0, tk1, tk2, tk3, tk4]
                          refine wpAnyH_ready (rs := [14]) (by kernel_rfl) (by simp) ?_
                          refine AllReadyH.cons rfl (fun KK hKK => ?_) AllReadyH.nil
                          go_simp
                          refine (l4Meet_in (tv t) (wayW z) _).mono ?_
                          rintro e y' ⟨rfl, rfl⟩
                          go_wp2_with fail
                          refine hKK.out _ _ hS13 (fun _ => ?_)
                          clear hKK KK
                          try simp only [tk0, tk1, tk2, tk3, tk4]
                          refine take_dst 15 142 (.pointer (some ⟨g, t, none⟩)) rfl (by kernel_rfl) (by kernel_rfl) (by kernel_rfl) (fun _ _ _ h => h) (Or.inl ⟨by rfl, by intro wv hSv; (try dsimp only at hSv); go_simp⟩) hS13 rfl ?_
                          try simp only [tk0, tk1, tk2, tk3, tk4]
                          refine wpAnyH_ready (rs := [16]) (by kernel_rfl) (by simp) ?_
                          refine AllReadyH.cons rfl (fun KK hKK => ?_) AllReadyH.nil
                          go_simp
                          refine hKK.out _ _ hS16 (fun _ => ?_)
                          clear hKK KK
                          try simp only [tk0, tk1, tk2, tk3, tk4]
                          refine wpAnyH_done (by kernel_rfl) ?_ _
                          have T1 : Hid (TS w bx c.n R wA.heap.size g cp (setT tv t (meet (tv t) (wayW z))) (y13.setCell ⟨g, t, none⟩ (.int .i64 (meet (tv t) (wayW z)))) ∧ (∀ t0, t0 < c.n → Tp (WK c R L p (k + 1) t0) ((setT tv t (meet (tv t) (wayW z))) t0)) ∧ RowL (y13.setCell ⟨g, t, none⟩ (.int .i64 (meet (tv t) (wayW z)))) yU.heap.size 88 [.int .i64 (opW z), .int .i64 (aW z), .int .i64 (bW z), .int .i64 (cW z), .int .i64 (sW z)] ∧ IsInts .i64 (fun b => yU.heap.size + 1 ≤ b ∧ b < (y13.setCell ⟨g, t, none⟩ (.int .i64 (meet (tv t) (wayW z)))).heap.size) (y13.setCell ⟨g, t, none⟩ (.int .i64 (meet (tv t) (wayW z)))) (.slice (some ⟨bl, ol, none⟩) L.length cu) (slI L)) := by
                            refine ⟨hTS2.set t _, fun t' ht' => ?_, hRi2.other (a := ⟨g, t, none⟩) (by show yU.heap.size ≠ g; omega) _, (IsArr.keep hIn2 fun b hb => Below.heap_setCell _ _ _ _ (by show b ≠ g; omega)).mono fun b hb => ⟨hb.1, by rw [World.size_setCell]; exact hb.2⟩⟩
                            by_cases e : t' = t
                            · have e1 : setT tv t (meet (tv t) (wayW z)) t' = meet (tv t) (wayW z) := if_pos e
                              rw [e1, e]
                              refine ((hTk.out t htn).add (wayW_low z)).congr (fun x => ?_)
                              have h2 := WK.hit (c := c) (R := R) (L := L) hRp hx x
                              rw [hz.out] at h2
                              exact h2
                            · have e2 : setT tv t (meet (tv t) (wayW z)) t' = tv t' := if_neg e
                              rw [e2]
                              exact (hTk.out t' ht').congr (fun x => WK.skip (c := c) (R := R) (p := p) (k := k) (L := L) (t := t') (by rw [hx]; simp; omega) x)
                          clear hTS2 hRi2 hIn2 hS13 hS16 hSe hSk hH hT qp qt q13 f13 qtd
                          go_wp2_with fail
                          go_roundw
                          case rel => exact ⟨k + 1, _, by go_num, by omega, T1.out⟩
                          case measure => simp [intOf]; omega
                        · go_simp
                          refine (l4Opens_in (opW z) (aW z) (bW z) (cW z) (sW z) _).mono ?_
                          rintro e y13 ⟨rfl, b13⟩
                          rw [← wayW_eq]
                          have hTS2 := hTSd.later b13
                          have hRi2 := hRid.call b13
                          have hIn2 : IsInts .i64 (fun b => yU.heap.size + 1 ≤ b ∧ b < y13.heap.size) y13 (.slice (some ⟨bl, ol, none⟩) L.length cu) (slI L) := (IsArr.keep hInd fun b hb => b13.block b hb.2).mono fun b hb => ⟨hb.1, Nat.lt_of_lt_of_le hb.2 b13.size⟩
                          have q13 := hTS2.cell htn
                          have f13 := hTS2.row.frozenAt t
                          have hS13 := hSk.out y13 (fun j => b13.cell (p := ⟨bl, j, none⟩) (by show bl < wF.drew.heap.size; exact hbl.2)) hRi2
                          have hS16 := hSk.out (y13.setCell ⟨g, t, none⟩ (.int .i64 (meet (tv t) (wayW z)))) (fun j => (World.cell?_of_block (w := y13) (Below.heap_setCell _ _ _ _ (by show bl ≠ g; omega))).trans (b13.cell (p := ⟨bl, j, none⟩) (by show bl < wF.drew.heap.size; exact hbl.2))) (hRi2.other (a := ⟨g, t, none⟩) (by show yU.heap.size ≠ g; omega) _)
                          go_wp2_with fail
                          refine hKK.out _ _ hS13 (fun _ => ?_)
                          clear hKK KK
                          try simp only [tk0, tk1, tk2, tk3, tk4]
                          refine wpAnyH_ready (rs := [11]) (by kernel_rfl) (by simp) ?_
                          refine AllReadyH.cons rfl (fun KK hKK => ?_) AllReadyH.nil
                          go_simp
                          refine hKK.out _ _ hS13 (fun _ => ?_)
                          clear hKK KK
                          try simp only [tk0, tk1, tk2, tk3, tk4]
                          refine wpAnyH_ready (rs := [14]) (by kernel_rfl) (by simp) ?_
                          refine AllReadyH.cons rfl (fun KK hKK => ?_) AllReadyH.nil
                          go_simp
                          refine (l4Meet_in (tv t) (wayW z) _).mono ?_
                          rintro e y' ⟨rfl, rfl⟩
                          go_wp2_with fail
                          refine hKK.out _ _ hS13 (fun _ => ?_)
                          clear hKK KK
                          try simp only [tk0, tk1, tk2, tk3, tk4]
                          refine take_dst 15 142 (.pointer (some ⟨g, t, none⟩)) rfl (by kernel_rfl) (by kernel_rfl) (by kernel_rfl) (fun _ _ _ h => h) (Or.inl ⟨by rfl, by intro wv hSv; (try dsimp only at hSv); go_simp⟩) hS13 rfl ?_
                          try simp only [tk0, tk1, tk2, tk3, tk4]
                          refine wpAnyH_ready (rs := [16]) (by kernel_rfl) (by simp) ?_
                          refine AllReadyH.cons rfl (fun KK hKK => ?_) AllReadyH.nil
                          go_simp
                          refine hKK.out _ _ hS16 (fun _ => ?_)
                          clear hKK KK
                          try simp only [tk0, tk1, tk2, tk3, tk4]
                          refine wpAnyH_done (by kernel_rfl) ?_ _
                          have T1 : Hid (TS w bx c.n R wA.heap.size g cp (setT tv t (meet (tv t) (wayW z))) (y13.setCell ⟨g, t, none⟩ (.int .i64 (meet (tv t) (wayW z)))) ∧ (∀ t0, t0 < c.n → Tp (WK c R L p (k + 1) t0) ((setT tv t (meet (tv t) (wayW z))) t0)) ∧ RowL (y13.setCell ⟨g, t, none⟩ (.int .i64 (meet (tv t) (wayW z)))) yU.heap.size 88 [.int .i64 (opW z), .int .i64 (aW z), .int .i64 (bW z), .int .i64 (cW z), .int .i64 (sW z)] ∧ IsInts .i64 (fun b => yU.heap.size + 1 ≤ b ∧ b < (y13.setCell ⟨g, t, none⟩ (.int .i64 (meet (tv t) (wayW z)))).heap.size) (y13.setCell ⟨g, t, none⟩ (.int .i64 (meet (tv t) (wayW z)))) (.slice (some ⟨bl, ol, none⟩) L.length cu) (slI L)) := by
                            refine ⟨hTS2.set t _, fun t' ht' => ?_, hRi2.other (a := ⟨g, t, none⟩) (by show yU.heap.size ≠ g; omega) _, (IsArr.keep hIn2 fun b hb => Below.heap_setCell _ _ _ _ (by show b ≠ g; omega)).mono fun b hb => ⟨hb.1, by rw [World.size_setCell]; exact hb.2⟩⟩
                            by_cases e : t' = t
                            · have e1 : setT tv t (meet (tv t) (wayW z)) t' = meet (tv t) (wayW z) := if_pos e
                              rw [e1, e]
                              refine ((hTk.out t htn).add (wayW_low z)).congr (fun x => ?_)
                              have h2 := WK.hit (c := c) (R := R) (L := L) hRp hx x
                              rw [hz.out] at h2
                              exact h2
                            · have e2 : setT tv t (meet (tv t) (wayW z)) t' = tv t' := if_neg e
                              rw [e2]
                              exact (hTk.out t' ht').congr (fun x => WK.skip (c := c) (R := R) (p := p) (k := k) (L := L) (t := t') (by rw [hx]; simp; omega) x)
                          clear hTS2 hRi2 hIn2 hS13 hS16 hSe hSk hH hT qp qt q13 f13 qtd
                          go_wp2_with fail
                          go_roundw
                          case rel => exact ⟨k + 1, _, by go_num, by omega, T1.out⟩
                          case measure => simp [intOf]; omega
                      · have htI : ¬ ((t : Int) < (c.n : Int)) := by omega
                        have T1 : Hid (TS w bx c.n R wA.heap.size g cp tv wF ∧ (∀ t0, t0 < c.n → Tp (WK c R L p (k + 1) t0) (tv t0)) ∧ RowL wF yU.heap.size 88 [.int .i64 (opW z), .int .i64 (aW z), .int .i64 (bW z), .int .i64 (cW z), .int .i64 (sW z)] ∧ IsInts .i64 (fun b => yU.heap.size + 1 ≤ b ∧ b < wF.heap.size) wF (.slice (some ⟨bl, ol, none⟩) L.length cu) (slI L)) := ⟨hTS, fun t' ht' => (hTk.out t' ht').congr fun x' => WK.skip (by rw [hx]; simp; omega) x', hRi, hIn⟩
                        clear hTS hRi hIn hT
                        go_wp2_with fail
                        go_roundw
                        case rel => exact ⟨k + 1, tv, by go_num, by omega, T1.out⟩
                        case measure => simp [intOf]; omega
                    · have hx0' : ¬ (0 ≤ x) := hx0
                      have T1 : Hid (TS w bx c.n R wA.heap.size g cp tv wF ∧ (∀ t0, t0 < c.n → Tp (WK c R L p (k + 1) t0) (tv t0)) ∧ RowL wF yU.heap.size 88 [.int .i64 (opW z), .int .i64 (aW z), .int .i64 (bW z), .int .i64 (cW z), .int .i64 (sW z)] ∧ IsInts .i64 (fun b => yU.heap.size + 1 ≤ b ∧ b < wF.heap.size) wF (.slice (some ⟨bl, ol, none⟩) L.length cu) (slI L)) := ⟨hTS, fun t' ht' => (hTk.out t' ht').congr fun x' => WK.skip (by rw [hx]; simp; omega) x', hRi, hIn⟩
                      clear hTS hRi hIn hT
                      go_wp2_with fail
                      go_roundw
                      case rel => exact ⟨k + 1, tv, by go_num, by omega, T1.out⟩
                      case measure => simp [intOf]; omega
                  · have hRf : R p = false := by simpa using hRp
                    rw [hRf] at qp
                    have T1 : Hid (TS w bx c.n R wA.heap.size g cp tv wF ∧ ∀ t, t < c.n → Tp (WD c R (p + 1) t) (tv t)) := ⟨hTS, fun t' ht' => (hTk.out t' ht').congr fun x' => WK.done hlt ht' hLw.out (.inl hRf) x'⟩
                    clear hTS hRi hIn hT
                    go_wp2_with fail
                    go_roundw
                    case rel => exact ⟨p + 1, tv, by go_num, by omega, T1.out⟩
                    case measure => simp [intOf]; omega
                · have hkI : ¬ ((k : Int) < (L.length : Int)) := by omega
                  have T1 : Hid (TS w bx c.n R wA.heap.size g cp tv wF ∧ ∀ t, t < c.n → Tp (WD c R (p + 1) t) (tv t)) := ⟨hTS, fun t' ht' => (hTk.out t' ht').congr fun x' => WK.done hlt ht' hLw.out (.inr (by omega)) x'⟩
                  clear hTS hRi hIn hT
                  go_wp2_with fail
                  go_roundw
                  case rel => exact ⟨p + 1, tv, by go_num, by omega, T1.out⟩
                  case measure => simp [intOf]; omega
            · obtain rfl : p = c.n := by omega
              have hnI2 : ¬ ((c.n : Int) < (c.n : Int)) := by omega
              have hgl2 := hTS.row.lt g rfl
              have hbel := hTS.rs.bel
              have hfin : ∀ t, t < c.n → TopAt c t (tv t) := fun t ht => (hTp t ht).congr fun x => by
                refine (?_ : WD c R c.n t x ↔ _).trans (Ways.of_done (D := fun a => Rch c a) (fun _ => Iff.rfl) t x)
                constructor
                · rintro (h | ⟨a, h1, h2, h3⟩)
                  · exact .inl h
                  · exact .inr ⟨a, (hRR.out a h1).1 h2, h3⟩
                · rintro (h | ⟨a, h1, h2, h3⟩)
                  · exact .inl h
                  · exact .inr ⟨a, h2.1, (hRR.out a h2.1).2 h1, h2, h3⟩
              have harr := hTS.ints hn
              replace hfin : Hid _ := hfin
              replace harr : Hid (IsInts .i64 (fun b => w.heap.size ≤ b ∧ b < wE.heap.size) wE (.slice (some ⟨g, 0, none⟩) c.n cp) ⟨c.n, tv⟩) := harr
              clear hT hTS hTp
              go_wp2_with fail
              go_ret
              exact ⟨_, rfl, hbel, tv, harr.out, hfin.out⟩
end Go.Proofs.YtckapapejfnojaaGreatDoor

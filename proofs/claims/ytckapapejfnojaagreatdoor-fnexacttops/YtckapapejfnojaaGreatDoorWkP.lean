import Derived.Test.YtckapapejfnojaaGreatDoorTpM
namespace Go.Proofs.YtckapapejfnojaaGreatDoor
set_option linter.unusedVariables false
set_option linter.unusedSimpArgs false
/-- the ways out of the places that are done. -/
def WS (c : Sl Int) (D : Nat → Prop) (t : Nat) (x : Int) : Prop := (t = 0 ∧ x = -1) ∨ ∃ a, D a ∧ folN c a t ∧ x = wayW (c.f a)
/-- and the first k out of p. -/
def WF (c : Sl Int) (D : Nat → Prop) (L : List Int) (p k t : Nat) (x : Int) : Prop := WS c D t x ∨ (x = wayW (c.f p) ∧ ∃ j, j < k ∧ L[j]? = some (t : Int))
def putT (tv : Nat → Int) (t : Nat) (v : Int) : Nat → Int := fun i => if i = t then v else tv i
theorem putT_same (tv : Nat → Int) (t : Nat) (v : Int) : putT tv t v t = v := if_pos rfl
theorem putT_other {tv : Nat → Int} {t i : Nat} {v : Int} (h : i ≠ t) : putT tv t v i = tv i := if_neg h
/-- how many places have not been come to. -/
def cnt2 (tv : Nat → Int) : Nat → Nat
  | 0 => 0
  | n + 1 => cnt2 tv n + (if tv n = -2 then 1 else 0)
theorem cnt2_le (tv : Nat → Int) (t : Nat) (v : Int) (hv : v ≠ -2) : ∀ n, cnt2 (putT tv t v) n ≤ cnt2 tv n := by
  intro n
  induction n with
  | zero => exact Nat.le_refl _
  | succ n ih =>
    simp only [cnt2]
    by_cases e : n = t
    · subst e
      rw [putT_same, if_neg hv]
      omega
    · rw [putT_other e]
      omega
theorem cnt2_lt (tv : Nat → Int) (t : Nat) (v : Int) (hv : v ≠ -2) (ht : tv t = -2) : ∀ n, t < n → cnt2 (putT tv t v) n + 1 ≤ cnt2 tv n := by
  intro n
  induction n with
  | zero => intro h; omega
  | succ n ih =>
    intro h
    simp only [cnt2]
    by_cases e : n = t
    · subst e
      have := cnt2_le tv n v hv n
      rw [putT_same, if_neg hv, if_pos ht]
      omega
    · have := ih (by omega)
      rw [putT_other e]
      omega
theorem Tp.some {W : Int → Prop} {v x : Int} (h : Tp W v) (hx : W x) : v ≠ -2 := by
  cases h with
  | none e n => exact absurd hx (n x)
  | shut e a b => omega
  | least e a b => omega
  | both e a b => omega
theorem Tp.noneOf {W : Int → Prop} {v : Int} (h : Tp W v) (hv : v ≠ -2) : ∃ x, W x := by
  cases h with
  | none e n => exact absurd e hv
  | shut e a b => exact ⟨_, a⟩
  | least e a b => exact ⟨_, a⟩
  | both e a b => exact ⟨_, a⟩
theorem Tp.low {W : Int → Prop} {v : Int} (h : Tp W v) : -3 ≤ v := by
  cases h with
  | none e n => omega
  | shut e a b => omega
  | least e a b => omega
  | both e a b => omega
/-- between two rounds: the places D are done, those of work are to be done. -/
structure Wk (c : Sl Int) (D : Nat → Prop) (work : List Nat) (tv : Nat → Int) : Prop where
  tops : ∀ t, t < c.n → Tp (WS c D t) (tv t)
  done : ∀ a, D a → Rch c a
  todo : ∀ a, a ∈ work → Rch c a ∧ a < c.n
  part : ∀ t, t < c.n → (tv t ≠ -2 ↔ D t ∨ t ∈ work)
/-- in a round: place p is looked at, k of what follows are done. -/
structure Wi (c : Sl Int) (D : Nat → Prop) (work : List Nat) (tv : Nat → Int) (L : List Int) (p k : Nat) : Prop where
  tops : ∀ t, t < c.n → Tp (WF c D L p k t) (tv t)
  done : ∀ a, D a → Rch c a
  todo : ∀ a, a ∈ work → Rch c a ∧ a < c.n
  part : ∀ t, t < c.n → (tv t ≠ -2 ↔ D t ∨ t = p ∨ t ∈ work)
  now : Rch c p ∧ p < c.n
  fol : L = folW (p : Int) (c.f p)
theorem Wk.start (c : Sl Int) (h0 : 0 < c.n) : Wk c (fun _ => False) [0] (putT (fun _ => -2) 0 (-1)) := by
  refine ⟨fun t ht => ?_, fun a h => h.elim, fun a h => ?_, fun t ht => ?_⟩
  · by_cases e : t = 0
    · subst e
      rw [putT_same]
      refine .shut rfl (.inl ⟨rfl, rfl⟩) fun x hx => ?_
      rcases hx with ⟨-, h⟩ | ⟨a, h, -⟩
      · exact h
      · exact h.elim
    · rw [putT_other e]
      refine .none rfl fun x hx => ?_
      rcases hx with ⟨h, -⟩ | ⟨a, h, -⟩
      · exact e h
      · exact h.elim
  · simp at h
    subst h
    exact ⟨.zero, h0⟩
  · by_cases e : t = 0
    · subst e
      rw [putT_same]
      simp
    · rw [putT_other e]
      simp [e]
theorem Wk.enter {c : Sl Int} {D : Nat → Prop} {work : List Nat} {p : Nat} {tv : Nat → Int} (h : Wk c D (work ++ [p]) tv) : Wi c D work tv (folW (p : Int) (c.f p)) p 0 := by
  have hp := h.todo p (by simp)
  refine ⟨fun t ht => (h.tops t ht).congr fun x => ⟨.inl, fun h' => h'.elim id fun ⟨_, j, hj, _⟩ => absurd hj (by omega)⟩, h.done, fun a ha => h.todo a (by simp [ha]), fun t ht => (h.part t ht).trans ?_, hp, rfl⟩
  rw [List.mem_append, List.mem_singleton]
  constructor
  · rintro (h | h | h)
    · exact .inl h
    · exact .inr (.inr h)
    · exact .inr (.inl h)
  · rintro (h | h | h)
    · exact .inl h
    · exact .inr (.inr h)
    · exact .inr (.inl h)
section
variable {c : Sl Int} {D : Nat → Prop} {work : List Nat} {tv : Nat → Int} {L : List Int} {p k : Nat}
theorem Wi.leave (h : Wi c D work tv L p k) (hk : L.length ≤ k) : Wk c (fun a => D a ∨ a = p) work tv := by
  refine ⟨fun t ht => (h.tops t ht).congr fun x => ?_, fun a ha => ha.elim (h.done a) fun e => e ▸ h.now.1, h.todo, fun t ht => (h.part t ht).trans ?_⟩
  · constructor
    · rintro ((h1 | ⟨a, h1, h2⟩) | ⟨h1, j, hj, hx⟩)
      · exact .inl h1
      · exact .inr ⟨a, .inl h1, h2⟩
      · exact .inr ⟨p, .inr rfl, ⟨h.now.2, ht, h.fol ▸ List.mem_of_getElem? hx⟩, h1⟩
    · rintro (h1 | ⟨a, h1 | h1, h2, h3⟩)
      · exact .inl (.inl h1)
      · exact .inl (.inr ⟨a, h1, h2, h3⟩)
      · subst h1
        obtain ⟨-, -, hm⟩ := h2
        rw [← h.fol] at hm
        obtain ⟨j, hj, hx⟩ := List.getElem_of_mem hm
        exact .inr ⟨h3, j, by omega, by rw [List.getElem?_eq_getElem hj, hx]⟩
  · rw [or_assoc]
theorem Wi.skip (h : Wi c D work tv L p k) (hx : ∀ t, t < c.n → L[k]? ≠ some (t : Int)) : Wi c D work tv L p (k + 1) := by
  refine ⟨fun t ht => (h.tops t ht).congr fun x => ?_, h.done, h.todo, h.part, h.now, h.fol⟩
  constructor
  · rintro (h1 | ⟨h1, j, hj, h2⟩)
    · exact .inl h1
    · exact .inr ⟨h1, j, by omega, h2⟩
  · rintro (h1 | ⟨h1, j, hj, h2⟩)
    · exact .inl h1
    · by_cases e : j = k
      · subst e; exact absurd h2 (hx t ht)
      · exact .inr ⟨h1, j, by omega, h2⟩
/-- what follows is place t. -/
theorem Wi.tops_hit (h : Wi c D work tv L p k) {t : Nat} (ht : t < c.n) (hx : L[k]? = some (t : Int)) : ∀ t', t' < c.n → Tp (WF c D L p (k + 1) t') (putT tv t (meet (tv t) (wayW (c.f p))) t') := by
  intro t' ht'
  by_cases e : t' = t
  · subst e
    rw [putT_same]
    refine ((h.tops t' ht').add (wayW_low (c.f p))).congr fun x => ?_
    constructor
    · rintro ((h1 | ⟨h1, j, hj, h2⟩) | h1)
      · exact .inl h1
      · exact .inr ⟨h1, j, by omega, h2⟩
      · exact .inr ⟨h1, k, by omega, hx⟩
    · rintro (h1 | ⟨h1, j, hj, h2⟩)
      · exact .inl (.inl h1)
      · exact .inr h1
  · rw [putT_other e]
    refine (h.tops t' ht').congr fun x => ?_
    constructor
    · rintro (h1 | ⟨h1, j, hj, h2⟩)
      · exact .inl h1
      · exact .inr ⟨h1, j, by omega, h2⟩
    · rintro (h1 | ⟨h1, j, hj, h2⟩)
      · exact .inl h1
      · by_cases e' : j = k
        · subst e'
          rw [hx] at h2
          simp at h2
          exact absurd (by omega : t' = t) e
        · exact .inr ⟨h1, j, by omega, h2⟩
theorem Wi.rch (h : Wi c D work tv L p k) {t : Nat} (ht : t < c.n) (hx : L[k]? = some (t : Int)) : Rch c t :=
  .step h.now.1 ⟨h.now.2, ht, h.fol ▸ List.mem_of_getElem? hx⟩
theorem Wi.ne2 (h : Wi c D work tv L p k) {t : Nat} (ht : t < c.n) (hx : L[k]? = some (t : Int)) : meet (tv t) (wayW (c.f p)) ≠ -2 := by
  have h1 := h.tops_hit ht hx t ht
  rw [putT_same] at h1
  exact h1.some (x := wayW (c.f p)) (.inr ⟨rfl, k, by omega, hx⟩)
/-- place t had not been come to. -/
theorem Wi.new (h : Wi c D work tv L p k) {t : Nat} (ht : t < c.n) (hx : L[k]? = some (t : Int)) (h2 : tv t = -2) : Wi c D (work ++ [t]) (putT tv t (meet (tv t) (wayW (c.f p)))) L p (k + 1) := by
  have hne := h.ne2 ht hx
  refine ⟨h.tops_hit ht hx, h.done, fun a ha => ?_, fun t' ht' => ?_, h.now, h.fol⟩
  · rw [List.mem_append, List.mem_singleton] at ha
    rcases ha with ha | rfl
    · exact h.todo a ha
    · exact ⟨h.rch ht hx, ht⟩
  · rw [List.mem_append, List.mem_singleton]
    by_cases e : t' = t
    · subst e
      rw [putT_same]
      exact ⟨fun _ => .inr (.inr (.inr rfl)), fun _ => hne⟩
    · rw [putT_other e]
      refine (h.part t' ht').trans ?_
      constructor
      · rintro (h1 | h1 | h1)
        · exact .inl h1
        · exact .inr (.inl h1)
        · exact .inr (.inr (.inl h1))
      · rintro (h1 | h1 | h1 | h1)
        · exact .inl h1
        · exact .inr (.inl h1)
        · exact .inr (.inr h1)
        · exact absurd h1 e
/-- place t had been come to. -/
theorem Wi.old (h : Wi c D work tv L p k) {t : Nat} (ht : t < c.n) (hx : L[k]? = some (t : Int)) (h2 : tv t ≠ -2) : Wi c D work (putT tv t (meet (tv t) (wayW (c.f p)))) L p (k + 1) := by
  have hne := h.ne2 ht hx
  refine ⟨h.tops_hit ht hx, h.done, h.todo, fun t' ht' => ?_, h.now, h.fol⟩
  by_cases e : t' = t
  · subst e
    rw [putT_same]
    exact ⟨fun _ => (h.part t' ht').1 h2, fun _ => hne⟩
  · rw [putT_other e]
    exact h.part t' ht'
/-- nothing is left to be done. -/
theorem Wk.topAt (h : Wk c D [] tv) (h0 : 0 < c.n) : ∀ t, t < c.n → TopAt c t (tv t) := by
  have hD : ∀ a, a < c.n → (tv a ≠ -2 ↔ D a) := fun a ha => (h.part a ha).trans (by simp)
  have hall : ∀ a, Rch c a → a < c.n ∧ D a := by
    intro a ha
    refine Rch.sub (D := fun a => a < c.n ∧ D a) ⟨h0, (hD 0 h0).1 ((h.tops 0 h0).some (x := -1) (.inl ⟨rfl, rfl⟩))⟩ (fun a b h1 h2 => ⟨h2.2.1, ?_⟩) ha
    exact (hD b h2.2.1).1 ((h.tops b h2.2.1).some (x := wayW (c.f a)) (.inr ⟨a, h1.2, h2, rfl⟩))
  intro t ht
  exact (h.tops t ht).congr fun x => Ways.of_done (D := D) (fun a => ⟨h.done a, fun h' => (hall a h').2⟩) t x
end
end Go.Proofs.YtckapapejfnojaaGreatDoor

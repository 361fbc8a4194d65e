import Derived.Test.YtckapapejfnojaaGreatDoorChA
namespace Go.Proofs.YtckapapejfnojaaGreatDoor
set_option linter.unusedVariables false
set_option linter.unusedSimpArgs false
/-- the parts of a word. -/
def opW (z : Int) : Int := z % 64
def aW (z : Int) : Int := z / 64 % 256
def bW (z : Int) : Int := z / 16384 % 512
def cW (z : Int) : Int := z / 8388608
def sW (z : Int) : Int := bW z + 512 * cW z - 131072
/-- the places that can follow, outside of the code with them. -/
def folW (pc z : Int) : List Int :=
  if opW z = 23 ∨ opW z = 33 then [] else if opW z = 18 then [pc + 1 + sW z] else if opW z = 27 ∨ opW z = 28 then [pc + 1, pc + 1 + sW z] else if opW z = 19 ∨ opW z = 20 ∨ opW z = 21 then [pc + 1, pc + 2] else [pc + 1]
/-- how a place that follows is come to. -/
def wayW (z : Int) : Int :=
  if (opW z = 22 ∨ opW z = 30 ∨ opW z = 31) ∧ cW z = 511 then aW z else if opW z = 24 ∧ bW z = 511 then aW z else -1
theorem wayW_low (z : Int) : -1 ≤ wayW z := by
  unfold wayW aW
  split
  · omega
  · split <;> omega
/-- two ways put together. -/
def meet (v y : Int) : Int := if v = -2 then y else if v = -3 ∨ (v = -1 ∧ y ≠ -1) ∨ (v ≠ -1 ∧ y = -1) then -3 else if v < y then v else y
/-- v is what these ways make. -/
inductive Tp (W : Int → Prop) (v : Int) : Prop
  | none : v = -2 → (∀ x, ¬ W x) → Tp W v
  | shut : v = -1 → W (-1) → (∀ x, W x → x = -1) → Tp W v
  | least : 0 ≤ v → W v → (∀ x, W x → v ≤ x) → Tp W v
  | both : v = -3 → W (-1) → (∃ x, 0 ≤ x ∧ W x) → Tp W v
theorem Tp.det {W : Int → Prop} {v v' : Int} (h : Tp W v) (h' : Tp W v') : v = v' := by
  cases h with
  | none e n =>
    cases h' with
    | none e' n' => omega
    | shut e' a b => exact absurd a (n _)
    | least e' a b => exact absurd a (n _)
    | both e' a b => exact absurd a (n _)
  | shut e a b =>
    cases h' with
    | none e' n' => exact absurd a (n' _)
    | shut e' a' b' => omega
    | least e' a' b' => have := b _ a'; omega
    | both e' a' b' => obtain ⟨x, h1, h2⟩ := b'; have := b _ h2; omega
  | least e a b =>
    cases h' with
    | none e' n' => exact absurd a (n' _)
    | shut e' a' b' => have := b' _ a; omega
    | least e' a' b' => have := b _ a'; have := b' _ a; omega
    | both e' a' b' => have := b _ a'; omega
  | both e a b =>
    cases h' with
    | none e' n' => exact absurd a (n' _)
    | shut e' a' b' => obtain ⟨x, h1, h2⟩ := b; have := b' _ h2; omega
    | least e' a' b' => have := b' _ a; omega
    | both e' a' b' => omega
theorem Tp.congr {W W' : Int → Prop} {v : Int} (h : Tp W v) (e : ∀ x, W x ↔ W' x) : Tp W' v := by
  have : W = W' := funext fun x => propext (e x)
  exact this ▸ h
/-- one way more. -/
theorem Tp.add {W : Int → Prop} {v : Int} (h : Tp W v) {y : Int} (hy : -1 ≤ y) : Tp (fun x => W x ∨ x = y) (meet v y) := by
  by_cases hy1 : y = -1
  · subst hy1
    cases h with
    | none e n => subst e; exact .shut rfl (.inr rfl) (fun x hx => hx.elim (fun h => absurd h (n x)) id)
    | shut e a b => subst e; exact .shut rfl (.inr rfl) (fun x hx => hx.elim (b x) id)
    | least e a b =>
      have : meet v (-1) = -3 := by unfold meet; rw [if_neg (by omega), if_pos (by omega)]
      rw [this]
      exact .both rfl (.inr rfl) ⟨v, e, .inl a⟩
    | both e a b => subst e; obtain ⟨x, h1, h2⟩ := b; exact .both rfl (.inr rfl) ⟨x, h1, .inl h2⟩
  · have h0 : 0 ≤ y := by omega
    cases h with
    | none e n =>
      subst e
      have : meet (-2) y = y := by unfold meet; rw [if_pos rfl]
      rw [this]
      exact .least h0 (.inr rfl) (fun x hx => hx.elim (fun h => absurd h (n x)) (fun h => by omega))
    | shut e a b =>
      subst e
      have : meet (-1) y = -3 := by unfold meet; rw [if_neg (by omega), if_pos (by omega)]
      rw [this]
      exact .both rfl (.inl a) ⟨y, h0, .inr rfl⟩
    | least e a b =>
      by_cases hlt : v < y
      · have : meet v y = v := by unfold meet; rw [if_neg (by omega), if_neg (by omega), if_pos hlt]
        rw [this]
        exact .least e (.inl a) (fun x hx => hx.elim (b x) (fun h => by omega))
      · have : meet v y = y := by unfold meet; rw [if_neg (by omega), if_neg (by omega), if_neg hlt]
        rw [this]
        exact .least h0 (.inr rfl) (fun x hx => hx.elim (fun h => by have := b x h; omega) (fun h => by omega))
    | both e a b =>
      subst e
      have : meet (-3) y = -3 := by unfold meet; rw [if_neg (by omega), if_pos (by omega)]
      obtain ⟨x, h1, h2⟩ := b
      rw [this]
      exact .both rfl (.inl a) ⟨x, h1, .inl h2⟩
/-- the places of the code that can follow place pc. -/
def folN (c : Sl Int) (pc t : Nat) : Prop := pc < c.n ∧ t < c.n ∧ (t : Int) ∈ folW (pc : Int) (c.f pc)
/-- the places that are reachable. -/
inductive Rch (c : Sl Int) : Nat → Prop
  | zero : Rch c 0
  | step {a b : Nat} : Rch c a → folN c a b → Rch c b
/-- the ways to a place. -/
def Ways (c : Sl Int) (t : Nat) (x : Int) : Prop := (t = 0 ∧ x = -1) ∨ ∃ a, Rch c a ∧ folN c a t ∧ x = wayW (c.f a)
/-- what Tops says of a place. -/
def TopAt (c : Sl Int) (t : Nat) (v : Int) : Prop := Tp (Ways c t) v
theorem TopAt.det {c : Sl Int} {t : Nat} {v v' : Int} (h : TopAt c t v) (h' : TopAt c t v') : v = v' := Tp.det h h'
/-- a set that holds place 0 and whatever follows holds all that is reachable. -/
theorem Rch.sub {c : Sl Int} {D : Nat → Prop} (h0 : D 0) (hs : ∀ a b, D a → folN c a b → D b) : ∀ {a}, Rch c a → D a := by
  intro a h
  induction h with
  | zero => exact h0
  | step _ hf ih => exact hs _ _ ih hf
theorem Ways.of_done {c : Sl Int} {D : Nat → Prop} (hD : ∀ a, D a ↔ Rch c a) (t : Nat) : ∀ x, ((t = 0 ∧ x = -1) ∨ ∃ a, D a ∧ folN c a t ∧ x = wayW (c.f a)) ↔ Ways c t x := by
  intro x
  constructor
  · rintro (h | ⟨a, h1, h2⟩)
    · exact .inl h
    · exact .inr ⟨a, (hD a).1 h1, h2⟩
  · rintro (h | ⟨a, h1, h2⟩)
    · exact .inl h
    · exact .inr ⟨a, (hD a).2 h1, h2⟩
end Go.Proofs.YtckapapejfnojaaGreatDoor

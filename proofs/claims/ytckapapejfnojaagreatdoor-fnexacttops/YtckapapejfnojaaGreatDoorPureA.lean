import Derived.Test.YtckapapejfnojaaGreatDoorChecked
namespace Go.Proofs.YtckapapejfnojaaGreatDoor

/-- 'Fo K n k i e h': from number i on stand k trees one behind the other, the last one ends at e, and the highest has h prototypes above one another. -/
inductive Fo (K : Nat → Int) (n : Nat) : Nat → Nat → Nat → Nat → Prop
  | nil {i : Nat} : Fo K n 0 i i 0
  | cons {k i m e h1 h2 : Nat} : i < n → 0 ≤ K i → Fo K n (K i).toNat (i + 1) m h1 → Fo K n k m e h2 → Fo K n (k + 1) i e (max (h1 + 1) h2)

theorem Fo.le {K : Nat → Int} {n k i e h : Nat} (t : Fo K n k i e h) : i + k ≤ e ∧ (0 < k → e ≤ n) := by
  induction t with
  | nil => exact ⟨by omega, by omega⟩
  | @cons k i m e h1 h2 hi hk t1 t2 ih1 ih2 =>
    refine ⟨by omega, fun _ => ?_⟩
    by_cases hk0 : 0 < k
    · exact ih2.2 hk0
    · obtain rfl : k = 0 := by omega
      cases t2
      by_cases hk1 : 0 < (K i).toNat
      · exact ih1.2 hk1
      · have h0 : (K i).toNat = 0 := by omega
        rw [h0] at t1
        cases t1
        omega

theorem Fo.det {K : Nat → Int} {n k i e h : Nat} (t : Fo K n k i e h) : ∀ {e' h' : Nat}, Fo K n k i e' h' → e = e' ∧ h = h' := by
  induction t with
  | nil => intro e' h' t'; cases t'; exact ⟨rfl, rfl⟩
  | cons hi hk t1 t2 ih1 ih2 =>
    intro e' h' t'
    cases t' with
    | cons hi' hk' t1' t2' =>
      obtain ⟨rfl, rfl⟩ := ih1 t1'
      obtain ⟨rfl, rfl⟩ := ih2 t2'
      exact ⟨rfl, rfl⟩

theorem Fo.split {K : Nat → Int} {n : Nat} : ∀ (a b : Nat) {i e h : Nat}, Fo K n (a + b) i e h → ∃ m h1 h2, Fo K n a i m h1 ∧ Fo K n b m e h2 ∧ h = max h1 h2 := by
  intro a
  induction a with
  | zero => intro b i e h t; rw [Nat.zero_add] at t; exact ⟨i, 0, h, .nil, t, by omega⟩
  | succ a ih =>
    intro b i e h t
    rw [Nat.add_right_comm] at t
    cases t with
    | cons hi hk t1 t2 =>
      obtain ⟨m', g1, g2, u1, u2, rfl⟩ := ih b t2
      exact ⟨m', _, g2, .cons hi hk t1 u1, u2, by omega⟩

theorem Fo.join {K : Nat → Int} {n a i m h1 : Nat} (t : Fo K n a i m h1) : ∀ {b e h2 : Nat}, Fo K n b m e h2 → Fo K n (a + b) i e (max h1 h2) := by
  induction t with
  | nil => intro b e h2 t; rw [Nat.zero_add, Nat.zero_max]; exact t
  | @cons k i m e g1 g2 hi hk t1 t2 ih1 ih2 =>
    intro b e' h2 t
    rw [Nat.add_right_comm, Nat.max_assoc]
    exact .cons hi hk t1 (ih2 t)

/-- one tree: its root's children. -/
theorem Fo.one {K : Nat → Int} {n i e h : Nat} (t : Fo K n 1 i e h) : ∃ g, h = g + 1 ∧ i < n ∧ 0 ≤ K i ∧ Fo K n (K i).toNat (i + 1) e g := by
  cases t with
  | @cons k i m e h1 h2 hi hk t1 t2 =>
    cases t2
    exact ⟨h1, by omega, hi, hk, t1⟩

theorem Fo.mk1 {K : Nat → Int} {n i e g : Nat} (hi : i < n) (hk : 0 ≤ K i) (t : Fo K n (K i).toNat (i + 1) e g) : Fo K n 1 i e (g + 1) := by
  have := Fo.cons hi hk t (Fo.nil (K := K) (n := n) (i := e))
  rwa [Nat.max_eq_left (by omega)] at this

/-- every number within has its own tree. -/
theorem Fo.within {K : Nat → Int} {n k i e h : Nat} (t : Fo K n k i e h) : ∀ j, i ≤ j → j < e → ∃ e' h', Fo K n 1 j e' h' := by
  induction t with
  | nil => intro j h1 h2; omega
  | @cons k i m e h1 h2 hi hk t1 t2 ih1 ih2 =>
    intro j hj he
    by_cases hji : j = i
    · subst hji; exact ⟨m, h1 + 1, Fo.mk1 hi hk t1⟩
    · by_cases hjm : j < m
      · exact ih1 j (by omega) hjm
      · exact ih2 j (by omega) he

/-- the answer of the model's walk down: the end, or -1 where there is no tree within the limits. -/
def EndIs (K : Nat → Int) (n i a : Nat) (r : Int) : Prop :=
  (∃ e h, Fo K n 1 i e h ∧ a + h ≤ 64 ∧ r = (e : Int)) ∨ (r = -1 ∧ ∀ e h, Fo K n 1 i e h → 64 < a + h)

/-- what has come when k children have been gone over: their end, or -1. -/
def KidsIs (K : Nat → Int) (n i a k : Nat) (r : Int) : Prop :=
  (∃ e h, Fo K n k (i + 1) e h ∧ a + 1 + h ≤ 64 ∧ r = (e : Int)) ∨ (r = -1 ∧ ∀ e h, Fo K n (K i).toNat (i + 1) e h → 64 < a + 1 + h)

theorem KidsIs.start {K : Nat → Int} {n i a : Nat} (ha : a < 64) : KidsIs K n i a 0 ((i : Int) + 1) :=
  .inl ⟨i + 1, 0, .nil, by omega, by simp⟩

theorem KidsIs.step {K : Nat → Int} {n i a k e : Nat} {h : Nat} {r : Int} (t : Fo K n k (i + 1) e h) (hh : a + 1 + h ≤ 64) (hk : (k : Int) < K i) (hr : EndIs K n e (a + 1) r) : KidsIs K n i a (k + 1) r := by
  rcases hr with ⟨e', h', t', hh', rfl⟩ | ⟨rfl, hno⟩
  · exact .inl ⟨e', _, Fo.join t t', by omega, rfl⟩
  · refine .inr ⟨rfl, fun e2 h2 t2 => ?_⟩
    obtain ⟨d, hd⟩ : ∃ d, (K i).toNat = k + (1 + d) := ⟨(K i).toNat - k - 1, by omega⟩
    rw [hd] at t2
    obtain ⟨m, g1, g2, u1, u2, rfl⟩ := Fo.split k (1 + d) t2
    obtain ⟨rfl, rfl⟩ := t.det u1
    obtain ⟨m', g3, g4, u3, u4, rfl⟩ := Fo.split 1 d u2
    have := hno _ _ u3
    omega

theorem KidsIs.done {K : Nat → Int} {n i a k : Nat} {r : Int} (hi : i < n) (hk0 : 0 ≤ K i) (hr : KidsIs K n i a k r) (hk : r < 0 ∨ K i = (k : Int)) : EndIs K n i a r := by
  rcases hr with ⟨e, h, t, hh, rfl⟩ | ⟨rfl, hno⟩
  · have hkk : (K i).toNat = k := by omega
    rw [← hkk] at t
    exact .inl ⟨e, h + 1, Fo.mk1 hi hk0 t, by omega, rfl⟩
  · refine .inr ⟨rfl, fun e h t => ?_⟩
    obtain ⟨g, rfl, _, _, t'⟩ := t.one
    have := hno _ _ t'
    omega

theorem EndIs.none {K : Nat → Int} {n i a : Nat} (h : n ≤ i ∨ 64 ≤ a ∨ K i < 0) : EndIs K n i a (-1) := by
  refine .inr ⟨rfl, fun e h' t => ?_⟩
  obtain ⟨g, rfl, hi, hk, _⟩ := t.one
  omega

theorem EndIs.det {K : Nat → Int} {n i a : Nat} {r r' : Int} (h : EndIs K n i a r) (h' : EndIs K n i a r') : r = r' := by
  rcases h with ⟨e, g, t, hh, rfl⟩ | ⟨rfl, hno⟩ <;> rcases h' with ⟨e', g', t', hh', rfl⟩ | ⟨rfl, hno'⟩
  · rw [(t.det t').1]
  · have := hno' _ _ t; omega
  · have := hno _ _ t'; omega
  · rfl

/-! ### the stack of ends -/

def pop (i : Nat) : List Nat → List Nat
  | [] => []
  | x :: s => if x ≤ i then pop i s else x :: s

/-- the stack ahead of number i. -/
def st (E : Nat → Nat) : Nat → List Nat
  | 0 => []
  | i + 1 => E i :: pop i (st E i)

def depth (E : Nat → Nat) (i : Nat) : Nat := (pop i (st E i)).length

theorem pop_all {i : Nat} {s : List Nat} (h : ∀ x ∈ s, i < x) : pop i s = s := by
  cases s with
  | nil => rfl
  | cons x s => rw [pop, if_neg]; have := h x (by simp); omega

theorem Fo.depths {K : Nat → Int} {n : Nat} {E : Nat → Nat} (hE : ∀ i, i < n → ∃ h, Fo K n 1 i (E i) h) {k i e h : Nat} (t : Fo K n k i e h) :
    ∀ s : List Nat, (∀ x ∈ s, e ≤ x) → pop i (st E i) = pop i s →
      pop e (st E e) = pop e s ∧ ((∀ j, i ≤ j → j < e → depth E j < 64) ↔ (k = 0 ∨ s.length + h ≤ 64)) := by
  induction t with
  | @nil i =>
    intro s _ hp
    exact ⟨hp, ⟨fun _ => .inl rfl, fun _ j h1 h2 => by omega⟩⟩
  | @cons k i m e h1 h2 hi hk t1 t2 ih1 ih2 =>
    intro s hx hp
    have l1 := t1.le.1
    have l2 := t2.le.1
    have z1 : (K i).toNat = 0 → h1 = 0 := fun h0 => by rw [h0] at t1; cases t1; rfl
    have z2 : k = 0 → h2 = 0 := fun h0 => by subst h0; cases t2; rfl
    have hEm : E i = m := by
      obtain ⟨h', u⟩ := hE i hi
      exact (u.det (Fo.mk1 hi hk t1)).1
    have hps : pop i s = s := pop_all fun x hxs => by have := hx x hxs; omega
    rw [hps] at hp
    have hst : st E (i + 1) = m :: s := by rw [st, hp, hEm]
    have hd : depth E i = s.length := by rw [depth, hp]
    obtain ⟨p1, q1⟩ := ih1 (m :: s) (by
      intro x hx'
      rcases List.mem_cons.1 hx' with rfl | hx'
      · exact Nat.le_refl _
      · have := hx x hx'; omega) (by rw [hst])
    have p1' : pop m (st E m) = pop m s := by rw [p1, pop, if_pos (Nat.le_refl _)]
    obtain ⟨p2, q2⟩ := ih2 s hx p1'
    simp only [List.length_cons] at q1
    refine ⟨p2, ⟨fun hall => .inr ?_, fun hle j hj1 hj2 => ?_⟩⟩
    · have a0 := hall i (Nat.le_refl _) (by omega)
      have a1 := q1.1 fun j hj1 hj2 => hall j (by omega) (by omega)
      have a2 := q2.1 fun j hj1 hj2 => hall j (by omega) (by omega)
      omega
    · have hle' : s.length + max (h1 + 1) h2 ≤ 64 := by omega
      by_cases hji : j = i
      · subst hji; omega
      · by_cases hjm : j < m
        · exact q1.2 (.inr (by omega)) j (by omega) hjm
        · exact q2.2 (.inr (by omega)) j (by omega) hj2

theorem depth_iff {K : Nat → Int} {n h : Nat} {E : Nat → Nat} (hE : ∀ i, i < n → ∃ h, Fo K n 1 i (E i) h) (t : Fo K n 1 0 n h) : (∀ j, j < n → depth E j < 64) ↔ h ≤ 64 := by
  have := (t.depths hE [] (by simp) rfl).2
  simp only [List.length_nil, Nat.zero_add, Nat.zero_le, true_implies] at this
  rw [this]
  omega

end Go.Proofs.YtckapapejfnojaaGreatDoor

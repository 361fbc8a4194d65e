import Derived.Test.YtckapapejfnojaaGreatDoorChecked
import Derived.WalkKit
import Derived.ProofKit
import Derived.Handy
import Derived.OpenShut
import Derived.WalkLawsBesides
import Derived.WalkSpells
import Derived.Laws.BitsAllLaws
import Derived.Laws.BytesArg
import Derived.Laws.OwnMore
import Derived.Laws.Concat
import Derived.Deep.OwnRows
import Derived.Test.YtckapapejfnojaaGreatDoorRows
import Derived.Deep.RegionHeld3
import Derived.Shelf.RegionOpen
namespace Go.Proofs.YtckapapejfnojaaGreatDoor
section

/-- 'Fo K n k i e h': from number i on stand k trees one behind the other, the last one ends at e, and the highest has h prototypes above one another. -/
inductive Fo (K : Nat → Int) (n : Nat) : Nat → Nat → Nat → Nat → Prop
  | nil {i : Nat} : Fo K n 0 i i 0
  | cons {k i m e h1 h2 : Nat} : i < n → 0 ≤ K i → Fo K n (K i).toNat (i + 1) m h1 → Fo K n k m e h2 → Fo K n (k + 1) i e (max (h1 + 1) h2)

theorem Fo.le {K : Nat → Int} {n k i e h : Nat} (t : Fo K n k i e h) : i + k ≤ e ∧ (0 < k → e ≤ n) := by
  induction t with
  | nil => exact ⟨by omega, by omega⟩
  | @cons k i m e h1 h2 hi hk t1 t2 ih1 ih2 =>
    refine ⟨by omega, fun _ => ?_⟩
    by_cases hk0 : 0 < k
    · exact ih2.2 hk0
    · obtain rfl : k = 0 := by omega
      cases t2
      by_cases hk1 : 0 < (K i).toNat
      · exact ih1.2 hk1
      · have h0 : (K i).toNat = 0 := by omega
        rw [h0] at t1
        cases t1
        omega

theorem Fo.det {K : Nat → Int} {n k i e h : Nat} (t : Fo K n k i e h) : ∀ {e' h' : Nat}, Fo K n k i e' h' → e = e' ∧ h = h' := by
  induction t with
  | nil => intro e' h' t'; cases t'; exact ⟨rfl, rfl⟩
  | cons hi hk t1 t2 ih1 ih2 =>
    intro e' h' t'
    cases t' with
    | cons hi' hk' t1' t2' =>
      obtain ⟨rfl, rfl⟩ := ih1 t1'
      obtain ⟨rfl, rfl⟩ := ih2 t2'
      exact ⟨rfl, rfl⟩

theorem Fo.split {K : Nat → Int} {n : Nat} : ∀ (a b : Nat) {i e h : Nat}, Fo K n (a + b) i e h → ∃ m h1 h2, Fo K n a i m h1 ∧ Fo K n b m e h2 ∧ h = max h1 h2 := by
  intro a
  induction a with
  | zero => intro b i e h t; rw [Nat.zero_add] at t; exact ⟨i, 0, h, .nil, t, by omega⟩
  | succ a ih =>
    intro b i e h t
    rw [Nat.add_right_comm] at t
    cases t with
    | cons hi hk t1 t2 =>
      obtain ⟨m', g1, g2, u1, u2, rfl⟩ := ih b t2
      exact ⟨m', _, g2, .cons hi hk t1 u1, u2, by omega⟩

theorem Fo.join {K : Nat → Int} {n a i m h1 : Nat} (t : Fo K n a i m h1) : ∀ {b e h2 : Nat}, Fo K n b m e h2 → Fo K n (a + b) i e (max h1 h2) := by
  induction t with
  | nil => intro b e h2 t; rw [Nat.zero_add, Nat.zero_max]; exact t
  | @cons k i m e g1 g2 hi hk t1 t2 ih1 ih2 =>
    intro b e' h2 t
    rw [Nat.add_right_comm, Nat.max_assoc]
    exact .cons hi hk t1 (ih2 t)

/-- one tree: its root's children. -/
theorem Fo.one {K : Nat → Int} {n i e h : Nat} (t : Fo K n 1 i e h) : ∃ g, h = g + 1 ∧ i < n ∧ 0 ≤ K i ∧ Fo K n (K i).toNat (i + 1) e g := by
  cases t with
  | @cons k i m e h1 h2 hi hk t1 t2 =>
    cases t2
    exact ⟨h1, by omega, hi, hk, t1⟩

theorem Fo.mk1 {K : Nat → Int} {n i e g : Nat} (hi : i < n) (hk : 0 ≤ K i) (t : Fo K n (K i).toNat (i + 1) e g) : Fo K n 1 i e (g + 1) := by
  have := Fo.cons hi hk t (Fo.nil (K := K) (n := n) (i := e))
  rwa [Nat.max_eq_left (by omega)] at this

/-- every number within has its own tree. -/
theorem Fo.within {K : Nat → Int} {n k i e h : Nat} (t : Fo K n k i e h) : ∀ j, i ≤ j → j < e → ∃ e' h', Fo K n 1 j e' h' := by
  induction t with
  | nil => intro j h1 h2; omega
  | @cons k i m e h1 h2 hi hk t1 t2 ih1 ih2 =>
    intro j hj he
    by_cases hji : j = i
    · subst hji; exact ⟨m, h1 + 1, Fo.mk1 hi hk t1⟩
    · by_cases hjm : j < m
      · exact ih1 j (by omega) hjm
      · exact ih2 j (by omega) he

/-- the answer of the model's walk down: the end, or -1 where there is no tree within the limits. -/
def EndIs (K : Nat → Int) (n i a : Nat) (r : Int) : Prop :=
  (∃ e h, Fo K n 1 i e h ∧ a + h ≤ 64 ∧ r = (e : Int)) ∨ (r = -1 ∧ ∀ e h, Fo K n 1 i e h → 64 < a + h)

/-- what has come when k children have been gone over: their end, or -1. -/
def KidsIs (K : Nat → Int) (n i a k : Nat) (r : Int) : Prop :=
  (∃ e h, Fo K n k (i + 1) e h ∧ a + 1 + h ≤ 64 ∧ r = (e : Int)) ∨ (r = -1 ∧ ∀ e h, Fo K n (K i).toNat (i + 1) e h → 64 < a + 1 + h)

theorem KidsIs.start {K : Nat → Int} {n i a : Nat} (ha : a < 64) : KidsIs K n i a 0 ((i : Int) + 1) :=
  .inl ⟨i + 1, 0, .nil, by omega, by simp⟩

theorem KidsIs.step {K : Nat → Int} {n i a k e : Nat} {h : Nat} {r : Int} (t : Fo K n k (i + 1) e h) (hh : a + 1 + h ≤ 64) (hk : (k : Int) < K i) (hr : EndIs K n e (a + 1) r) : KidsIs K n i a (k + 1) r := by
  rcases hr with ⟨e', h', t', hh', rfl⟩ | ⟨rfl, hno⟩
  · exact .inl ⟨e', _, Fo.join t t', by omega, rfl⟩
  · refine .inr ⟨rfl, fun e2 h2 t2 => ?_⟩
    obtain ⟨d, hd⟩ : ∃ d, (K i).toNat = k + (1 + d) := ⟨(K i).toNat - k - 1, by omega⟩
    rw [hd] at t2
    obtain ⟨m, g1, g2, u1, u2, rfl⟩ := Fo.split k (1 + d) t2
    obtain ⟨rfl, rfl⟩ := t.det u1
    obtain ⟨m', g3, g4, u3, u4, rfl⟩ := Fo.split 1 d u2
    have := hno _ _ u3
    omega

theorem KidsIs.done {K : Nat → Int} {n i a k : Nat} {r : Int} (hi : i < n) (hk0 : 0 ≤ K i) (hr : KidsIs K n i a k r) (hk : r < 0 ∨ K i = (k : Int)) : EndIs K n i a r := by
  rcases hr with ⟨e, h, t, hh, rfl⟩ | ⟨rfl, hno⟩
  · have hkk : (K i).toNat = k := by omega
    rw [← hkk] at t
    exact .inl ⟨e, h + 1, Fo.mk1 hi hk0 t, by omega, rfl⟩
  · refine .inr ⟨rfl, fun e h t => ?_⟩
    obtain ⟨g, rfl, _, _, t'⟩ := t.one
    have := hno _ _ t'
    omega

theorem EndIs.none {K : Nat → Int} {n i a : Nat} (h : n ≤ i ∨ 64 ≤ a ∨ K i < 0) : EndIs K n i a (-1) := by
  refine .inr ⟨rfl, fun e h' t => ?_⟩
  obtain ⟨g, rfl, hi, hk, _⟩ := t.one
  omega

theorem EndIs.det {K : Nat → Int} {n i a : Nat} {r r' : Int} (h : EndIs K n i a r) (h' : EndIs K n i a r') : r = r' := by
  rcases h with ⟨e, g, t, hh, rfl⟩ | ⟨rfl, hno⟩ <;> rcases h' with ⟨e', g', t', hh', rfl⟩ | ⟨rfl, hno'⟩
  · rw [(t.det t').1]
  · have := hno' _ _ t; omega
  · have := hno _ _ t'; omega
  · rfl

/-! ### the stack of ends -/

def pop (i : Nat) : List Nat → List Nat
  | [] => []
  | x :: s => if x ≤ i then pop i s else x :: s

/-- the stack ahead of number i. -/
def st (E : Nat → Nat) : Nat → List Nat
  | 0 => []
  | i + 1 => E i :: pop i (st E i)

def depth (E : Nat → Nat) (i : Nat) : Nat := (pop i (st E i)).length

theorem pop_all {i : Nat} {s : List Nat} (h : ∀ x ∈ s, i < x) : pop i s = s := by
  cases s with
  | nil => rfl
  | cons x s => rw [pop, if_neg]; have := h x (by simp); omega

theorem Fo.depths {K : Nat → Int} {n : Nat} {E : Nat → Nat} (hE : ∀ i, i < n → ∃ h, Fo K n 1 i (E i) h) {k i e h : Nat} (t : Fo K n k i e h) :
    ∀ s : List Nat, (∀ x ∈ s, e ≤ x) → pop i (st E i) = pop i s →
      pop e (st E e) = pop e s ∧ ((∀ j, i ≤ j → j < e → depth E j < 64) ↔ (k = 0 ∨ s.length + h ≤ 64)) := by
  induction t with
  | @nil i =>
    intro s _ hp
    exact ⟨hp, ⟨fun _ => .inl rfl, fun _ j h1 h2 => by omega⟩⟩
  | @cons k i m e h1 h2 hi hk t1 t2 ih1 ih2 =>
    intro s hx hp
    have l1 := t1.le.1
    have l2 := t2.le.1
    have z1 : (K i).toNat = 0 → h1 = 0 := fun h0 => by rw [h0] at t1; cases t1; rfl
    have z2 : k = 0 → h2 = 0 := fun h0 => by subst h0; cases t2; rfl
    have hEm : E i = m := by
      obtain ⟨h', u⟩ := hE i hi
      exact (u.det (Fo.mk1 hi hk t1)).1
    have hps : pop i s = s := pop_all fun x hxs => by have := hx x hxs; omega
    rw [hps] at hp
    have hst : st E (i + 1) = m :: s := by rw [st, hp, hEm]
    have hd : depth E i = s.length := by rw [depth, hp]
    obtain ⟨p1, q1⟩ := ih1 (m :: s) (by
      intro x hx'
      rcases List.mem_cons.1 hx' with rfl | hx'
      · exact Nat.le_refl _
      · have := hx x hx'; omega) (by rw [hst])
    have p1' : pop m (st E m) = pop m s := by rw [p1, pop, if_pos (Nat.le_refl _)]
    obtain ⟨p2, q2⟩ := ih2 s hx p1'
    simp only [List.length_cons] at q1
    refine ⟨p2, ⟨fun hall => .inr ?_, fun hle j hj1 hj2 => ?_⟩⟩
    · have a0 := hall i (Nat.le_refl _) (by omega)
      have a1 := q1.1 fun j hj1 hj2 => hall j (by omega) (by omega)
      have a2 := q2.1 fun j hj1 hj2 => hall j (by omega) (by omega)
      omega
    · have hle' : s.length + max (h1 + 1) h2 ≤ 64 := by omega
      by_cases hji : j = i
      · subst hji; omega
      · by_cases hjm : j < m
        · exact q1.2 (.inr (by omega)) j (by omega) hjm
        · exact q2.2 (.inr (by omega)) j (by omega) hj2

theorem depth_iff {K : Nat → Int} {n h : Nat} {E : Nat → Nat} (hE : ∀ i, i < n → ∃ h, Fo K n 1 i (E i) h) (t : Fo K n 1 0 n h) : (∀ j, j < n → depth E j < 64) ↔ h ≤ 64 := by
  have := (t.depths hE [] (by simp) rfl).2
  simp only [List.length_nil, Nat.zero_add, Nat.zero_le, true_implies] at this
  rw [this]
  omega

end
section
open Go.RowKit
set_option linter.unusedVariables false
set_option linter.unusedSimpArgs false

/-- a slice's content: so many things, by index. -/
structure Sl (α : Type) where
  n : Nat
  f : Nat → α
structure VD where
  kind : Int
  num : Int
  text : ByteArray
structure UD where
  stack : Bool
  index : Int
structure PD where
  params : Int
  vararg : Bool
  regs : Int
  code : Sl Int
  consts : Sl VD
  ups : Sl UD
  kids : Int
  name : ByteArray
  lines : Sl Int
  upNames : Sl ByteArray

/-- the slice value v: n elements of z cells each, in a block of which av holds; cell j of element i holds C i j. -/
def IsArr (av : Nat → Prop) (w : World) (v : Value) (z n : Nat) (C : Nat → Nat → Value) : Prop :=
  ∃ ao cap, v = .slice ao n cap ∧ n ≤ 9223372036854775807 ∧
    (0 < n → ∃ b o, ao = some ⟨b, o, none⟩ ∧ av b ∧ ∀ i, i < n → ∀ j, j < z → w.cell? ⟨b, o + i * z + j, none⟩ = some (C i j))

theorem IsArr.keep {av : Nat → Prop} {w w' : World} {v : Value} {z n : Nat} {C : Nat → Nat → Value} (h : IsArr av w v z n C) (hk : ∀ b, av b → w'.heap[b]? = w.heap[b]?) : IsArr av w' v z n C := by
  obtain ⟨ao, cap, rfl, h1, h2⟩ := h
  refine ⟨ao, cap, rfl, h1, fun hn => ?_⟩
  obtain ⟨b, o, rfl, hb, hc⟩ := h2 hn
  exact ⟨b, o, rfl, hb, fun i hi j hj => (World.cell?_of_block (w := w) (hk b hb)).trans (hc i hi j hj)⟩
theorem IsArr.mono {av av' : Nat → Prop} {w : World} {v : Value} {z n : Nat} {C : Nat → Nat → Value} (h : IsArr av w v z n C) (hm : ∀ b, av b → av' b) : IsArr av' w v z n C := by
  obtain ⟨ao, cap, rfl, h1, h2⟩ := h
  refine ⟨ao, cap, rfl, h1, fun hn => ?_⟩
  obtain ⟨b, o, rfl, hb, hc⟩ := h2 hn
  exact ⟨b, o, rfl, hm b hb, hc⟩

def iC (k : IntKind) (f : Nat → Int) : Nat → Nat → Value := fun i _ => .int k (f i)
def sC (f : Nat → ByteArray) : Nat → Nat → Value := fun i _ => .string (f i)
def vC (f : Nat → VD) : Nat → Nat → Value := fun i j => match j with
  | 0 => .int .i64 (f i).kind
  | 1 => .int .i64 (f i).num
  | _ => .string (f i).text
def uC (f : Nat → UD) : Nat → Nat → Value := fun i j => match j with
  | 0 => .bool (f i).stack
  | _ => .int .i64 (f i).index

def IsInts (k : IntKind) (av : Nat → Prop) (w : World) (v : Value) (s : Sl Int) : Prop := IsArr av w v 1 s.n (iC k s.f)
def IsStrs (av : Nat → Prop) (w : World) (v : Value) (s : Sl ByteArray) : Prop := IsArr av w v 1 s.n (sC s.f) ∧ ∀ i, i < s.n → (s.f i).size ≤ 9223372036854775807
def IsVals (av : Nat → Prop) (w : World) (v : Value) (s : Sl VD) : Prop := IsArr av w v 3 s.n (vC s.f) ∧ ∀ i, i < s.n → (s.f i).text.size ≤ 9223372036854775807
def IsUps (av : Nat → Prop) (w : World) (v : Value) (s : Sl UD) : Prop := IsArr av w v 2 s.n (uC s.f)

/-- a prototype's value. -/
structure IsProto (av : Nat → Prop) (w : World) (a3 a4 a5 a8 a9 : Value) (p : PD) : Prop where
  code : IsInts .u32 av w a3 p.code
  consts : IsVals av w a4 p.consts
  ups : IsUps av w a5 p.ups
  lines : IsInts .i64 av w a8 p.lines
  upNames : IsStrs av w a9 p.upNames
  name : p.name.size ≤ 9223372036854775807

theorem IsProto.keep {av : Nat → Prop} {w w' : World} {a3 a4 a5 a8 a9 : Value} {p : PD} (h : IsProto av w a3 a4 a5 a8 a9 p) (hk : ∀ b, av b → w'.heap[b]? = w.heap[b]?) : IsProto av w' a3 a4 a5 a8 a9 p :=
  ⟨IsArr.keep h.code hk, ⟨IsArr.keep h.consts.1 hk, h.consts.2⟩, IsArr.keep h.ups hk, IsArr.keep h.lines hk, ⟨IsArr.keep h.upNames.1 hk, h.upNames.2⟩, h.name⟩
theorem IsProto.mono {av av' : Nat → Prop} {w : World} {a3 a4 a5 a8 a9 : Value} {p : PD} (h : IsProto av w a3 a4 a5 a8 a9 p) (hm : ∀ b, av b → av' b) : IsProto av' w a3 a4 a5 a8 a9 p :=
  ⟨IsArr.mono h.code hm, ⟨IsArr.mono h.consts.1 hm, h.consts.2⟩, IsArr.mono h.ups hm, IsArr.mono h.lines hm, ⟨IsArr.mono h.upNames.1 hm, h.upNames.2⟩, h.name⟩

def pAgg (p : PD) (a3 a4 a5 a8 a9 : Value) : Value :=
  .agg #[.int .i64 p.params, .bool p.vararg, .int .i64 p.regs, a3, a4, a5, .int .i64 p.kids, .string p.name, a8, a9]

/-- cell j of a prototype. -/
def pC (p : Nat → PD) (a3 a4 a5 a8 a9 : Nat → Value) : Nat → Nat → Value := fun i j => match j with
  | 0 => .int .i64 (p i).params
  | 1 => .bool (p i).vararg
  | 2 => .int .i64 (p i).regs
  | 3 => a3 i
  | 4 => a4 i
  | 5 => a5 i
  | 6 => .int .i64 (p i).kids
  | 7 => .string (p i).name
  | 8 => a8 i
  | _ => a9 i

def IsProtos (av : Nat → Prop) (w : World) (v : Value) (ps : Sl PD) : Prop :=
  ∃ a3 a4 a5 a8 a9 : Nat → Value, IsArr av w v 10 ps.n (pC ps.f a3 a4 a5 a8 a9) ∧ ∀ i, i < ps.n → IsProto av w (a3 i) (a4 i) (a5 i) (a8 i) (a9 i) (ps.f i)

theorem IsProtos.keep {av : Nat → Prop} {w w' : World} {v : Value} {ps : Sl PD} (h : IsProtos av w v ps) (hk : ∀ b, av b → w'.heap[b]? = w.heap[b]?) : IsProtos av w' v ps := by
  obtain ⟨a3, a4, a5, a8, a9, h1, h2⟩ := h
  exact ⟨a3, a4, a5, a8, a9, h1.keep hk, fun i hi => (h2 i hi).keep hk⟩
theorem IsProtos.mono {av av' : Nat → Prop} {w : World} {v : Value} {ps : Sl PD} (h : IsProtos av w v ps) (hm : ∀ b, av b → av' b) : IsProtos av' w v ps := by
  obtain ⟨a3, a4, a5, a8, a9, h1, h2⟩ := h
  exact ⟨a3, a4, a5, a8, a9, h1.mono hm, fun i hi => (h2 i hi).mono hm⟩
theorem IsProtos.below {n : Nat} {w w' : World} {v : Value} {ps : Sl PD} (h : IsProtos (· < n) w v ps) (b : Below n w w') : IsProtos (· < n) w' v ps := h.keep fun k hk => b.block k hk
theorem IsProto.below {n : Nat} {w w' : World} {a3 a4 a5 a8 a9 : Value} {p : PD} (h : IsProto (· < n) w a3 a4 a5 a8 a9 p) (b : Below n w w') : IsProto (· < n) w' a3 a4 a5 a8 a9 p := h.keep fun k hk => b.block k hk
theorem IsArr.below {m : Nat} {w w' : World} {v : Value} {z n : Nat} {C : Nat → Nat → Value} (h : IsArr (· < m) w v z n C) (b : Below m w w') : IsArr (· < m) w' v z n C := h.keep fun k hk => b.block k hk
/-- the same, said of the later world's size. -/
theorem IsProtos.later {w w' : World} {v : Value} {ps : Sl PD} (h : IsProtos (· < w.heap.size) w v ps) (b : Below w.heap.size w w') : IsProtos (· < w'.heap.size) w' v ps :=
  (h.below b).mono fun k hk => Nat.lt_of_lt_of_le hk b.size
theorem IsProto.later {w w' : World} {a3 a4 a5 a8 a9 : Value} {p : PD} (h : IsProto (· < w.heap.size) w a3 a4 a5 a8 a9 p) (b : Below w.heap.size w w') : IsProto (· < w'.heap.size) w' a3 a4 a5 a8 a9 p :=
  (h.below b).mono fun k hk => Nat.lt_of_lt_of_le hk b.size
theorem IsArr.later {w w' : World} {v : Value} {z n : Nat} {C : Nat → Nat → Value} (h : IsArr (· < w.heap.size) w v z n C) (b : Below w.heap.size w w') : IsArr (· < w'.heap.size) w' v z n C :=
  (h.below b).mono fun k hk => Nat.lt_of_lt_of_le hk b.size

/-- how long lists may be: what the size test leaves. -/
structure SmallP (p : PD) : Prop where
  code : p.code.n ≤ 1048576
  consts : p.consts.n ≤ 1048576
  ups : p.ups.n ≤ 1048576
  lines : p.lines.n ≤ 1048576
  upNames : p.upNames.n ≤ 1048576
def SmallC (ps : Sl PD) : Prop := ps.n ≤ 1048576 ∧ ∀ i, i < ps.n → SmallP (ps.f i)
end
section
set_option linter.unusedVariables false
set_option linter.unusedSimpArgs false
/-- the parts of a word. -/
def opW (z : Int) : Int := z % 64
def aW (z : Int) : Int := z / 64 % 256
def bW (z : Int) : Int := z / 16384 % 512
def cW (z : Int) : Int := z / 8388608
def sW (z : Int) : Int := bW z + 512 * cW z - 131072
/-- the places that can follow, outside of the code with them. -/
def folW (pc z : Int) : List Int :=
  if opW z = 23 ∨ opW z = 33 then [] else if opW z = 18 then [pc + 1 + sW z] else if opW z = 27 ∨ opW z = 28 then [pc + 1, pc + 1 + sW z] else if opW z = 19 ∨ opW z = 20 ∨ opW z = 21 then [pc + 1, pc + 2] else [pc + 1]
/-- how a place that follows is come to. -/
def wayW (z : Int) : Int :=
  if (opW z = 22 ∨ opW z = 30 ∨ opW z = 31) ∧ cW z = 511 then aW z else if opW z = 24 ∧ bW z = 511 then aW z else -1
theorem wayW_low (z : Int) : -1 ≤ wayW z := by
  unfold wayW aW
  split
  · omega
  · split <;> omega
/-- two ways put together. -/
def meet (v y : Int) : Int := if v = -2 then y else if v = -3 ∨ (v = -1 ∧ y ≠ -1) ∨ (v ≠ -1 ∧ y = -1) then -3 else if v < y then v else y
/-- v is what these ways make. -/
inductive Tp (W : Int → Prop) (v : Int) : Prop
  | none : v = -2 → (∀ x, ¬ W x) → Tp W v
  | shut : v = -1 → W (-1) → (∀ x, W x → x = -1) → Tp W v
  | least : 0 ≤ v → W v → (∀ x, W x → v ≤ x) → Tp W v
  | both : v = -3 → W (-1) → (∃ x, 0 ≤ x ∧ W x) → Tp W v
theorem Tp.det {W : Int → Prop} {v v' : Int} (h : Tp W v) (h' : Tp W v') : v = v' := by
  cases h with
  | none e n =>
    cases h' with
    | none e' n' => omega
    | shut e' a b => exact absurd a (n _)
    | least e' a b => exact absurd a (n _)
    | both e' a b => exact absurd a (n _)
  | shut e a b =>
    cases h' with
    | none e' n' => exact absurd a (n' _)
    | shut e' a' b' => omega
    | least e' a' b' => have := b _ a'; omega
    | both e' a' b' => obtain ⟨x, h1, h2⟩ := b'; have := b _ h2; omega
  | least e a b =>
    cases h' with
    | none e' n' => exact absurd a (n' _)
    | shut e' a' b' => have := b' _ a; omega
    | least e' a' b' => have := b _ a'; have := b' _ a; omega
    | both e' a' b' => have := b _ a'; omega
  | both e a b =>
    cases h' with
    | none e' n' => exact absurd a (n' _)
    | shut e' a' b' => obtain ⟨x, h1, h2⟩ := b; have := b' _ h2; omega
    | least e' a' b' => have := b' _ a; omega
    | both e' a' b' => omega
theorem Tp.congr {W W' : Int → Prop} {v : Int} (h : Tp W v) (e : ∀ x, W x ↔ W' x) : Tp W' v := by
  have : W = W' := funext fun x => propext (e x)
  exact this ▸ h
/-- one way more. -/
theorem Tp.add {W : Int → Prop} {v : Int} (h : Tp W v) {y : Int} (hy : -1 ≤ y) : Tp (fun x => W x ∨ x = y) (meet v y) := by
  by_cases hy1 : y = -1
  · subst hy1
    cases h with
    | none e n => subst e; exact .shut rfl (.inr rfl) (fun x hx => hx.elim (fun h => absurd h (n x)) id)
    | shut e a b => subst e; exact .shut rfl (.inr rfl) (fun x hx => hx.elim (b x) id)
    | least e a b =>
      have : meet v (-1) = -3 := by unfold meet; rw [if_neg (by omega), if_pos (by omega)]
      rw [this]
      exact .both rfl (.inr rfl) ⟨v, e, .inl a⟩
    | both e a b => subst e; obtain ⟨x, h1, h2⟩ := b; exact .both rfl (.inr rfl) ⟨x, h1, .inl h2⟩
  · have h0 : 0 ≤ y := by omega
    cases h with
    | none e n =>
      subst e
      have : meet (-2) y = y := by unfold meet; rw [if_pos rfl]
      rw [this]
      exact .least h0 (.inr rfl) (fun x hx => hx.elim (fun h => absurd h (n x)) (fun h => by omega))
    | shut e a b =>
      subst e
      have : meet (-1) y = -3 := by unfold meet; rw [if_neg (by omega), if_pos (by omega)]
      rw [this]
      exact .both rfl (.inl a) ⟨y, h0, .inr rfl⟩
    | least e a b =>
      by_cases hlt : v < y
      · have : meet v y = v := by unfold meet; rw [if_neg (by omega), if_neg (by omega), if_pos hlt]
        rw [this]
        exact .least e (.inl a) (fun x hx => hx.elim (b x) (fun h => by omega))
      · have : meet v y = y := by unfold meet; rw [if_neg (by omega), if_neg (by omega), if_neg hlt]
        rw [this]
        exact .least h0 (.inr rfl) (fun x hx => hx.elim (fun h => by have := b x h; omega) (fun h => by omega))
    | both e a b =>
      subst e
      have : meet (-3) y = -3 := by unfold meet; rw [if_neg (by omega), if_pos (by omega)]
      obtain ⟨x, h1, h2⟩ := b
      rw [this]
      exact .both rfl (.inl a) ⟨x, h1, .inl h2⟩
/-- the places of the code that can follow place pc. -/
def folN (c : Sl Int) (pc t : Nat) : Prop := pc < c.n ∧ t < c.n ∧ (t : Int) ∈ folW (pc : Int) (c.f pc)
/-- the places that are reachable. -/
inductive Rch (c : Sl Int) : Nat → Prop
  | zero : Rch c 0
  | step {a b : Nat} : Rch c a → folN c a b → Rch c b
/-- the ways to a place. -/
def Ways (c : Sl Int) (t : Nat) (x : Int) : Prop := (t = 0 ∧ x = -1) ∨ ∃ a, Rch c a ∧ folN c a t ∧ x = wayW (c.f a)
/-- what Tops says of a place. -/
def TopAt (c : Sl Int) (t : Nat) (v : Int) : Prop := Tp (Ways c t) v
theorem TopAt.det {c : Sl Int} {t : Nat} {v v' : Int} (h : TopAt c t v) (h' : TopAt c t v') : v = v' := Tp.det h h'
/-- a set that holds place 0 and whatever follows holds all that is reachable. -/
theorem Rch.sub {c : Sl Int} {D : Nat → Prop} (h0 : D 0) (hs : ∀ a b, D a → folN c a b → D b) : ∀ {a}, Rch c a → D a := by
  intro a h
  induction h with
  | zero => exact h0
  | step _ hf ih => exact hs _ _ ih hf
theorem Ways.of_done {c : Sl Int} {D : Nat → Prop} (hD : ∀ a, D a ↔ Rch c a) (t : Nat) : ∀ x, ((t = 0 ∧ x = -1) ∨ ∃ a, D a ∧ folN c a t ∧ x = wayW (c.f a)) ↔ Ways c t x := by
  intro x
  constructor
  · rintro (h | ⟨a, h1, h2⟩)
    · exact .inl h
    · exact .inr ⟨a, (hD a).1 h1, h2⟩
  · rintro (h | ⟨a, h1, h2⟩)
    · exact .inl h
    · exact .inr ⟨a, (hD a).2 h1, h2⟩
end
section
open Go.RowKit
set_option linter.unusedVariables false
set_option linter.unusedSimpArgs false
def Filled (g : Nat → Value) (z i : Nat) (C : Nat → Nat → Value) : Prop := ∀ i', i' < i → ∀ j, j < z → g (i' * z + j) = C i' j

theorem isArr_of_row {w : World} {B : Nat} {e : TypeId} {z n : Nat} {g : Nat → Value} {C : Nat → Nat → Value} {av : Nat → Prop} (h : w.rowIs B e (n * z) g) (hF : Filled g z n C) (hav : av B) (hn : n ≤ 9223372036854775807) :
    IsArr av w (.slice (some ⟨B, 0, none⟩) n n) z n C := by
  refine ⟨_, _, rfl, hn, fun _ => ⟨B, 0, rfl, hav, fun i hi j hj => ?_⟩⟩
  have hlt : i * z + j < n * z := by
    have := Nat.mul_le_mul_right z (show i + 1 ≤ n from hi)
    rw [Nat.succ_mul] at this
    omega
  have hc := h.cell hlt
  rw [hF i hi j hj] at hc
  simpa [Nat.add_assoc] using hc

theorem lt_mul_of {i n j z : Nat} (hi : i < n) (hj : j < z) : i * z + j < n * z := by
  have := Nat.mul_le_mul_right z (show i + 1 ≤ n from hi)
  rw [Nat.succ_mul] at this
  omega

/-- the world behind 'make'. -/
def madeW (w : World) (z : Value) (n size : Nat) (e : TypeId) : World := w.alloc (.cells (madeCells z.cells (n * size)) e)
theorem run_make_rows (t e : TypeId) (z : Value) (size bytes : Nat) (ht : Tryz.prog.underlying t = some (.slice e)) (hinfo : (Tryz.prog.info? e).map (fun i => (i.zero, i.size, i.bytes)) = some (some z, size, bytes))
    (n : Nat) (hbytes : bytes * n ≤ 281474976710656) (h63 : n ≤ 9223372036854775807) (w : World) :
    (Instr.makeSlice t (.int .i64 (n : Int)) (.int .i64 (n : Int))).run Tryz.prog w = .ok (.slice (some ⟨w.heap.size, 0, none⟩) n n) (madeW w z n size e) := by
  obtain ⟨i, hi, hzz⟩ := Option.map_eq_some_iff.1 hinfo
  simp only [Prod.mk.injEq] at hzz
  obtain ⟨hz, hs, hb⟩ := hzz
  have hb' : (i.bytes : Int) * (n : Int) ≤ 281474976710656 := by
    have h : ((i.bytes * n : Nat) : Int) ≤ 281474976710656 := by rw [hb]; omega
    rwa [Int.natCast_mul] at h
  have hr := run_make (P := Tryz.prog) w t e i z ht hi hz .i64 .i64 n n (by omega) (Int.le_refl _) hb' (by omega)
  simp only [Int.toNat_natCast, hs] at hr
  exact hr
theorem rowIs_madeW (w : World) (z : Value) (n size : Nat) (t : TypeId) : ∃ g, (madeW w z n size t).rowIs w.heap.size t (n * size) g := by
  refine ⟨fun i => (madeCells z.cells (n * size))[i]!, madeCells z.cells (n * size), Go.Deep.blk_alloc_new _ _, size_madeCells _ _, fun i hi => ?_⟩
  show _ = some (madeCells z.cells (n * size))[i]!
  rw [getElem!_pos _ _ (by rw [size_madeCells]; exact hi)]
  simp
theorem below_madeW (w : World) (z : Value) (n size : Nat) (t : TypeId) : Below w.heap.size w (madeW w z n size t) := (Below.refl _ _).alloc (Nat.le_refl _) _

/-- block b is a row that holds just these. -/
def RowL (w : World) (b : Nat) (t : TypeId) (L : List Value) : Prop := w.rowIs b t L.length (fun j => L.getD j undef)
theorem RowL.new (w : World) (L : List Value) (t : TypeId) : RowL (w.alloc (.cells L.toArray t)) w.heap.size t L :=
  World.rowIs_alloc w L.toArray t _ (fun i hi => by
    simp at hi
    simp [List.getD, hi])
theorem RowL.alloc {w : World} {b : Nat} {t : TypeId} {L : List Value} (h : RowL w b t L) (o : Obj) : RowL (w.alloc o) b t L := World.rowIs.alloc h o
theorem RowL.call {w w' : World} {b : Nat} {t : TypeId} {L : List Value} (h : RowL w b t L) (hb : Below w.heap.size w w') : RowL w' b t L := World.rowIs.of_block h (hb.block _ (World.rowIs.lt h))
theorem RowL.other {w : World} {b : Nat} {t : TypeId} {L : List Value} (h : RowL w b t L) {a : Addr} (ha : b ≠ a.block) (v : Value) : RowL (w.setCell a v) b t L := World.rowIs.setOther h ha v
theorem RowL.set {w : World} {b : Nat} {t : TypeId} {L : List Value} (h : RowL w b t L) (k : Nat) (v : Value) : RowL (w.setCell ⟨b, k, none⟩ v) b t (L.set k v) := by
  have := World.rowIs.set h k v
  unfold RowL
  rw [List.length_set]
  refine this.congr fun i hi => ?_
  by_cases e : i = k
  · subst e
    simp [List.getD, hi]
  · simp [List.getD, e, List.getElem?_set, Ne.symm e]
theorem RowL.cell {w : World} {b : Nat} {t : TypeId} {L : List Value} (h : RowL w b t L) (k : Nat) {v : Value} (hk : L[k]? = some v) : w.cell? ⟨b, k, none⟩ = some v := by
  obtain ⟨hlt, hv⟩ := List.getElem?_eq_some_iff.1 hk
  have := World.rowIs.cell h hlt
  rw [this]
  simp [List.getD, hk]
theorem RowL.frozen {w : World} {b : Nat} {t : TypeId} {L : List Value} (h : RowL w b t L) (k : Nat) : w.frozen? ⟨b, k, none⟩ = false := World.rowIs.frozen h k

theorem IsArr.call {lo : Nat} {w w' : World} {v : Value} {z n : Nat} {C : Nat → Nat → Value} (h : IsArr (fun b => lo ≤ b ∧ b < w.heap.size) w v z n C) (hb : Below w.heap.size w w') : IsArr (fun b => lo ≤ b ∧ b < w'.heap.size) w' v z n C :=
  (h.keep fun b hb' => hb.block b hb'.2).mono fun b hb' => ⟨hb'.1, Nat.lt_of_lt_of_le hb'.2 hb.size⟩
theorem IsArr.store {lo : Nat} {w : World} {v : Value} {z n : Nat} {C : Nat → Nat → Value} (h : IsArr (fun b => lo ≤ b ∧ b < w.heap.size) w v z n C) {a : Addr} (ha : a.block < lo) (u : Value) : IsArr (fun b => lo ≤ b ∧ b < (w.setCell a u).heap.size) (w.setCell a u) v z n C := by
  refine (h.keep (w' := w.setCell a u) fun b hb' => Below.heap_setCell w a u b (by omega)).mono fun b hb' => ⟨hb'.1, ?_⟩
  rw [World.size_setCell]
  exact hb'.2
end
section
set_option linter.unusedVariables false
set_option linter.unusedSimpArgs false
/-- the ways out of the places that are done. -/
def WS (c : Sl Int) (D : Nat → Prop) (t : Nat) (x : Int) : Prop := (t = 0 ∧ x = -1) ∨ ∃ a, D a ∧ folN c a t ∧ x = wayW (c.f a)
/-- and the first k out of p. -/
def WF (c : Sl Int) (D : Nat → Prop) (L : List Int) (p k t : Nat) (x : Int) : Prop := WS c D t x ∨ (x = wayW (c.f p) ∧ ∃ j, j < k ∧ L[j]? = some (t : Int))
def putT (tv : Nat → Int) (t : Nat) (v : Int) : Nat → Int := fun i => if i = t then v else tv i
theorem putT_same (tv : Nat → Int) (t : Nat) (v : Int) : putT tv t v t = v := if_pos rfl
theorem putT_other {tv : Nat → Int} {t i : Nat} {v : Int} (h : i ≠ t) : putT tv t v i = tv i := if_neg h
/-- how many places have not been come to. -/
def cnt2 (tv : Nat → Int) : Nat → Nat
  | 0 => 0
  | n + 1 => cnt2 tv n + (if tv n = -2 then 1 else 0)
theorem cnt2_le (tv : Nat → Int) (t : Nat) (v : Int) (hv : v ≠ -2) : ∀ n, cnt2 (putT tv t v) n ≤ cnt2 tv n := by
  intro n
  induction n with
  | zero => exact Nat.le_refl _
  | succ n ih =>
    simp only [cnt2]
    by_cases e : n = t
    · subst e
      rw [putT_same, if_neg hv]
      omega
    · rw [putT_other e]
      omega
theorem cnt2_lt (tv : Nat → Int) (t : Nat) (v : Int) (hv : v ≠ -2) (ht : tv t = -2) : ∀ n, t < n → cnt2 (putT tv t v) n + 1 ≤ cnt2 tv n := by
  intro n
  induction n with
  | zero => intro h; omega
  | succ n ih =>
    intro h
    simp only [cnt2]
    by_cases e : n = t
    · subst e
      have := cnt2_le tv n v hv n
      rw [putT_same, if_neg hv, if_pos ht]
      omega
    · have := ih (by omega)
      rw [putT_other e]
      omega
theorem Tp.some {W : Int → Prop} {v x : Int} (h : Tp W v) (hx : W x) : v ≠ -2 := by
  cases h with
  | none e n => exact absurd hx (n x)
  | shut e a b => omega
  | least e a b => omega
  | both e a b => omega
theorem Tp.noneOf {W : Int → Prop} {v : Int} (h : Tp W v) (hv : v ≠ -2) : ∃ x, W x := by
  cases h with
  | none e n => exact absurd e hv
  | shut e a b => exact ⟨_, a⟩
  | least e a b => exact ⟨_, a⟩
  | both e a b => exact ⟨_, a⟩
theorem Tp.low {W : Int → Prop} {v : Int} (h : Tp W v) : -3 ≤ v := by
  cases h with
  | none e n => omega
  | shut e a b => omega
  | least e a b => omega
  | both e a b => omega
/-- between two rounds: the places D are done, those of work are to be done. -/
structure Wk (c : Sl Int) (D : Nat → Prop) (work : List Nat) (tv : Nat → Int) : Prop where
  tops : ∀ t, t < c.n → Tp (WS c D t) (tv t)
  done : ∀ a, D a → Rch c a
  todo : ∀ a, a ∈ work → Rch c a ∧ a < c.n
  part : ∀ t, t < c.n → (tv t ≠ -2 ↔ D t ∨ t ∈ work)
/-- in a round: place p is looked at, k of what follows are done. -/
structure Wi (c : Sl Int) (D : Nat → Prop) (work : List Nat) (tv : Nat → Int) (L : List Int) (p k : Nat) : Prop where
  tops : ∀ t, t < c.n → Tp (WF c D L p k t) (tv t)
  done : ∀ a, D a → Rch c a
  todo : ∀ a, a ∈ work → Rch c a ∧ a < c.n
  part : ∀ t, t < c.n → (tv t ≠ -2 ↔ D t ∨ t = p ∨ t ∈ work)
  now : Rch c p ∧ p < c.n
  fol : L = folW (p : Int) (c.f p)
theorem Wk.start (c : Sl Int) (h0 : 0 < c.n) : Wk c (fun _ => False) [0] (putT (fun _ => -2) 0 (-1)) := by
  refine ⟨fun t ht => ?_, fun a h => h.elim, fun a h => ?_, fun t ht => ?_⟩
  · by_cases e : t = 0
    · subst e
      rw [putT_same]
      refine .shut rfl (.inl ⟨rfl, rfl⟩) fun x hx => ?_
      rcases hx with ⟨-, h⟩ | ⟨a, h, -⟩
      · exact h
      · exact h.elim
    · rw [putT_other e]
      refine .none rfl fun x hx => ?_
      rcases hx with ⟨h, -⟩ | ⟨a, h, -⟩
      · exact e h
      · exact h.elim
  · simp at h
    subst h
    exact ⟨.zero, h0⟩
  · by_cases e : t = 0
    · subst e
      rw [putT_same]
      simp
    · rw [putT_other e]
      simp [e]
theorem Wk.enter {c : Sl Int} {D : Nat → Prop} {work : List Nat} {p : Nat} {tv : Nat → Int} (h : Wk c D (work ++ [p]) tv) : Wi c D work tv (folW (p : Int) (c.f p)) p 0 := by
  have hp := h.todo p (by simp)
  refine ⟨fun t ht => (h.tops t ht).congr fun x => ⟨.inl, fun h' => h'.elim id fun ⟨_, j, hj, _⟩ => absurd hj (by omega)⟩, h.done, fun a ha => h.todo a (by simp [ha]), fun t ht => (h.part t ht).trans ?_, hp, rfl⟩
  rw [List.mem_append, List.mem_singleton]
  constructor
  · rintro (h | h | h)
    · exact .inl h
    · exact .inr (.inr h)
    · exact .inr (.inl h)
  · rintro (h | h | h)
    · exact .inl h
    · exact .inr (.inr h)
    · exact .inr (.inl h)
section
variable {c : Sl Int} {D : Nat → Prop} {work : List Nat} {tv : Nat → Int} {L : List Int} {p k : Nat}
theorem Wi.leave (h : Wi c D work tv L p k) (hk : L.length ≤ k) : Wk c (fun a => D a ∨ a = p) work tv := by
  refine ⟨fun t ht => (h.tops t ht).congr fun x => ?_, fun a ha => ha.elim (h.done a) fun e => e ▸ h.now.1, h.todo, fun t ht => (h.part t ht).trans ?_⟩
  · constructor
    · rintro ((h1 | ⟨a, h1, h2⟩) | ⟨h1, j, hj, hx⟩)
      · exact .inl h1
      · exact .inr ⟨a, .inl h1, h2⟩
      · exact .inr ⟨p, .inr rfl, ⟨h.now.2, ht, h.fol ▸ List.mem_of_getElem? hx⟩, h1⟩
    · rintro (h1 | ⟨a, h1 | h1, h2, h3⟩)
      · exact .inl (.inl h1)
      · exact .inl (.inr ⟨a, h1, h2, h3⟩)
      · subst h1
        obtain ⟨-, -, hm⟩ := h2
        rw [← h.fol] at hm
        obtain ⟨j, hj, hx⟩ := List.getElem_of_mem hm
        exact .inr ⟨h3, j, by omega, by rw [List.getElem?_eq_getElem hj, hx]⟩
  · rw [or_assoc]
theorem Wi.skip (h : Wi c D work tv L p k) (hx : ∀ t, t < c.n → L[k]? ≠ some (t : Int)) : Wi c D work tv L p (k + 1) := by
  refine ⟨fun t ht => (h.tops t ht).congr fun x => ?_, h.done, h.todo, h.part, h.now, h.fol⟩
  constructor
  · rintro (h1 | ⟨h1, j, hj, h2⟩)
    · exact .inl h1
    · exact .inr ⟨h1, j, by omega, h2⟩
  · rintro (h1 | ⟨h1, j, hj, h2⟩)
    · exact .inl h1
    · by_cases e : j = k
      · subst e; exact absurd h2 (hx t ht)
      · exact .inr ⟨h1, j, by omega, h2⟩
/-- what follows is place t. -/
theorem Wi.tops_hit (h : Wi c D work tv L p k) {t : Nat} (ht : t < c.n) (hx : L[k]? = some (t : Int)) : ∀ t', t' < c.n → Tp (WF c D L p (k + 1) t') (putT tv t (meet (tv t) (wayW (c.f p))) t') := by
  intro t' ht'
  by_cases e : t' = t
  · subst e
    rw [putT_same]
    refine ((h.tops t' ht').add (wayW_low (c.f p))).congr fun x => ?_
    constructor
    · rintro ((h1 | ⟨h1, j, hj, h2⟩) | h1)
      · exact .inl h1
      · exact .inr ⟨h1, j, by omega, h2⟩
      · exact .inr ⟨h1, k, by omega, hx⟩
    · rintro (h1 | ⟨h1, j, hj, h2⟩)
      · exact .inl (.inl h1)
      · exact .inr h1
  · rw [putT_other e]
    refine (h.tops t' ht').congr fun x => ?_
    constructor
    · rintro (h1 | ⟨h1, j, hj, h2⟩)
      · exact .inl h1
      · exact .inr ⟨h1, j, by omega, h2⟩
    · rintro (h1 | ⟨h1, j, hj, h2⟩)
      · exact .inl h1
      · by_cases e' : j = k
        · subst e'
          rw [hx] at h2
          simp at h2
          exact absurd (by omega : t' = t) e
        · exact .inr ⟨h1, j, by omega, h2⟩
theorem Wi.rch (h : Wi c D work tv L p k) {t : Nat} (ht : t < c.n) (hx : L[k]? = some (t : Int)) : Rch c t :=
  .step h.now.1 ⟨h.now.2, ht, h.fol ▸ List.mem_of_getElem? hx⟩
theorem Wi.ne2 (h : Wi c D work tv L p k) {t : Nat} (ht : t < c.n) (hx : L[k]? = some (t : Int)) : meet (tv t) (wayW (c.f p)) ≠ -2 := by
  have h1 := h.tops_hit ht hx t ht
  rw [putT_same] at h1
  exact h1.some (x := wayW (c.f p)) (.inr ⟨rfl, k, by omega, hx⟩)
/-- place t had not been come to. -/
theorem Wi.new (h : Wi c D work tv L p k) {t : Nat} (ht : t < c.n) (hx : L[k]? = some (t : Int)) (h2 : tv t = -2) : Wi c D (work ++ [t]) (putT tv t (meet (tv t) (wayW (c.f p)))) L p (k + 1) := by
  have hne := h.ne2 ht hx
  refine ⟨h.tops_hit ht hx, h.done, fun a ha => ?_, fun t' ht' => ?_, h.now, h.fol⟩
  · rw [List.mem_append, List.mem_singleton] at ha
    rcases ha with ha | rfl
    · exact h.todo a ha
    · exact ⟨h.rch ht hx, ht⟩
  · rw [List.mem_append, List.mem_singleton]
    by_cases e : t' = t
    · subst e
      rw [putT_same]
      exact ⟨fun _ => .inr (.inr (.inr rfl)), fun _ => hne⟩
    · rw [putT_other e]
      refine (h.part t' ht').trans ?_
      constructor
      · rintro (h1 | h1 | h1)
        · exact .inl h1
        · exact .inr (.inl h1)
        · exact .inr (.inr (.inl h1))
      · rintro (h1 | h1 | h1 | h1)
        · exact .inl h1
        · exact .inr (.inl h1)
        · exact .inr (.inr h1)
        · exact absurd h1 e
/-- place t had been come to. -/
theorem Wi.old (h : Wi c D work tv L p k) {t : Nat} (ht : t < c.n) (hx : L[k]? = some (t : Int)) (h2 : tv t ≠ -2) : Wi c D work (putT tv t (meet (tv t) (wayW (c.f p)))) L p (k + 1) := by
  have hne := h.ne2 ht hx
  refine ⟨h.tops_hit ht hx, h.done, h.todo, fun t' ht' => ?_, h.now, h.fol⟩
  by_cases e : t' = t
  · subst e
    rw [putT_same]
    exact ⟨fun _ => (h.part t' ht').1 h2, fun _ => hne⟩
  · rw [putT_other e]
    exact h.part t' ht'
/-- nothing is left to be done. -/
theorem Wk.topAt (h : Wk c D [] tv) (h0 : 0 < c.n) : ∀ t, t < c.n → TopAt c t (tv t) := by
  have hD : ∀ a, a < c.n → (tv a ≠ -2 ↔ D a) := fun a ha => (h.part a ha).trans (by simp)
  have hall : ∀ a, Rch c a → a < c.n ∧ D a := by
    intro a ha
    refine Rch.sub (D := fun a => a < c.n ∧ D a) ⟨h0, (hD 0 h0).1 ((h.tops 0 h0).some (x := -1) (.inl ⟨rfl, rfl⟩))⟩ (fun a b h1 h2 => ⟨h2.2.1, ?_⟩) ha
    exact (hD b h2.2.1).1 ((h.tops b h2.2.1).some (x := wayW (c.f a)) (.inr ⟨a, h1.2, h2, rfl⟩))
  intro t ht
  exact (h.tops t ht).congr fun x => Ways.of_done (D := D) (fun a => ⟨h.done a, fun h' => (hall a h').2⟩) t x
end
end
section
set_option linter.unusedVariables false
set_option linter.unusedSimpArgs false
/-- the first thing that does not hold decides. -/
def Chain : List (Int × Prop) → Int → Prop
  | [], c => c = 0
  | (k, P) :: rest, c => (¬ P ∧ c = k) ∨ (P ∧ Chain rest c)
theorem Chain.det : ∀ {l : List (Int × Prop)} {c c' : Int}, Chain l c → Chain l c' → c = c'
  | [], _, _, h, h' => by rw [show _ = _ from h, show _ = _ from h']
  | (k, P) :: rest, _, _, h, h' => by
    rcases h with ⟨n, rfl⟩ | ⟨y, h⟩ <;> rcases h' with ⟨n', rfl⟩ | ⟨y', h'⟩
    · rfl
    · exact absurd y' n
    · exact absurd y n'
    · exact Chain.det h h'
theorem Chain.ex : ∀ (l : List (Int × Prop)), ∃ c, Chain l c
  | [] => ⟨0, rfl⟩
  | (k, P) :: rest => by
    by_cases h : P
    · obtain ⟨c, hc⟩ := Chain.ex rest
      exact ⟨c, .inr ⟨h, hc⟩⟩
    · exact ⟨k, .inl ⟨h, rfl⟩⟩
/-- how many registers a val asks for. -/
def rsz (v : Int) : Int := if v = 511 then 0 else v
/-- how many registers must be there. -/
def topR (op a b c : Int) : Int :=
  if op = 18 then 0 else if op = 19 ∨ op = 20 then max b c + 1 else if op = 2 then a + b + 1 else if op = 27 ∨ op = 28 then a + 4
  else if op = 0 ∨ op = 15 ∨ op = 16 ∨ op = 17 ∨ op = 29 ∨ op = 32 then max a b + 1 else if 7 ≤ op ∧ op ≤ 14 then max a (max b c) + 1
  else if op = 22 ∨ op = 30 then a + max (1 + rsz b) (rsz c) else if op = 31 then a + max 1 (max (rsz b) (rsz c)) else if op = 23 ∨ op = 24 then a + max 1 (rsz b) else a + 1
structure FieldOk (op a b c : Int) (va : Bool) : Prop where
  c0 : op = 0 ∨ op = 2 ∨ op = 3 ∨ op = 4 ∨ op = 5 ∨ op = 15 ∨ op = 16 ∨ op = 17 ∨ op = 23 ∨ op = 24 ∨ op = 29 ∨ op = 32 ∨ op = 6 ∨ op = 26 ∨ op = 33 → c = 0
  b0 : op = 6 ∨ op = 21 ∨ op = 26 ∨ op = 33 → b = 0
  a0 : op = 18 → a = 0
  a1 : op = 19 ∨ op = 20 → a ≤ 1
  b1 : op = 3 → b ≤ 1
  c1 : op = 21 → c ≤ 1
  va : op = 24 → va = true
def ConstOk (p : PD) (z : Int) : Prop := opW z = 1 → 0 ≤ sW z ∧ sW z < (p.consts.n : Int)
def UpOk (p : PD) (z : Int) : Prop := opW z = 4 ∨ opW z = 5 → bW z < (p.ups.n : Int)
def KidOk (p : PD) (z : Int) : Prop := opW z = 25 → 0 ≤ sW z ∧ sW z < p.kids
def tgt (pc : Nat) (z : Int) : Int := (pc : Int) + 1 + sW z
def JumpOk (p : PD) (pc : Nat) (z : Int) : Prop := opW z = 18 ∨ opW z = 27 ∨ opW z = 28 → 0 ≤ tgt pc z ∧ tgt pc z < (p.code.n : Int)
/-- the word at a place is there and has this operation. -/
def opAt (p : PD) (x op : Int) : Prop := ∃ t : Nat, x = (t : Int) ∧ t < p.code.n ∧ opW (p.code.f t) = op
structure PairOk (p : PD) (pc : Nat) (z : Int) : Prop where
  jump : opW z = 19 ∨ opW z = 20 ∨ opW z = 21 → opAt p ((pc : Int) + 1) 18
  loop : opW z = 27 → ∃ t : Nat, tgt pc z - 1 = (t : Int) ∧ t < p.code.n ∧ opW (p.code.f t) = 28 ∧ aW (p.code.f t) = aW z ∧ tgt t (p.code.f t) = (pc : Int) + 1
structure EndOk (p : PD) (pc : Nat) (z : Int) : Prop where
  one : opW z ≠ 23 → opW z ≠ 33 → opW z ≠ 18 → pc + 1 < p.code.n
  two : opW z = 19 ∨ opW z = 20 ∨ opW z = 21 → pc + 2 < p.code.n
def chainOf (p : PD) (pc : Nat) (z : Int) : List (Int × Prop) :=
  [(1, opW z ≤ 33), (2, FieldOk (opW z) (aW z) (bW z) (cW z) p.vararg), (3, topR (opW z) (aW z) (bW z) (cW z) ≤ p.regs), (4, ConstOk p z), (5, UpOk p z), (6, KidOk p z), (7, JumpOk p pc z), (8, PairOk p pc z), (9, EndOk p pc z)]
/-- the code of what is wrong at a place. -/
def Flt (p : PD) (pc : Nat) (c : Int) : Prop := Chain (chainOf p pc (p.code.f pc)) c
/-- the first place at which something is wrong. -/
def Fst (n : Nat) (F : Nat → Int → Prop) (q : Nat) (c : Int) : Prop := (q < n ∧ c ≠ 0 ∧ F q c ∧ ∀ j, j < q → F j 0) ∨ (q = n ∧ c = 0 ∧ ∀ j, j < n → F j 0)
theorem Fst.det {n : Nat} {F : Nat → Int → Prop} (hF : ∀ j c c', F j c → F j c' → c = c') {q q' : Nat} {c c' : Int} (h : Fst n F q c) (h' : Fst n F q' c') : q = q' ∧ c = c' := by
  rcases h with ⟨h1, h2, h3, h4⟩ | ⟨rfl, rfl, h4⟩ <;> rcases h' with ⟨k1, k2, k3, k4⟩ | ⟨rfl, rfl, k4⟩
  · by_cases e : q = q'
    · subst e; exact ⟨rfl, hF _ _ _ h3 k3⟩
    · rcases Nat.lt_or_ge q q' with l | l
      · exact absurd (hF _ _ _ h3 (k4 q l)) h2
      · exact absurd (hF _ _ _ k3 (h4 q' (by omega))) k2
  · exact absurd (hF _ _ _ h3 (k4 q h1)) h2
  · exact absurd (hF _ _ _ k3 (h4 q' k1)) k2
  · exact ⟨rfl, rfl⟩
/-- the upvalues of a prototype can be made in the one above it. -/
def UpsOk (p above : PD) : Prop := ∀ i, i < p.ups.n → (p.ups.f i).index < (if (p.ups.f i).stack then above.regs else (above.ups.n : Int))
/-- children by number, one behind the end of the other. -/
def kidAt (E : Nat → Nat) (k : Nat) : Nat → Nat
  | 0 => k + 1
  | j + 1 => E (kidAt E k j)
structure Desc (E : Nat → Nat) (s : Sl PD) (k : Nat) : Prop where
  root : k = 0 → (s.f 0).ups.n = 0
  kids : ∀ j : Nat, (j : Int) < (s.f k).kids → UpsOk (s.f (kidAt E k j)) (s.f k)
/-- what the first round says of a prototype. -/
def Rep1 (E : Nat → Nat) (s : Sl PD) (k : Nat) (c pr pc : Int) : Prop := ∃ q c0, Fst (s.f k).code.n (Flt (s.f k)) q c0 ∧ ((c0 ≠ 0 ∧ c = c0 ∧ pr = (k : Int) ∧ pc = (q : Int)) ∨ (c0 = 0 ∧ ¬ Desc E s k ∧ c = 11 ∧ pr = (k : Int) ∧ pc = ((s.f k).code.n : Int)) ∨ (c0 = 0 ∧ Desc E s k ∧ c = 0 ∧ pr = 0 ∧ pc = 0))
theorem Flt.det {p : PD} : ∀ j c c', Flt p j c → Flt p j c' → c = c' := fun _ _ _ h h' => Chain.det h h'
theorem Rep1.det {E : Nat → Nat} {s : Sl PD} {k : Nat} {c pr pc c' pr' pc' : Int} (h : Rep1 E s k c pr pc) (h' : Rep1 E s k c' pr' pc') : c = c' ∧ pr = pr' ∧ pc = pc' := by
  obtain ⟨q, c0, hF, h⟩ := h
  obtain ⟨q', c0', hF', h'⟩ := h'
  obtain ⟨rfl, rfl⟩ := hF.det Flt.det hF'
  rcases h with ⟨a, rfl, rfl, rfl⟩ | ⟨a, b, rfl, rfl, rfl⟩ | ⟨a, b, rfl, rfl, rfl⟩ <;> rcases h' with ⟨a', rfl, rfl, rfl⟩ | ⟨a', b', rfl, rfl, rfl⟩ | ⟨a', b', rfl, rfl, rfl⟩
  · exact ⟨rfl, rfl, rfl⟩
  · exact absurd a' a
  · exact absurd a' a
  · exact absurd a a'
  · exact ⟨rfl, rfl, rfl⟩
  · exact absurd b' b
  · exact absurd a a'
  · exact absurd b b'
  · exact ⟨rfl, rfl, rfl⟩
/-- an operation takes what is open. -/
def takesW (z : Int) : Prop := (opW z = 22 ∨ opW z = 30 ∨ opW z = 31 ∨ opW z = 23) ∧ bW z = 511
def fromW (z : Int) : Int := if opW z = 22 ∨ opW z = 30 then aW z + 1 else aW z
/-- what is open at a place may be. -/
def TopOk (p : PD) (pc : Nat) : Prop := ∀ v, TopAt p.code pc v → v = -2 ∨ ((takesW (p.code.f pc) → fromW (p.code.f pc) ≤ v) ∧ (¬ takesW (p.code.f pc) → v = -1))
def TopF (p : PD) (pc : Nat) (c : Int) : Prop := (TopOk p pc ∧ c = 0) ∨ (¬ TopOk p pc ∧ c = 10)
theorem TopF.det {p : PD} : ∀ j c c', TopF p j c → TopF p j c' → c = c' := by
  rintro j c c' (⟨a, rfl⟩ | ⟨a, rfl⟩) (⟨a', rfl⟩ | ⟨a', rfl⟩)
  · rfl
  · exact absurd a a'
  · exact absurd a' a
  · rfl
/-- what the second round says of a prototype. -/
def Rep2 (s : Sl PD) (k : Nat) (c pr pc : Int) : Prop := ∃ q c0, Fst (s.f k).code.n (TopF (s.f k)) q c0 ∧ ((c0 ≠ 0 ∧ c = 10 ∧ pr = (k : Int) ∧ pc = (q : Int)) ∨ (c0 = 0 ∧ c = 0 ∧ pr = 0 ∧ pc = 0))
theorem Rep2.det {s : Sl PD} {k : Nat} {c pr pc c' pr' pc' : Int} (h : Rep2 s k c pr pc) (h' : Rep2 s k c' pr' pc') : c = c' ∧ pr = pr' ∧ pc = pc' := by
  obtain ⟨q, c0, hF, h⟩ := h
  obtain ⟨q', c0', hF', h'⟩ := h'
  obtain ⟨rfl, rfl⟩ := hF.det TopF.det hF'
  rcases h with ⟨a, rfl, rfl, rfl⟩ | ⟨a, rfl, rfl, rfl⟩ <;> rcases h' with ⟨a', rfl, rfl, rfl⟩ | ⟨a', rfl, rfl, rfl⟩
  · exact ⟨rfl, rfl, rfl⟩
  · exact absurd a' a
  · exact absurd a a'
  · exact ⟨rfl, rfl, rfl⟩
/-- the first report that tells something. -/
def RSc (n : Nat) (R : Nat → Int → Int → Int → Prop) (c pr pc : Int) : Prop := (∃ k, k < n ∧ c ≠ 0 ∧ R k c pr pc ∧ ∀ j, j < k → R j 0 0 0) ∨ (c = 0 ∧ pr = 0 ∧ pc = 0 ∧ ∀ j, j < n → R j 0 0 0)
theorem RSc.det {n : Nat} {R : Nat → Int → Int → Int → Prop} (hR : ∀ k c pr pc c' pr' pc', R k c pr pc → R k c' pr' pc' → c = c' ∧ pr = pr' ∧ pc = pc') {c pr pc c' pr' pc' : Int} (h : RSc n R c pr pc) (h' : RSc n R c' pr' pc') : c = c' ∧ pr = pr' ∧ pc = pc' := by
  rcases h with ⟨k, h1, h2, h3, h4⟩ | ⟨rfl, rfl, rfl, h4⟩ <;> rcases h' with ⟨k', k1, k2, k3, k4⟩ | ⟨rfl, rfl, rfl, k4⟩
  · by_cases e : k = k'
    · subst e; exact hR _ _ _ _ _ _ _ h3 k3
    · rcases Nat.lt_or_ge k k' with l | l
      · exact absurd (hR _ _ _ _ _ _ _ h3 (k4 k l)).1 h2
      · exact absurd (hR _ _ _ _ _ _ _ k3 (h4 k' (by omega))).1 k2
  · exact absurd (hR _ _ _ _ _ _ _ h3 (k4 k h1)).1 h2
  · exact absurd (hR _ _ _ _ _ _ _ k3 (h4 k' k1)).1 k2
  · exact ⟨rfl, rfl, rfl⟩
/-- what both rounds say of a chunk that is well formed. -/
def Rep (E : Nat → Nat) (s : Sl PD) (c pr pc : Int) : Prop := (c ≠ 0 ∧ RSc s.n (Rep1 E s) c pr pc) ∨ (RSc s.n (Rep1 E s) 0 0 0 ∧ RSc s.n (Rep2 s) c pr pc)
theorem Rep.det {E : Nat → Nat} {s : Sl PD} {c pr pc c' pr' pc' : Int} (h : Rep E s c pr pc) (h' : Rep E s c' pr' pc') : c = c' ∧ pr = pr' ∧ pc = pc' := by
  have d1 : ∀ k c pr pc c' pr' pc', Rep1 E s k c pr pc → Rep1 E s k c' pr' pc' → c = c' ∧ pr = pr' ∧ pc = pc' := fun _ _ _ _ _ _ _ => Rep1.det
  have d2 : ∀ k c pr pc c' pr' pc', Rep2 s k c pr pc → Rep2 s k c' pr' pc' → c = c' ∧ pr = pr' ∧ pc = pc' := fun _ _ _ _ _ _ _ => Rep2.det
  rcases h with ⟨a, h⟩ | ⟨a, h⟩ <;> rcases h' with ⟨a', h'⟩ | ⟨a', h'⟩
  · exact h.det d1 h'
  · exact absurd (h.det d1 a').1 a
  · exact absurd (h'.det d1 a).1 a'
  · exact h.det d2 h'
end
section
open Go.RowKit Go.Shelf
set_option linter.unusedVariables false
set_option linter.unusedSimpArgs false
theorem take_dst {P : Program} {ops : Array Oper} {Q : Exit → Act → World → Prop} {md : Region.Mode} {S : World → Prop} (i d : Nat) (v : Value) {oi : Oper} {fuel : Nat} {listed : Array Bool} {a : Act} {w : World} (hi : ops[i]? = some oi)
    (hs : Region.noSelect ops = true) (hf : Region.free md ops listed i = true) (hr : (Region.ready md ops listed).contains i = true)
    (hQ : ∀ c a w, Q (.panic c) (a.put oi.dst v) w → Q (.panic c) a w) (hy : YieldsIf P ops S oi v a) (hS : S w) (hd : oi.dst = some d)
    (h : wpAnyH P md ops Q S fuel (listed.setIfInBounds i true) (a.put (some d) v) w) : wpAnyH P md ops Q S (fuel + 1) listed a w :=
  wpAnyH_take hi hs hf hr hQ hy hS (by rw [hd]; exact h)
theorem tk0 (a : Act) (v : Value) : a.put none v = a := rfl
theorem tk1 (a : Act) (d : Nat) (v : Value) : a.put (some d) v = { a with tmps := a.tmps.setIfInBounds d v } := rfl
theorem tk2 {α : Type} (l : List α) (i : Nat) (x : α) : l.toArray.setIfInBounds i x = (l.set i x).toArray := List.setIfInBounds_toArray l i x
theorem tk3 {α : Type} (y : α) (l : List α) (x : α) : (y :: l).set 0 x = x :: l := rfl
theorem tk4 {α : Type} (y : α) (l : List α) (n : Nat) (x : α) : (y :: l).set (n + 1) x = y :: l.set n x := rfl
end
end Go.Proofs.YtckapapejfnojaaGreatDoor

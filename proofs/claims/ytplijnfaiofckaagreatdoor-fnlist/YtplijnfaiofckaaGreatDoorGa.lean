import Derived.Deep.RegionHeld3
import Derived.Shelf.RegionOpen
import Derived.Handy
import Derived.WalkLawsBesides
import Derived.WalkSpells
import Derived.Deep.OwnRows
import Derived.Test.YtplijnfaiofckaaGreatDoorRows
namespace Go.Proofs.YtplijnfaiofckaaGreatDoor
open Go.RowKit Go.Shelf
set_option linter.unusedVariables false
set_option linter.unusedSimpArgs false
theorem tK : (∀ (a : Act) (v : Value), a.put none v = a) ∧ (∀ (a : Act) (d : Nat) (v : Value), a.put (some d) v = { a with tmps := a.tmps.setIfInBounds d v }) ∧ (∀ (α : Type) (l : List α) (i : Nat) (x : α), l.toArray.setIfInBounds i x = (l.set i x).toArray) ∧ (∀ (α : Type) (y : α) (l : List α) (x : α), (y :: l).set 0 x = x :: l) ∧ ∀ (α : Type) (y : α) (l : List α) (n : Nat) (x : α), (y :: l).set (n + 1) x = y :: l.set n x :=
 ⟨fun _ _ => rfl, fun _ _ _ => rfl, fun _ l i x => List.setIfInBounds_toArray l i x, fun _ _ _ _ => rfl, fun _ _ _ _ _ => rfl⟩
section
variable {P : Program} {ops : Array Oper} {Q : Exit → Act → World → Prop} {md : Region.Mode} {S : World → Prop} {fuel : Nat} {listed : Array Bool} {a : Act} {w : World}
theorem tkd (i d : Nat) (v : Value) {oi : Oper} {b : Act} (hS : S w) (h : wpAnyH P md ops Q S fuel (listed.setIfInBounds i true) b w) (hi : ops[i]? = some oi := by rfl)
  (hs : Region.noSelect ops = true := by kernel_rfl) (hf : Region.free md ops listed i = true := by kernel_rfl) (hr : (Region.ready md ops listed).contains i = true := by kernel_rfl)
  (hQ : ∀ c a w, Q (.panic c) (a.put oi.dst v) w → Q (.panic c) a w := by first | exact fun _ _ _ h => h | exact fun _ _ _ h => nomatch h.1) (hy : YieldsIf P ops S oi v a := by first | exact Or.inl ⟨by rfl, by intro wv hSv; (try unfold OldS at hSv); (try dsimp only at hSv); go_simp⟩ | exact Or.inr ⟨by rfl, rfl⟩) (hd : oi.dst = some d := by rfl) (ha : a.put (some d) v = b := by (try simp only [tK]); rfl) : wpAnyH P md ops Q S (fuel + 1) listed a w :=
 wpAnyH_take hi hs hf hr hQ hy hS (by rw [hd, ha]; exact h)
theorem rdy1 (i : Nat) {o : Oper}
  (h : ∀ K' : Act → World → Prop, Shut (∀ a w, S w → (S w → wpAnyH P md ops Q S fuel (listed.setIfInBounds i true) a w) → K' a w) → if Region.wanted o (yielded ops a.tmps) = true then Oper.wp P o a w K' Q else K' (a.put o.dst undef) w)
  (hr : Region.ready md ops listed = [i] := by kernel_rfl) (ho : ops[i]? = some o := by rfl) : wpAnyH P md ops Q S (fuel + 1) listed a w :=
 wpAnyH_ready hr (by simp) (AllReadyH.cons ho h AllReadyH.nil)
theorem rdy2 (i j : Nat) {o p : Oper}
  (h : ∀ K' : Act → World → Prop, Shut (∀ a w, S w → (S w → wpAnyH P md ops Q S fuel (listed.setIfInBounds i true) a w) → K' a w) → if Region.wanted o (yielded ops a.tmps) = true then Oper.wp P o a w K' Q else K' (a.put o.dst undef) w)
  (h' : ∀ K' : Act → World → Prop, Shut (∀ a w, S w → (S w → wpAnyH P md ops Q S fuel (listed.setIfInBounds j true) a w) → K' a w) → if Region.wanted p (yielded ops a.tmps) = true then Oper.wp P p a w K' Q else K' (a.put p.dst undef) w)
  (hr : Region.ready md ops listed = [i, j] := by kernel_rfl) (ho : ops[i]? = some o := by rfl) (hp : ops[j]? = some p := by rfl) : wpAnyH P md ops Q S (fuel + 1) listed a w :=
 wpAnyH_ready hr (by simp) (AllReadyH.cons ho h (AllReadyH.cons hp h' AllReadyH.nil))
end
theorem take_dst {P : Program} {ops : Array Oper} {Q : Exit → Act → World → Prop} {md : Region.Mode} {S : World → Prop} (i d : Nat) (v : Value) {oi : Oper} {fuel : Nat} {listed : Array Bool} {a : Act} {w : World} (hi : ops[i]? = some oi)
  (hs : Region.noSelect ops = true) (hf : Region.free md ops listed i = true) (hr : (Region.ready md ops listed).contains i = true)
  (hQ : ∀ c a w, Q (.panic c) (a.put oi.dst v) w → Q (.panic c) a w) (hy : YieldsIf P ops S oi v a) (hS : S w) (hd : oi.dst = some d)
  (h : wpAnyH P md ops Q S fuel (listed.setIfInBounds i true) (a.put (some d) v) w) : wpAnyH P md ops Q S (fuel + 1) listed a w :=
 wpAnyH_take hi hs hf hr hQ hy hS (by rw [hd]; exact h)
end Go.Proofs.YtplijnfaiofckaaGreatDoor
namespace Go.Proofs.YtplijnfaiofckaaGreatDoor

inductive Fo (K : Nat → Int) (n : Nat) : Nat → Nat → Nat → Nat → Prop
 | nil {i : Nat} : Fo K n 0 i i 0
 | cons {k i m e h1 h2 : Nat} : i < n → 0 ≤ K i → Fo K n (K i).toNat (i + 1) m h1 → Fo K n k m e h2 → Fo K n (k + 1) i e (max (h1 + 1) h2)

theorem Fo.le {K : Nat → Int} {n k i e h : Nat} (t : Fo K n k i e h) : i + k ≤ e ∧ (0 < k → e ≤ n) := by
 induction t with
 | nil => exact ⟨by omega, by omega⟩
 | @cons k i m e h1 h2 hi hk t1 t2 ih1 ih2 =>
  refine ⟨by omega, fun _ => ?_⟩;by_cases hk0 : 0 < k
  ·exact ih2.2 hk0
  ·obtain rfl : k = 0 := by omega
   cases t2
   by_cases hk1 : 0 < (K i).toNat
   ·exact ih1.2 hk1
   ·have h0 : (K i).toNat = 0 := by omega
    rw [h0] at t1
    cases t1
    omega
theorem Fo.det {K : Nat → Int} {n k i e h : Nat} (t : Fo K n k i e h) : ∀ {e' h' : Nat}, Fo K n k i e' h' → e = e' ∧ h = h' := by
 induction t with
 | nil => intro e' h' t'; cases t'; exact ⟨rfl, rfl⟩
 | cons hi hk t1 t2 ih1 ih2 =>
  intro e' h' t'
  cases t' with
  | cons hi' hk' t1' t2' =>
   obtain ⟨rfl, rfl⟩ := ih1 t1';obtain ⟨rfl, rfl⟩ := ih2 t2';exact ⟨rfl, rfl⟩
theorem Fo.split {K : Nat → Int} {n : Nat} : ∀ (a b : Nat) {i e h : Nat}, Fo K n (a + b) i e h → ∃ m h1 h2, Fo K n a i m h1 ∧ Fo K n b m e h2 ∧ h = max h1 h2 := by
 intro a
 induction a with
 | zero => intro b i e h t; rw [Nat.zero_add] at t; exact ⟨i, 0, h, .nil, t, by omega⟩
 | succ a ih =>
  intro b i e h t;rw [Nat.add_right_comm] at t
  cases t with
  | cons hi hk t1 t2 =>
   obtain ⟨m', g1, g2, u1, u2, rfl⟩ := ih b t2;exact ⟨m', _, g2, .cons hi hk t1 u1, u2, by omega⟩
theorem Fo.join {K : Nat → Int} {n a i m h1 : Nat} (t : Fo K n a i m h1) : ∀ {b e h2 : Nat}, Fo K n b m e h2 → Fo K n (a + b) i e (max h1 h2) := by
 induction t with
 | nil => intro b e h2 t; rw [Nat.zero_add, Nat.zero_max]; exact t
 | @cons k i m e g1 g2 hi hk t1 t2 ih1 ih2 =>
  intro b e' h2 t;rw [Nat.add_right_comm, Nat.max_assoc];exact .cons hi hk t1 (ih2 t)
theorem Fo.one {K : Nat → Int} {n i e h : Nat} (t : Fo K n 1 i e h) : ∃ g, h = g + 1 ∧ i < n ∧ 0 ≤ K i ∧ Fo K n (K i).toNat (i + 1) e g := by
 cases t with
 | @cons k i m e h1 h2 hi hk t1 t2 =>
  cases t2
  exact ⟨h1, by omega, hi, hk, t1⟩
theorem Fo.mk1 {K : Nat → Int} {n i e g : Nat} (hi : i < n) (hk : 0 ≤ K i) (t : Fo K n (K i).toNat (i + 1) e g) : Fo K n 1 i e (g + 1) := by
 have := Fo.cons hi hk t (Fo.nil (K := K) (n := n) (i := e))
 rwa [Nat.max_eq_left (by omega)] at this
theorem Fo.within {K : Nat → Int} {n k i e h : Nat} (t : Fo K n k i e h) : ∀ j, i ≤ j → j < e → ∃ e' h', Fo K n 1 j e' h' := by
 induction t with
 | nil => intro j h1 h2; omega
 | @cons k i m e h1 h2 hi hk t1 t2 ih1 ih2 =>
  intro j hj he;by_cases hji : j = i
  ·subst hji; exact ⟨m, h1 + 1, Fo.mk1 hi hk t1⟩
  ·by_cases hjm : j < m
   ·exact ih1 j (by omega) hjm
   ·exact ih2 j (by omega) he
def EndIs (K : Nat → Int) (n i a : Nat) (r : Int) : Prop :=
 (∃ e h, Fo K n 1 i e h ∧ a + h ≤ 64 ∧ r = (e : Int)) ∨ (r = -1 ∧ ∀ e h, Fo K n 1 i e h → 64 < a + h)

def KidsIs (K : Nat → Int) (n i a k : Nat) (r : Int) : Prop :=
 (∃ e h, Fo K n k (i + 1) e h ∧ a + 1 + h ≤ 64 ∧ r = (e : Int)) ∨ (r = -1 ∧ ∀ e h, Fo K n (K i).toNat (i + 1) e h → 64 < a + 1 + h)

theorem KidsIs.start {K : Nat → Int} {n i a : Nat} (ha : a < 64) : KidsIs K n i a 0 ((i : Int) + 1) :=
 .inl ⟨i + 1, 0, .nil, by omega, by simp⟩

theorem KidsIs.step {K : Nat → Int} {n i a k e : Nat} {h : Nat} {r : Int} (t : Fo K n k (i + 1) e h) (hh : a + 1 + h ≤ 64) (hk : (k : Int) < K i) (hr : EndIs K n e (a + 1) r) : KidsIs K n i a (k + 1) r := by
 rcases hr with ⟨e', h', t', hh', rfl⟩ | ⟨rfl, hno⟩
 ·exact .inl ⟨e', _, Fo.join t t', by omega, rfl⟩
 ·refine .inr ⟨rfl, fun e2 h2 t2 => ?_⟩;obtain ⟨d, hd⟩ : ∃ d, (K i).toNat = k + (1 + d) := ⟨(K i).toNat - k - 1, by omega⟩;rw [hd] at t2;obtain ⟨m, g1, g2, u1, u2, rfl⟩ := Fo.split k (1 + d) t2;obtain ⟨rfl, rfl⟩ := t.det u1;obtain ⟨m', g3, g4, u3, u4, rfl⟩ := Fo.split 1 d u2;have := hno _ _ u3;omega
theorem KidsIs.done {K : Nat → Int} {n i a k : Nat} {r : Int} (hi : i < n) (hk0 : 0 ≤ K i) (hr : KidsIs K n i a k r) (hk : r < 0 ∨ K i = (k : Int)) : EndIs K n i a r := by
 rcases hr with ⟨e, h, t, hh, rfl⟩ | ⟨rfl, hno⟩
 ·have hkk : (K i).toNat = k := by omega
  rw [← hkk] at t;exact .inl ⟨e, h + 1, Fo.mk1 hi hk0 t, by omega, rfl⟩
 ·refine .inr ⟨rfl, fun e h t => ?_⟩;obtain ⟨g, rfl, _, _, t'⟩ := t.one;have := hno _ _ t';omega
theorem EndIs.none {K : Nat → Int} {n i a : Nat} (h : n ≤ i ∨ 64 ≤ a ∨ K i < 0) : EndIs K n i a (-1) := by
 refine .inr ⟨rfl, fun e h' t => ?_⟩;obtain ⟨g, rfl, hi, hk, _⟩ := t.one;omega
def pop (i : Nat) : List Nat → List Nat
 | [] => []
 | x :: s => if x ≤ i then pop i s else x :: s

def st (E : Nat → Nat) : Nat → List Nat
 | 0 => []
 | i + 1 => E i :: pop i (st E i)

def depth (E : Nat → Nat) (i : Nat) : Nat := (pop i (st E i)).length

theorem pop_all {i : Nat} {s : List Nat} (h : ∀ x ∈ s, i < x) : pop i s = s := by
 cases s with
 | nil => rfl
 | cons x s => rw [pop, if_neg]; have := h x (by simp); omega
theorem Fo.depths {K : Nat → Int} {n : Nat} {E : Nat → Nat} (hE : ∀ i, i < n → ∃ h, Fo K n 1 i (E i) h) {k i e h : Nat} (t : Fo K n k i e h) :
  ∀ s : List Nat, (∀ x ∈ s, e ≤ x) → pop i (st E i) = pop i s →
   pop e (st E e) = pop e s ∧ ((∀ j, i ≤ j → j < e → depth E j < 64) ↔ (k = 0 ∨ s.length + h ≤ 64)) := by
 induction t with
 | @nil i =>
  intro s _ hp;exact ⟨hp, ⟨fun _ => .inl rfl, fun _ j h1 h2 => by omega⟩⟩
 | @cons k i m e h1 h2 hi hk t1 t2 ih1 ih2 =>
  intro s hx hp;have l1 := t1.le.1;have l2 := t2.le.1;have z1 : (K i).toNat = 0 → h1 = 0 := fun h0 => by rw [h0] at t1; cases t1; rfl
  have z2 : k = 0 → h2 = 0 := fun h0 => by subst h0; cases t2; rfl
  have hEm : E i = m := by
   obtain ⟨h', u⟩ := hE i hi;exact (u.det (Fo.mk1 hi hk t1)).1
  have hps : pop i s = s := pop_all fun x hxs => by have := hx x hxs; omega
  rw [hps] at hp;have hst : st E (i + 1) = m :: s := by rw [st, hp, hEm]
  have hd : depth E i = s.length := by rw [depth, hp]
  obtain ⟨p1, q1⟩ := ih1 (m :: s) (by
   intro x hx';rcases List.mem_cons.1 hx' with rfl | hx'
   ·exact Nat.le_refl _
   ·have := hx x hx'; omega) (by rw [hst])
  have p1' : pop m (st E m) = pop m s := by rw [p1, pop, if_pos (Nat.le_refl _)]
  obtain ⟨p2, q2⟩ := ih2 s hx p1';simp only [List.length_cons] at q1;refine ⟨p2, ⟨fun hall => .inr ?_, fun hle j hj1 hj2 => ?_⟩⟩
  ·have a0 := hall i (Nat.le_refl _) (by omega);have a1 := q1.1 fun j hj1 hj2 => hall j (by omega) (by omega);have a2 := q2.1 fun j hj1 hj2 => hall j (by omega) (by omega);omega
  ·have hle' : s.length + max (h1 + 1) h2 ≤ 64 := by omega
   by_cases hji : j = i
   ·subst hji; omega
   ·by_cases hjm : j < m
    ·exact q1.2 (.inr (by omega)) j (by omega) hjm
    ·exact q2.2 (.inr (by omega)) j (by omega) hj2
theorem depth_iff {K : Nat → Int} {n h : Nat} {E : Nat → Nat} (hE : ∀ i, i < n → ∃ h, Fo K n 1 i (E i) h) (t : Fo K n 1 0 n h) : (∀ j, j < n → depth E j < 64) ↔ h ≤ 64 := by
 have := (t.depths hE [] (by simp) rfl).2;simp only [List.length_nil, Nat.zero_add, Nat.zero_le, true_implies] at this;rw [this];omega
end Go.Proofs.YtplijnfaiofckaaGreatDoor
namespace Go.Proofs.YtplijnfaiofckaaGreatDoor
open Go.RowKit
set_option linter.unusedVariables false
set_option linter.unusedSimpArgs false

structure Sl (α : Type) where
 n : Nat
 f : Nat → α
structure VD where
 kind : Int
 num : Int
 text : ByteArray
structure UD where
 stack : Bool
 index : Int
structure PD where
 params : Int
 vararg : Bool
 regs : Int
 code : Sl Int
 consts : Sl VD
 ups : Sl UD
 kids : Int
 name : ByteArray
 lines : Sl Int
 upNames : Sl ByteArray

def IsArr (av : Nat → Prop) (w : World) (v : Value) (z n : Nat) (C : Nat → Nat → Value) : Prop :=
 ∃ ao cap, v = .slice ao n cap ∧ n ≤ 9223372036854775807 ∧
  (0 < n → ∃ b o, ao = some ⟨b, o, none⟩ ∧ av b ∧ ∀ i, i < n → ∀ j, j < z → w.cell? ⟨b, o + i * z + j, none⟩ = some (C i j))

theorem IsArr.keep {av : Nat → Prop} {w w' : World} {v : Value} {z n : Nat} {C : Nat → Nat → Value} (h : IsArr av w v z n C) (hk : ∀ b, av b → w'.heap[b]? = w.heap[b]?) : IsArr av w' v z n C := by
 obtain ⟨ao, cap, rfl, h1, h2⟩ := h;refine ⟨ao, cap, rfl, h1, fun hn => ?_⟩;obtain ⟨b, o, rfl, hb, hc⟩ := h2 hn;exact ⟨b, o, rfl, hb, fun i hi j hj => (World.cell?_of_block (w := w) (hk b hb)).trans (hc i hi j hj)⟩
theorem IsArr.mono {av av' : Nat → Prop} {w : World} {v : Value} {z n : Nat} {C : Nat → Nat → Value} (h : IsArr av w v z n C) (hm : ∀ b, av b → av' b) : IsArr av' w v z n C := by
 obtain ⟨ao, cap, rfl, h1, h2⟩ := h;refine ⟨ao, cap, rfl, h1, fun hn => ?_⟩;obtain ⟨b, o, rfl, hb, hc⟩ := h2 hn;exact ⟨b, o, rfl, hm b hb, hc⟩
def iC (k : IntKind) (f : Nat → Int) : Nat → Nat → Value := fun i _ => .int k (f i)
def sC (f : Nat → ByteArray) : Nat → Nat → Value := fun i _ => .string (f i)
def vC (f : Nat → VD) : Nat → Nat → Value := fun i j => match j with
 | 0 => .int .i64 (f i).kind
 | 1 => .int .i64 (f i).num
 | _ => .string (f i).text
def uC (f : Nat → UD) : Nat → Nat → Value := fun i j => match j with
 | 0 => .bool (f i).stack
 | _ => .int .i64 (f i).index

def IsInts (k : IntKind) (av : Nat → Prop) (w : World) (v : Value) (s : Sl Int) : Prop := IsArr av w v 1 s.n (iC k s.f)
def IsStrs (av : Nat → Prop) (w : World) (v : Value) (s : Sl ByteArray) : Prop := IsArr av w v 1 s.n (sC s.f) ∧ ∀ i, i < s.n → (s.f i).size ≤ 9223372036854775807
def IsVals (av : Nat → Prop) (w : World) (v : Value) (s : Sl VD) : Prop := IsArr av w v 3 s.n (vC s.f) ∧ ∀ i, i < s.n → (s.f i).text.size ≤ 9223372036854775807
def IsUps (av : Nat → Prop) (w : World) (v : Value) (s : Sl UD) : Prop := IsArr av w v 2 s.n (uC s.f)

structure IsProto (av : Nat → Prop) (w : World) (a3 a4 a5 a8 a9 : Value) (p : PD) : Prop where
 code : IsInts .u32 av w a3 p.code
 consts : IsVals av w a4 p.consts
 ups : IsUps av w a5 p.ups
 lines : IsInts .i64 av w a8 p.lines
 upNames : IsStrs av w a9 p.upNames
 name : p.name.size ≤ 9223372036854775807

theorem IsProto.keep {av : Nat → Prop} {w w' : World} {a3 a4 a5 a8 a9 : Value} {p : PD} (h : IsProto av w a3 a4 a5 a8 a9 p) (hk : ∀ b, av b → w'.heap[b]? = w.heap[b]?) : IsProto av w' a3 a4 a5 a8 a9 p :=
 ⟨IsArr.keep h.code hk, ⟨IsArr.keep h.consts.1 hk, h.consts.2⟩, IsArr.keep h.ups hk, IsArr.keep h.lines hk, ⟨IsArr.keep h.upNames.1 hk, h.upNames.2⟩, h.name⟩
theorem IsProto.mono {av av' : Nat → Prop} {w : World} {a3 a4 a5 a8 a9 : Value} {p : PD} (h : IsProto av w a3 a4 a5 a8 a9 p) (hm : ∀ b, av b → av' b) : IsProto av' w a3 a4 a5 a8 a9 p :=
 ⟨IsArr.mono h.code hm, ⟨IsArr.mono h.consts.1 hm, h.consts.2⟩, IsArr.mono h.ups hm, IsArr.mono h.lines hm, ⟨IsArr.mono h.upNames.1 hm, h.upNames.2⟩, h.name⟩

def pAgg (p : PD) (a3 a4 a5 a8 a9 : Value) : Value :=
 .agg #[.int .i64 p.params, .bool p.vararg, .int .i64 p.regs, a3, a4, a5, .int .i64 p.kids, .string p.name, a8, a9]

def pC (p : Nat → PD) (a3 a4 a5 a8 a9 : Nat → Value) : Nat → Nat → Value := fun i j => match j with
 | 0 => .int .i64 (p i).params
 | 1 => .bool (p i).vararg
 | 2 => .int .i64 (p i).regs
 | 3 => a3 i
 | 4 => a4 i
 | 5 => a5 i
 | 6 => .int .i64 (p i).kids
 | 7 => .string (p i).name
 | 8 => a8 i
 | _ => a9 i

def qa0 (av : Nat → Prop) (w : World) (v : Value) (ps : Sl PD) : Prop :=
 ∃ a3 a4 a5 a8 a9 : Nat → Value, IsArr av w v 10 ps.n (pC ps.f a3 a4 a5 a8 a9) ∧ ∀ i, i < ps.n → IsProto av w (a3 i) (a4 i) (a5 i) (a8 i) (a9 i) (ps.f i)

theorem qa0.keep {av : Nat → Prop} {w w' : World} {v : Value} {ps : Sl PD} (h : qa0 av w v ps) (hk : ∀ b, av b → w'.heap[b]? = w.heap[b]?) : qa0 av w' v ps := by
 obtain ⟨a3, a4, a5, a8, a9, h1, h2⟩ := h;exact ⟨a3, a4, a5, a8, a9, h1.keep hk, fun i hi => (h2 i hi).keep hk⟩
theorem qa0.mono {av av' : Nat → Prop} {w : World} {v : Value} {ps : Sl PD} (h : qa0 av w v ps) (hm : ∀ b, av b → av' b) : qa0 av' w v ps := by
 obtain ⟨a3, a4, a5, a8, a9, h1, h2⟩ := h;exact ⟨a3, a4, a5, a8, a9, h1.mono hm, fun i hi => (h2 i hi).mono hm⟩
theorem qa0.below {n : Nat} {w w' : World} {v : Value} {ps : Sl PD} (h : qa0 (· < n) w v ps) (b : Below n w w') : qa0 (· < n) w' v ps := h.keep fun k hk => b.block k hk
theorem IsProto.below {n : Nat} {w w' : World} {a3 a4 a5 a8 a9 : Value} {p : PD} (h : IsProto (· < n) w a3 a4 a5 a8 a9 p) (b : Below n w w') : IsProto (· < n) w' a3 a4 a5 a8 a9 p := h.keep fun k hk => b.block k hk
theorem IsArr.below {m : Nat} {w w' : World} {v : Value} {z n : Nat} {C : Nat → Nat → Value} (h : IsArr (· < m) w v z n C) (b : Below m w w') : IsArr (· < m) w' v z n C := h.keep fun k hk => b.block k hk
theorem qa0.later {w w' : World} {v : Value} {ps : Sl PD} (h : qa0 (· < w.heap.size) w v ps) (b : Below w.heap.size w w') : qa0 (· < w'.heap.size) w' v ps :=
 (h.below b).mono fun k hk => Nat.lt_of_lt_of_le hk b.size
theorem IsProto.later {w w' : World} {a3 a4 a5 a8 a9 : Value} {p : PD} (h : IsProto (· < w.heap.size) w a3 a4 a5 a8 a9 p) (b : Below w.heap.size w w') : IsProto (· < w'.heap.size) w' a3 a4 a5 a8 a9 p :=
 (h.below b).mono fun k hk => Nat.lt_of_lt_of_le hk b.size
theorem IsArr.later {w w' : World} {v : Value} {z n : Nat} {C : Nat → Nat → Value} (h : IsArr (· < w.heap.size) w v z n C) (b : Below w.heap.size w w') : IsArr (· < w'.heap.size) w' v z n C :=
 (h.below b).mono fun k hk => Nat.lt_of_lt_of_le hk b.size

theorem lt_mul_of {i n j z : Nat} (hi : i < n) (hj : j < z) : i * z + j < n * z := by
 have := Nat.mul_le_mul_right z (show i + 1 ≤ n from hi);rw [Nat.succ_mul] at this;omega
def madeW (w : World) (z : Value) (n size : Nat) (e : TypeId) : World := w.alloc (.cells (madeCells z.cells (n * size)) e)
theorem qe3 (t e : TypeId) (z : Value) (size bytes : Nat) (ht : Tryz.prog.underlying t = some (.slice e)) (hinfo : (Tryz.prog.info? e).map (fun i => (i.zero, i.size, i.bytes)) = some (some z, size, bytes))
  (n : Nat) (hbytes : bytes * n ≤ 281474976710656) (h63 : n ≤ 9223372036854775807) (w : World) :
  (Instr.makeSlice t (.int .i64 (n : Int)) (.int .i64 (n : Int))).run Tryz.prog w = .ok (.slice (some ⟨w.heap.size, 0, none⟩) n n) (madeW w z n size e) := by
 obtain ⟨i, hi, hzz⟩ := Option.map_eq_some_iff.1 hinfo;simp only [Prod.mk.injEq] at hzz;obtain ⟨hz, hs, hb⟩ := hzz
 have hb' : (i.bytes : Int) * (n : Int) ≤ 281474976710656 := by
  have h : ((i.bytes * n : Nat) : Int) ≤ 281474976710656 := by rw [hb]; omega
  rwa [Int.natCast_mul] at h
 have hr := run_make (P := Tryz.prog) w t e i z ht hi hz .i64 .i64 n n (by omega) (Int.le_refl _) hb' (by omega);simp only [Int.toNat_natCast, hs] at hr;exact hr
theorem rowIs_madeW (w : World) (z : Value) (n size : Nat) (t : TypeId) : ∃ g, (madeW w z n size t).rowIs w.heap.size t (n * size) g := by
 refine ⟨fun i => (madeCells z.cells (n * size))[i]!, madeCells z.cells (n * size), Go.Deep.blk_alloc_new _ _, size_madeCells _ _, fun i hi => ?_⟩;show _ = some (madeCells z.cells (n * size))[i]!;rw [getElem!_pos _ _ (by rw [size_madeCells]; exact hi)];simp
theorem qg8 (w : World) (z : Value) (n size : Nat) (t : TypeId) : Below w.heap.size w (madeW w z n size t) := (Below.refl _ _).alloc (Nat.le_refl _) _

def RowL (w : World) (b : Nat) (t : TypeId) (L : List Value) : Prop := w.rowIs b t L.length (fun j => L.getD j undef)
theorem RowL.new (w : World) (L : List Value) (t : TypeId) : RowL (w.alloc (.cells L.toArray t)) w.heap.size t L :=
 World.rowIs_alloc w L.toArray t _ (fun i hi => by
  simp at hi;simp [List.getD, hi])
theorem RowL.alloc {w : World} {b : Nat} {t : TypeId} {L : List Value} (h : RowL w b t L) (o : Obj) : RowL (w.alloc o) b t L := World.rowIs.alloc h o
theorem RowL.call {w w' : World} {b : Nat} {t : TypeId} {L : List Value} (h : RowL w b t L) (hb : Below w.heap.size w w') : RowL w' b t L := World.rowIs.of_block h (hb.block _ (World.rowIs.lt h))
theorem RowL.other {w : World} {b : Nat} {t : TypeId} {L : List Value} (h : RowL w b t L) {a : Addr} (ha : b ≠ a.block) (v : Value) : RowL (w.setCell a v) b t L := World.rowIs.setOther h ha v
theorem RowL.set {w : World} {b : Nat} {t : TypeId} {L : List Value} (h : RowL w b t L) (k : Nat) (v : Value) : RowL (w.setCell ⟨b, k, none⟩ v) b t (L.set k v) := by
 have := World.rowIs.set h k v;unfold RowL;rw [List.length_set];refine this.congr fun i hi => ?_;by_cases e : i = k
 ·subst e;simp [List.getD, hi]
 ·simp [List.getD, e, List.getElem?_set, Ne.symm e]
theorem RowL.cell {w : World} {b : Nat} {t : TypeId} {L : List Value} (h : RowL w b t L) (k : Nat) {v : Value} (hk : L[k]? = some v) : w.cell? ⟨b, k, none⟩ = some v := by
 obtain ⟨hlt, hv⟩ := List.getElem?_eq_some_iff.1 hk;have := World.rowIs.cell h hlt;rw [this];simp [List.getD, hk]
theorem RowL.frozen {w : World} {b : Nat} {t : TypeId} {L : List Value} (h : RowL w b t L) (k : Nat) : w.frozen? ⟨b, k, none⟩ = false := World.rowIs.frozen h k

end Go.Proofs.YtplijnfaiofckaaGreatDoor
namespace Go.Proofs.YtplijnfaiofckaaGreatDoor
set_option linter.unusedVariables false
theorem wp_cut {P : Program} {c : Code} {Q : Exit → Act → World → Prop} {a : Act} {w : World} (ds : List Nat) (G : World → Prop)
  (h : c.wp P (fun x a' w' => x = .normal ∧ (∃ zs : List Value, zs.length = ds.length ∧ a' = { tmps := (ds.zip zs).foldl (fun t d => t.setIfInBounds d.1 d.2) a.tmps, defers := a.defers }) ∧ G w') a w)
  (k : ∀ (zs : List Value) w', zs.length = ds.length → G w' → Q .normal { tmps := (ds.zip zs).foldl (fun t d => t.setIfInBounds d.1 d.2) a.tmps, defers := a.defers } w') : c.wp P Q a w := by
 refine Code.wp_mono ?_ h;rintro e a' w' ⟨rfl, ⟨zs, h1, rfl⟩, hG⟩;exact k zs w' h1 hG
end Go.Proofs.YtplijnfaiofckaaGreatDoor
namespace Go.Proofs.YtplijnfaiofckaaGreatDoor
set_option linter.unusedVariables false
set_option linter.unusedSimpArgs false
def opW (z : Int) : Int := z % 64
def aW (z : Int) : Int := z / 64 % 256
def bW (z : Int) : Int := z / 16384 % 512
def cW (z : Int) : Int := z / 8388608
def sW (z : Int) : Int := bW z + 512 * cW z - 131072
def meet (v y : Int) : Int := if v = -2 then y else if v = -3 ∨ (v = -1 ∧ y ≠ -1) ∨ (v ≠ -1 ∧ y = -1) then -3 else if v < y then v else y
end Go.Proofs.YtplijnfaiofckaaGreatDoor

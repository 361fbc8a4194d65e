import Derived.Test.YtkanjbopfflioaaGreatDoorAsM
import Derived.Test.YtkanjbopfflioaaGreatDoorG11
import Derived.Test.YtkanjbopfflioaaGreatDoorG18
import Derived.Laws.OwnMore
import Derived.Deep.MidRow
import Derived.OneCell
import Derived.RangeFuncBox
namespace Go.Proofs.YtkanjbopfflioaaGreatDoor
section
open Go.RowKit
set_option linter.unusedVariables false
set_option linter.unusedSimpArgs false
theorem StepW.det {p : ByteArray} {r : List ByteArray} {R S : Option Int} (h : StepW p r R) (k : StepW p r S) : R = S := by
  cases h with
  | word h1 =>
    cases k with
    | word _ => rfl
    | op hk e => exact absurd (e.trans h1) (nm_word ⟨_, hk⟩)
    | none h2 _ => exact absurd h1 h2
  | op hk e =>
    cases k with
    | word h1 => exact absurd (e.trans h1) (nm_word ⟨_, hk⟩)
    | op hj e2 => rw [nm_inj hk hj (e.trans e2.symm)]
    | none _ h2 => exact absurd e (h2 _ hk)
  | none h1 h2 =>
    cases k with
    | word h3 => exact absurd h3 h1
    | op hj e => exact absurd e (h2 _ hj)
    | none _ _ => rfl
/-- one thing more at the end of a list. -/
def Sl.add {α : Type} (s : Sl α) (x : α) : Sl α := ⟨s.n + 1, fun i => if i < s.n then s.f i else x⟩
def protoB' : ByteArray := ⟨#[112, 114, 111, 116, 111]⟩
def constB' : ByteArray := ⟨#[99, 111, 110, 115, 116]⟩
def upB' : ByteArray := ⟨#[117, 112]⟩
def PD.addConst (p : PD) (d : VD) : PD := { p with consts := p.consts.add d }
def PD.addUp (p : PD) (u : UD) : PD := { p with ups := p.ups.add u }
def PD.addWord (p : PD) (x : Int) : PD := { p with code := p.code.add x }
/-- what a line makes of the prototypes so far. -/
inductive LStep : List PD → ByteArray → List ByteArray → Option (List PD) → Prop
  | proto {L r} : LStep L protoB' r ((headP r).map fun p => L ++ [p])
  | none {w r} : w ≠ protoB' → LStep [] w r none
  | const {K p r} : LStep (K ++ [p]) constB' r (if p.ups.n = 0 ∧ p.code.n = 0 then (constP r).map (fun d => K ++ [p.addConst d]) else none)
  | up {K p r} : LStep (K ++ [p]) upB' r (if p.code.n = 0 then (upP r).map (fun u => K ++ [p.addUp u]) else none)
  | word {K p w r R} : w ≠ protoB' → w ≠ constB' → w ≠ upB' → StepW w r R → LStep (K ++ [p]) w r (R.map fun x => K ++ [p.addWord x])
theorem kw_ne : protoB' ≠ constB' ∧ protoB' ≠ upB' ∧ constB' ≠ upB' := by decide
theorem snoc_inj {α : Type} {K J : List α} {p q : α} (h : K ++ [p] = J ++ [q]) : K = J ∧ p = q := by
  have := List.append_inj' h rfl
  exact ⟨this.1, by simpa using this.2⟩
theorem LStep.det : ∀ {L : List PD} {w : ByteArray} {r : List ByteArray} {R S : Option (List PD)}, LStep L w r R → LStep L w r S → R = S := by
  intro L w r R S h k
  obtain ⟨M, hM⟩ : ∃ M, M = L := ⟨_, rfl⟩
  cases h with
  | proto =>
    generalize hw : protoB' = w' at k
    cases k with
    | proto => rfl
    | none h => exact absurd hw.symm h
    | const => exact absurd hw kw_ne.1
    | up => exact absurd hw kw_ne.2.1
    | word h _ _ _ => exact absurd hw.symm h
  | none hne =>
    generalize hL : ([] : List PD) = L' at k
    cases k with
    | proto => exact absurd rfl hne
    | none _ => rfl
    | const => simp at hL
    | up => simp at hL
    | word _ _ _ _ => simp at hL
  | @const K p =>
    generalize hL : K ++ [p] = L' at k
    generalize hw : constB' = w' at k
    cases k with
    | proto => exact absurd hw.symm kw_ne.1
    | none _ => simp at hL
    | const => obtain ⟨rfl, rfl⟩ := snoc_inj hL; rfl
    | up => exact absurd hw kw_ne.2.2
    | word _ h _ _ => exact absurd hw.symm h
  | @up K p =>
    generalize hL : K ++ [p] = L' at k
    generalize hw : upB' = w' at k
    cases k with
    | proto => exact absurd hw.symm kw_ne.2.1
    | none _ => simp at hL
    | const => exact absurd hw.symm kw_ne.2.2
    | up => obtain ⟨rfl, rfl⟩ := snoc_inj hL; rfl
    | word _ _ h _ => exact absurd hw.symm h
  | @word K p w r R h1 h2 h3 h4 =>
    generalize hL : K ++ [p] = L' at k
    cases k with
    | proto => exact absurd rfl h1
    | none _ => simp at hL
    | const => exact absurd rfl h2
    | up => exact absurd rfl h3
    | word _ _ _ h5 => obtain ⟨rfl, rfl⟩ := snoc_inj hL; rw [h4.det h5]
end
section
open Go.RowKit
set_option linter.unusedVariables false
set_option linter.unusedSimpArgs false
/-- a prototype in the making, and where its lists lie. -/
structure PV where
  p : PD
  a3 : Value
  a4 : Value
  a5 : Value
def PV.cells (q : PV) : List Value := [.int .i64 q.p.params, .bool q.p.vararg, .int .i64 q.p.regs, q.a3, q.a4, q.a5, .int .i64 q.p.kids, .string q.p.name, .slice none 0 0, .slice none 0 0]
def codeC (s : Sl Int) : List Value := (List.range s.n).map fun i => .int .u32 (s.f i)
def valC (s : Sl VD) : List Value := (List.range s.n).flatMap fun i => [.int .i64 (s.f i).kind, .int .i64 (s.f i).num, .string (s.f i).text]
def upC (s : Sl UD) : List Value := (List.range s.n).flatMap fun i => [.bool (s.f i).stack, .int .i64 (s.f i).index]
/-- its lists own their memory. -/
structure PVok (w : World) (B : Nat) (q : PV) : Prop where
  code : w.ownsRow B 64 1 q.a3 q.p.code.n (codeC q.p.code)
  consts : w.ownsRow B 57 3 q.a4 q.p.consts.n (valC q.p.consts)
  ups : w.ownsRow B 61 2 q.a5 q.p.ups.n (upC q.p.ups)
  lines : q.p.lines.n = 0
  upNames : q.p.upNames.n = 0
  name : q.p.name.size ≤ 9223372036854775807
  texts : ∀ i, i < q.p.consts.n → (q.p.consts.f i).text.size ≤ 9223372036854775807
def PV.blks (q : PV) : List (Option Nat) := [q.a3.ownBlock, q.a4.ownBlock, q.a5.ownBlock]
/-- a chunk in the making: its row sv, its prototypes Q, all from block B on, no block twice. -/
structure Mk (w : World) (B : Nat) (sv : Value) (Q : List PV) : Prop where
  row : w.ownsRow B 53 10 sv Q.length (Q.flatMap PV.cells)
  each : ∀ q ∈ Q, PVok w B q
  apart : (sv.ownBlock :: Q.flatMap PV.blks).Pairwise (fun a b => a = none ∨ a ≠ b)
theorem ownsRow_keep {w w' : World} {B z n : Nat} {e : TypeId} {v : Value} {xs : List Value} (h : w.ownsRow B e z v n xs) (hk : ∀ k, v.ownBlock = some k → w'.heap[k]? = w.heap[k]?) : w'.ownsRow B e z v n xs := by
  refine ⟨h.1, ?_⟩
  rcases h.2 with hn | ⟨g, cap, cur, hv, hb, hg, r⟩
  · exact .inl hn
  · refine .inr ⟨g, cap, cur, hv, hb, ?_, r⟩
    rw [hk g (by rw [hv]; rfl)]
    exact hg
theorem ownsRow_lt {w : World} {B z n : Nat} {e : TypeId} {v : Value} {xs : List Value} (h : w.ownsRow B e z v n xs) : ∀ k, v.ownBlock = some k → k < w.heap.size ∧ B ≤ k := by
  intro k hk
  rcases h.2 with ⟨hv, _⟩ | ⟨g, cap, cur, hv, hb, hg, r⟩
  · rw [hv] at hk; cases hk
  · rw [hv] at hk
    have e : g = k := Option.some.inj hk
    subst e
    exact ⟨(Array.getElem?_eq_some_iff.1 hg).1, hb⟩
theorem PVok.keep {w w' : World} {B : Nat} {q : PV} (h : PVok w B q) (hk : ∀ k, some k ∈ q.blks → w'.heap[k]? = w.heap[k]?) : PVok w' B q :=
  ⟨ownsRow_keep h.code fun k e => hk k (by simp [PV.blks, e]), ownsRow_keep h.consts fun k e => hk k (by simp [PV.blks, e]), ownsRow_keep h.ups fun k e => hk k (by simp [PV.blks, e]), h.lines, h.upNames, h.name, h.texts⟩
theorem PVok.lt {w : World} {B : Nat} {q : PV} (h : PVok w B q) : ∀ k, some k ∈ q.blks → k < w.heap.size ∧ B ≤ k := by
  intro k hk
  simp only [PV.blks, List.mem_cons, List.not_mem_nil, or_false] at hk
  rcases hk with e | e | e
  · exact ownsRow_lt h.code k e.symm
  · exact ownsRow_lt h.consts k e.symm
  · exact ownsRow_lt h.ups k e.symm
theorem Mk.keep {w w' : World} {B : Nat} {sv : Value} {Q : List PV} (h : Mk w B sv Q) (hk : ∀ k, k < w.heap.size → B ≤ k → w'.heap[k]? = w.heap[k]?) : Mk w' B sv Q :=
  ⟨ownsRow_keep h.row fun k e => hk k (ownsRow_lt h.row k e).1 (ownsRow_lt h.row k e).2, fun q hq => (h.each q hq).keep fun k e => hk k ((h.each q hq).lt k e).1 ((h.each q hq).lt k e).2, h.apart⟩
theorem Mk.later {w w' : World} {B : Nat} {sv : Value} {Q : List PV} (h : Mk w B sv Q) (hb : Below w.heap.size w w') : Mk w' B sv Q := h.keep fun k hk _ => hb.block k hk
theorem Mk.nil (w : World) (B : Nat) : Mk w B (.slice none 0 0) [] := ⟨⟨rfl, .inl ⟨rfl, rfl⟩⟩, (fun q hq => by simp at hq), (by simp)⟩
/-- the cells of an owned row as a list that came in. -/
theorem ownsRow_arr {w : World} {B z n : Nat} {e : TypeId} {v : Value} {xs : List Value} {C : Nat → Nat → Value} (h : w.ownsRow B e z v n xs) (hn : n ≤ 9223372036854775807) (hC : ∀ i, i < n → ∀ j, j < z → xs[i * z + j]? = some (C i j)) : IsArr (· < w.heap.size) w v z n C := by
  rcases h.2 with ⟨hv, hz⟩ | ⟨g, cap, cur, hv, hb, hg, r⟩
  · subst hz
    exact ⟨none, 0, hv, hn, fun h => absurd h (by omega)⟩
  · refine ⟨some ⟨g, 0, none⟩, cap, hv, hn, fun _ => ⟨g, 0, rfl, (Array.getElem?_eq_some_iff.1 hg).1, fun i hi j hj => ?_⟩⟩
    have := h.cells (g := g) (by rw [hv]; rfl) (i * z + j) (C i j) (hC i hi j hj)
    have e9 : (⟨g, 0, none⟩ : Addr).add (i * z + j) = ⟨g, 0 + i * z + j, none⟩ := by
      rw [show 0 + i * z + j = i * z + j by omega]
      unfold Addr.add
      split <;> simp_all
    rw [← e9]
    exact this
end
section
open Go.RowKit
set_option linter.unusedVariables false
set_option linter.unusedSimpArgs false
theorem flat_get {α : Type} {f : α → List Value} {z : Nat} : ∀ (l : List α), (∀ x ∈ l, (f x).length = z) → ∀ (i : Nat) (x : α), l[i]? = some x → ∀ j, j < z → (l.flatMap f)[i * z + j]? = (f x)[j]?
  | [], _, i, x, h, _, _ => by simp at h
  | y :: l, hz, 0, x, h, j, hj => by
    simp only [List.getElem?_cons_zero, Option.some.injEq] at h
    subst h
    rw [List.flatMap_cons, Nat.zero_mul, Nat.zero_add, List.getElem?_append_left (by rw [hz _ (List.mem_cons_self ..)]; exact hj)]
  | y :: l, hz, i + 1, x, h, j, hj => by
    rw [List.flatMap_cons, List.getElem?_append_right (by rw [hz _ (List.mem_cons_self ..)]; rw [Nat.add_mul]; omega), hz _ (List.mem_cons_self ..)]
    rw [show (i + 1) * z + j - z = i * z + j by rw [Nat.add_mul]; omega]
    exact flat_get l (fun x hx => hz x (List.mem_cons_of_mem _ hx)) i x (by simpa using h) j hj
theorem range_get {n i : Nat} (h : i < n) : (List.range n)[i]? = some i := List.getElem?_range h
theorem PVok.isProto {w : World} {B : Nat} {q : PV} (h : PVok w B q) (h1 : q.p.code.n ≤ 1000000) (h2 : q.p.consts.n ≤ 1000000) (h3 : q.p.ups.n ≤ 1000000) : IsProto (· < w.heap.size) w q.a3 q.a4 q.a5 (.slice none 0 0) (.slice none 0 0) q.p := by
  refine ⟨ownsRow_arr h.code (by omega) fun i hi j hj => ?_, ⟨ownsRow_arr h.consts (by omega) fun i hi j hj => ?_, h.texts⟩, ownsRow_arr h.ups (by omega) fun i hi j hj => ?_, ?_, ⟨?_, fun i hi => absurd hi (by rw [h.upNames]; omega)⟩, h.name⟩
  · obtain rfl : j = 0 := by omega
    rw [Nat.mul_one, Nat.add_zero, codeC, List.getElem?_map, range_get hi]
    rfl
  · rw [valC, flat_get (z := 3) (List.range q.p.consts.n) (fun x _ => rfl) i i (range_get hi) j hj]
    match j, hj with
    | 0, _ => rfl
    | 1, _ => rfl
    | 2, _ => rfl
  · rw [upC, flat_get (z := 2) (List.range q.p.ups.n) (fun x _ => rfl) i i (range_get hi) j hj]
    match j, hj with
    | 0, _ => rfl
    | 1, _ => rfl
  · exact ⟨none, 0, by rw [h.lines], by rw [h.lines]; omega, fun hp => absurd hp (by rw [h.lines]; omega)⟩
  · exact ⟨none, 0, by rw [h.upNames], by rw [h.upNames]; omega, fun hp => absurd hp (by rw [h.upNames]; omega)⟩
/-- the chunk that Q makes. -/
def chunkOf (L : List PD) : Sl PD := ⟨L.length, fun i => L.getD i (bareP 0 0 0 false)⟩
def PV.zero : PV := ⟨bareP 0 0 0 false, .slice none 0 0, .slice none 0 0, .slice none 0 0⟩
theorem Mk.isProtos {w : World} {B : Nat} {sv : Value} {Q : List PV} (h : Mk w B sv Q) (hQ : Q.length ≤ 1000000) (hb : ∀ q ∈ Q, q.p.code.n ≤ 1000000 ∧ q.p.consts.n ≤ 1000000 ∧ q.p.ups.n ≤ 1000000) : IsProtos (· < w.heap.size) w sv (chunkOf (Q.map (·.p))) := by
  have hat : ∀ i, i < Q.length → Q[i]? = some (Q.getD i PV.zero) ∧ (chunkOf (Q.map (·.p))).f i = (Q.getD i PV.zero).p := fun i hi => by
    have e : Q[i]? = some (Q.getD i PV.zero) := by rw [List.getD, List.getElem?_eq_getElem hi]; rfl
    refine ⟨e, ?_⟩
    show (Q.map (·.p)).getD i _ = _
    rw [List.getD, List.getElem?_map, e]
    rfl
  have hn : (chunkOf (Q.map (·.p))).n = Q.length := by simp [chunkOf]
  refine ⟨fun i => (Q.getD i PV.zero).a3, fun i => (Q.getD i PV.zero).a4, fun i => (Q.getD i PV.zero).a5, fun _ => .slice none 0 0, fun _ => .slice none 0 0, ?_, fun i hi => ?_⟩
  · rw [hn]
    refine ownsRow_arr h.row (by omega) fun i hi j hj => ?_
    obtain ⟨e, e2⟩ := hat i hi
    rw [flat_get (z := 10) Q (fun x _ => rfl) i _ e j hj]
    match j, hj with
    | 0, _ => simp [PV.cells, pC, e2]
    | 1, _ => simp [PV.cells, pC, e2]
    | 2, _ => simp [PV.cells, pC, e2]
    | 3, _ => simp [PV.cells, pC, e2]
    | 4, _ => simp [PV.cells, pC, e2]
    | 5, _ => simp [PV.cells, pC, e2]
    | 6, _ => simp [PV.cells, pC, e2]
    | 7, _ => simp [PV.cells, pC, e2]
    | 8, _ => simp [PV.cells, pC, e2]
    | 9, _ => simp [PV.cells, pC, e2]
  · rw [hn] at hi
    obtain ⟨e, e2⟩ := hat i hi
    have hm := List.mem_of_getElem? e
    obtain ⟨b1, b2, b3⟩ := hb _ hm
    rw [e2]
    exact (h.each _ hm).isProto b1 b2 b3
end
section
open Go.RowKit
set_option linter.unusedVariables false
set_option linter.unusedSimpArgs false
theorem grownBy_same (w : World) (r : Option Nat) : w.grownBy w r := ⟨rfl, rfl, rfl, Nat.le_refl _, fun _ _ _ => rfl⟩
theorem ownsRow_setCells {B z g n cap : Nat} {e : TypeId} : ∀ (vs : List Value) (w : World) (pre old : List Value), old.length = vs.length → w.ownsRow B e z (.slice (some ⟨g, 0, none⟩) n cap) n (pre ++ old) →
    (w.setCells g pre.length vs).ownsRow B e z (.slice (some ⟨g, 0, none⟩) n cap) n (pre ++ vs) ∧ w.grownBy (w.setCells g pre.length vs) (some g)
  | [], w, pre, old, hl, h => by
    obtain rfl : old = [] := List.length_eq_zero_iff.1 (by simpa using hl)
    exact ⟨h, grownBy_same _ _⟩
  | v :: vs, w, pre, [], hl, h => by simp at hl
  | v :: vs, w, pre, o :: old, hl, h => by
    obtain ⟨h1, h2⟩ := h.stored pre.length v
    have e1 : (pre ++ o :: old).set pre.length v = (pre ++ [v]) ++ old := by simp
    rw [e1] at h1
    obtain ⟨h3, h4⟩ := ownsRow_setCells vs _ (pre ++ [v]) old (by simpa using hl) h1
    have e2 : (pre ++ [v]).length = pre.length + 1 := by simp
    rw [e2] at h3 h4
    rw [World.setCells]
    refine ⟨?_, h2.trans h4⟩
    have e3 : pre ++ v :: vs = (pre ++ [v]) ++ vs := by simp
    rw [e3]
    exact h3
def Apt (l : List (Option Nat)) : Prop := l.Pairwise (fun a b => a = none ∨ a ≠ b)
theorem apt_swap {l1 l2 : List (Option Nat)} {x y : Option Nat} {N : Nat} (h : Apt (l1 ++ x :: l2)) (hlt : ∀ k, some k ∈ l1 ++ x :: l2 → k < N) (hy : y = x ∨ ∃ k, y = some k ∧ N ≤ k) : Apt (l1 ++ y :: l2) := by
  rcases hy with rfl | ⟨k, rfl, hk⟩
  · exact h
  · unfold Apt at h ⊢
    rw [List.pairwise_append, List.pairwise_cons] at h ⊢
    obtain ⟨h1, ⟨h2, h3⟩, h4⟩ := h
    refine ⟨h1, ⟨fun b hb => .inr (fun e => ?_), h3⟩, fun a ha b hb => ?_⟩
    · subst e
      have := hlt k (by simp [hb])
      omega
    · rcases List.mem_cons.1 hb with rfl | hb
      · right
        intro e
        subst e
        have := hlt k (by simp [ha])
        omega
      · exact h4 a ha b (List.mem_cons_of_mem _ hb)
theorem apt_snoc {l r : List (Option Nat)} (h : Apt l) (hr : ∀ x ∈ r, x = none) : Apt (l ++ r) := by
  unfold Apt at h ⊢
  rw [List.pairwise_append]
  refine ⟨h, ?_, fun a ha b hb => ?_⟩
  · exact List.pairwise_iff_forall_sublist.2 fun {a b} hs => .inl (hr a (hs.subset (by simp)))
  · rw [hr b hb]
    cases a with
    | none => exact .inl rfl
    | some a => right; simp
theorem Mk.blkLt {w : World} {B : Nat} {sv : Value} {Q : List PV} (h : Mk w B sv Q) : ∀ k, some k ∈ sv.ownBlock :: Q.flatMap PV.blks → k < w.heap.size ∧ B ≤ k := by
  intro k hk
  rcases List.mem_cons.1 hk with e | hk
  · exact ownsRow_lt h.row k e.symm
  · obtain ⟨q, hq, hk⟩ := List.mem_flatMap.1 hk
    exact (h.each q hq).lt k hk
/-- a prototype more. -/
theorem Mk.snoc {w w' : World} {B : Nat} {sv v' : Value} {Q : List PV} {q : PV} (h : Mk w B sv Q) (ho : w'.ownsRow B 53 10 v' (Q.length + 1) (Q.flatMap PV.cells ++ q.cells)) (hg : w.grownBy w' sv.ownBlock)
    (hat : v'.ownBlock = sv.ownBlock ∨ ∃ k, v'.ownBlock = some k ∧ w.heap.size ≤ k) (hb : ∀ x ∈ q.blks, x = none) (hq : PVok w' B q) : Mk w' B v' (Q ++ [q]) := by
  have hap : Apt (v'.ownBlock :: Q.flatMap PV.blks) := apt_swap (l1 := []) (l2 := Q.flatMap PV.blks) (x := sv.ownBlock) h.apart (fun k hk => (h.blkLt k hk).1) hat
  have ha := h.apart
  rw [List.pairwise_cons] at ha
  refine ⟨?_, fun r hr => ?_, ?_⟩
  · simpa [List.flatMap_append] using ho
  · rcases List.mem_append.1 hr with hr | hr
    · refine (h.each r hr).keep fun k hk => hg.block k ((h.each r hr).lt k hk).1 fun e => ?_
      rcases ha.1 (some k) (List.mem_flatMap.2 ⟨r, hr, hk⟩) with e1 | e1
      · rw [e1] at e; cases e
      · exact e1 e.symm
    · simp only [List.mem_cons, List.not_mem_nil, or_false] at hr
      subst hr
      exact hq
  · have := apt_snoc (r := q.blks) hap hb
    simpa [Apt, List.flatMap_append] using this
/-- the last prototype for another one. -/
theorem Mk.swap {w w1 w2 : World} {B : Nat} {sv : Value} {K : List PV} {q q' : PV} {ch : Option Nat} (h : Mk w B sv (K ++ [q])) (hg : w.grownBy w1 ch) (hch : ch ∈ q.blks) (hq : PVok w1 B q')
    (hap : Apt (sv.ownBlock :: (K ++ [q']).flatMap PV.blks))
    (hst : ∀ g cap, sv = .slice (some ⟨g, 0, none⟩) (K.length + 1) cap → w1.ownsRow B 53 10 sv (K.length + 1) (K.flatMap PV.cells ++ q.cells) → w2.ownsRow B 53 10 sv (K.length + 1) (K.flatMap PV.cells ++ q'.cells) ∧ w1.grownBy w2 (some g)) : Mk w2 B sv (K ++ [q']) := by
  have hrow := h.row
  have ha := h.apart
  rw [List.pairwise_cons] at ha
  have hm : ch ∈ (K ++ [q]).flatMap PV.blks := List.mem_flatMap.2 ⟨q, by simp, hch⟩
  have hr1 : w1.ownsRow B 53 10 sv (K ++ [q]).length ((K ++ [q]).flatMap PV.cells) := hrow.kept hg (ha.1 ch hm)
  have hl : (K ++ [q]).length = K.length + 1 := by simp
  have hf : (K ++ [q]).flatMap PV.cells = K.flatMap PV.cells ++ q.cells := by simp [List.flatMap_append]
  rw [hl, hf] at hr1
  obtain ⟨g, cap, hsv⟩ := ownsRow_succ hr1
  obtain ⟨h2, hg2⟩ := hst g cap hsv hr1
  have hob : sv.ownBlock = some g := by rw [hsv]; rfl
  have hne : ∀ k, some k ∈ (K ++ [q']).flatMap PV.blks → k ≠ g := by
    intro k hk e
    unfold Apt at hap
    rw [List.pairwise_cons] at hap
    rcases hap.1 _ hk with e1 | e1
    · rw [hob] at e1; cases e1
    · rw [hob, e] at e1; exact e1 rfl
  refine ⟨?_, fun r hr => ?_, hap⟩
  · simpa [List.flatMap_append] using h2
  · rcases List.mem_append.1 hr with hr | hr
    · have hold := h.each r (List.mem_append_left _ hr)
      have h1 : PVok w1 B r := hold.keep fun k hk => hg.block k (hold.lt k hk).1 fun e => by
        have hp := ha.2
        rw [List.flatMap_append, List.pairwise_append] at hp
        rcases hp.2.2 (some k) (List.mem_flatMap.2 ⟨r, hr, hk⟩) ch (by simpa using hch) with e1 | e1
        · cases e1
        · exact e1 e
      exact h1.keep fun k hk => hg2.block k (h1.lt k hk).1 fun e => hne k (List.mem_flatMap.2 ⟨r, List.mem_append_left _ hr, hk⟩) (Option.some.inj e)
    · simp only [List.mem_cons, List.not_mem_nil, or_false] at hr
      subst hr
      exact hq.keep fun k hk => hg2.block k (hq.lt k hk).1 fun e => hne k (List.mem_flatMap.2 ⟨_, by simp, hk⟩) (Option.some.inj e)
theorem codeC_add (s : Sl Int) (x : Int) : codeC (s.add x) = codeC s ++ [.int .u32 x] := by
  unfold codeC Sl.add
  rw [List.range_succ, List.map_append]
  congr 1
  · refine List.map_congr_left fun i hi => ?_
    have := List.mem_range.1 hi
    simp [this]
  · simp
theorem flat_congr {α : Type} {f g : Nat → List α} : ∀ (l : List Nat), (∀ i ∈ l, f i = g i) → l.flatMap f = l.flatMap g
  | [], _ => rfl
  | a :: l, h => by
    rw [List.flatMap_cons, List.flatMap_cons, h a (List.mem_cons_self ..), flat_congr l fun i hi => h i (List.mem_cons_of_mem _ hi)]
theorem valC_add (s : Sl VD) (d : VD) : valC (s.add d) = valC s ++ [.int .i64 d.kind, .int .i64 d.num, .string d.text] := by
  unfold valC Sl.add
  rw [List.range_succ, List.flatMap_append]
  congr 1
  · refine flat_congr _ fun i hi => ?_
    have := List.mem_range.1 hi
    simp [this]
  · simp
theorem upC_add (s : Sl UD) (u : UD) : upC (s.add u) = upC s ++ [.bool u.stack, .int .i64 u.index] := by
  unfold upC Sl.add
  rw [List.range_succ, List.flatMap_append]
  congr 1
  · refine flat_congr _ fun i hi => ?_
    have := List.mem_range.1 hi
    simp [this]
  · simp
/-- where the last prototype's lists may be turned. -/
theorem Mk.parts {w : World} {B : Nat} {sv : Value} {K : List PV} {q : PV} (h : Mk w B sv (K ++ [q])) : Apt ((sv.ownBlock :: K.flatMap PV.blks) ++ [q.a3.ownBlock, q.a4.ownBlock, q.a5.ownBlock]) ∧ PVok w B q ∧
    ∀ k, some k ∈ (sv.ownBlock :: K.flatMap PV.blks) ++ [q.a3.ownBlock, q.a4.ownBlock, q.a5.ownBlock] → k < w.heap.size := by
  have e : sv.ownBlock :: (K ++ [q]).flatMap PV.blks = (sv.ownBlock :: K.flatMap PV.blks) ++ [q.a3.ownBlock, q.a4.ownBlock, q.a5.ownBlock] := by simp [List.flatMap_append, PV.blks]
  refine ⟨e ▸ h.apart, h.each q (by simp), fun k hk => (h.blkLt k (e ▸ hk)).1⟩
theorem apt_ne {l : List (Option Nat)} {a b : Option Nat} (h : Apt (l ++ [a, b])) : a = none ∨ a ≠ b := by
  unfold Apt at h
  rw [List.pairwise_append] at h
  exact (List.pairwise_cons.1 h.2.1).1 b (by simp)
theorem apt3 {l : List (Option Nat)} {a b c : Option Nat} (h : Apt (l ++ [a, b, c])) : (a = none ∨ a ≠ b) ∧ (a = none ∨ a ≠ c) ∧ (b = none ∨ b ≠ c) := by
  unfold Apt at h
  rw [List.pairwise_append] at h
  have h1 := List.pairwise_cons.1 h.2.1
  exact ⟨h1.1 b (by simp), h1.1 c (by simp), (List.pairwise_cons.1 h1.2).1 c (by simp)⟩
theorem ne_sym {a b : Option Nat} (h : a = none ∨ a ≠ b) : b = none ∨ b ≠ a := by
  rcases h with h | h
  · subst h
    cases b with
    | none => exact .inl rfl
    | some b => right; simp
  · exact .inr fun e => h e.symm
def Stored (w1 w2 : World) (B : Nat) (sv : Value) (K : List PV) (q q' : PV) : Prop := ∀ g cap, sv = .slice (some ⟨g, 0, none⟩) (K.length + 1) cap → w1.ownsRow B 53 10 sv (K.length + 1) (K.flatMap PV.cells ++ q.cells) → w2.ownsRow B 53 10 sv (K.length + 1) (K.flatMap PV.cells ++ q'.cells) ∧ w1.grownBy w2 (some g)
theorem len_flat (K : List PV) : (K.flatMap PV.cells).length = K.length * 10 := by
  induction K with
  | nil => rfl
  | cons a K ih => rw [List.flatMap_cons, List.length_append, ih, List.length_cons]; simp [PV.cells]; omega
/-- as the model stores it: all of the prototype's cells. -/
theorem Stored.all (w1 : World) (B : Nat) {sv : Value} {K : List PV} (q q' : PV) {g cap : Nat} (hsv : sv = .slice (some ⟨g, 0, none⟩) (K.length + 1) cap) : Stored w1 (w1.setCells g (K.length * 10) q'.cells) B sv K q q' := by
  intro g' cap' e h
  have e2 := hsv.symm.trans e
  simp only [Value.slice.injEq, Option.some.injEq, Addr.mk.injEq, and_true, true_and] at e2
  obtain ⟨rfl, rfl⟩ := e2
  subst hsv
  have := ownsRow_setCells q'.cells w1 (K.flatMap PV.cells) q.cells rfl h
  rw [len_flat] at this
  exact this
/-- as the program stores it: one cell. -/
theorem Stored.one (w1 : World) (B : Nat) {sv : Value} {K : List PV} (q q' : PV) {g cap : Nat} (hsv : sv = .slice (some ⟨g, 0, none⟩) (K.length + 1) cap) (j : Nat) (v : Value) (hq : q.cells.set j v = q'.cells) : Stored w1 (w1.setCell ⟨g, K.length * 10 + j, none⟩ v) B sv K q q' := by
  intro g' cap' e h
  have e2 := hsv.symm.trans e
  simp only [Value.slice.injEq, Option.some.injEq, Addr.mk.injEq, and_true, true_and] at e2
  obtain ⟨rfl, rfl⟩ := e2
  subst hsv
  have := h.stored (K.length * 10 + j) v
  rw [List.set_append_right _ _ (by rw [len_flat]; omega), len_flat, Nat.add_sub_cancel_left, hq] at this
  exact this
theorem Mk.addWord {w w1 w2 : World} {B : Nat} {sv v' : Value} {K : List PV} {q : PV} {x : Int} (h : Mk w B sv (K ++ [q])) (hg : w.grownBy w1 q.a3.ownBlock)
    (ho : w1.ownsRow B 64 1 v' (q.p.code.n + 1) (codeC q.p.code ++ [.int .u32 x])) (hat : v'.ownBlock = q.a3.ownBlock ∨ ∃ k, v'.ownBlock = some k ∧ w.heap.size ≤ k)
    (hst : Stored w1 w2 B sv K q ⟨q.p.addWord x, v', q.a4, q.a5⟩) : Mk w2 B sv (K ++ [⟨q.p.addWord x, v', q.a4, q.a5⟩]) := by
  obtain ⟨h1, h2, h3⟩ := h.parts
  obtain ⟨n1, n2, n3⟩ := apt3 h1
  refine h.swap hg (by simp [PV.blks]) ⟨?_, h2.consts.kept hg (ne_sym n1), h2.ups.kept hg (ne_sym n2), h2.lines, h2.upNames, h2.name, h2.texts⟩ ?_ hst
  · show w1.ownsRow B _ 1 v' (q.p.code.n + 1) (codeC (q.p.code.add x))
    rw [codeC_add]
    exact ho
  · have := apt_swap (l1 := sv.ownBlock :: K.flatMap PV.blks) (l2 := [q.a4.ownBlock, q.a5.ownBlock]) h1 h3 hat
    simpa [Apt, List.flatMap_append, PV.blks] using this
theorem Mk.addConst {w w1 w2 : World} {B : Nat} {sv v' : Value} {K : List PV} {q : PV} {d : VD} (h : Mk w B sv (K ++ [q])) (hg : w.grownBy w1 q.a4.ownBlock)
    (ho : w1.ownsRow B 57 3 v' (q.p.consts.n + 1) (valC q.p.consts ++ [.int .i64 d.kind, .int .i64 d.num, .string d.text])) (hat : v'.ownBlock = q.a4.ownBlock ∨ ∃ k, v'.ownBlock = some k ∧ w.heap.size ≤ k) (ht : d.text.size ≤ 9223372036854775807)
    (hst : Stored w1 w2 B sv K q ⟨q.p.addConst d, q.a3, v', q.a5⟩) : Mk w2 B sv (K ++ [⟨q.p.addConst d, q.a3, v', q.a5⟩]) := by
  obtain ⟨h1, h2, h3⟩ := h.parts
  obtain ⟨n1, n2, n3⟩ := apt3 h1
  refine h.swap hg (by simp [PV.blks]) ⟨h2.code.kept hg n1, ?_, h2.ups.kept hg (ne_sym n3), h2.lines, h2.upNames, h2.name, fun i hi => ?_⟩ ?_ hst
  · show w1.ownsRow B _ 3 v' (q.p.consts.n + 1) (valC (q.p.consts.add d))
    rw [valC_add]
    exact ho
  · show (if i < q.p.consts.n then q.p.consts.f i else d).text.size ≤ _
    split
    · exact h2.texts i (by assumption)
    · exact ht
  · have := apt_swap (l1 := (sv.ownBlock :: K.flatMap PV.blks) ++ [q.a3.ownBlock]) (l2 := [q.a5.ownBlock]) (x := q.a4.ownBlock) (y := v'.ownBlock) (N := w.heap.size) (by simpa using h1) (fun k hk => h3 k (by simpa using hk)) hat
    simpa [Apt, List.flatMap_append, PV.blks] using this
theorem Mk.addUp {w w1 w2 : World} {B : Nat} {sv v' : Value} {K : List PV} {q : PV} {u : UD} (h : Mk w B sv (K ++ [q])) (hg : w.grownBy w1 q.a5.ownBlock)
    (ho : w1.ownsRow B 61 2 v' (q.p.ups.n + 1) (upC q.p.ups ++ [.bool u.stack, .int .i64 u.index])) (hat : v'.ownBlock = q.a5.ownBlock ∨ ∃ k, v'.ownBlock = some k ∧ w.heap.size ≤ k)
    (hst : Stored w1 w2 B sv K q ⟨q.p.addUp u, q.a3, q.a4, v'⟩) : Mk w2 B sv (K ++ [⟨q.p.addUp u, q.a3, q.a4, v'⟩]) := by
  obtain ⟨h1, h2, h3⟩ := h.parts
  obtain ⟨n1, n2, n3⟩ := apt3 h1
  refine h.swap hg (by simp [PV.blks]) ⟨h2.code.kept hg n2, h2.consts.kept hg n3, ?_, h2.lines, h2.upNames, h2.name, h2.texts⟩ ?_ hst
  · show w1.ownsRow B _ 2 v' (q.p.ups.n + 1) (upC (q.p.ups.add u))
    rw [upC_add]
    exact ho
  · have := apt_swap (l1 := (sv.ownBlock :: K.flatMap PV.blks) ++ [q.a3.ownBlock, q.a4.ownBlock]) (l2 := []) (x := q.a5.ownBlock) (y := v'.ownBlock) (N := w.heap.size) (by simpa using h1) (fun k hk => h3 k (by simpa using hk)) hat
    simpa [Apt, List.flatMap_append, PV.blks] using this
end
end Go.Proofs.YtkanjbopfflioaaGreatDoor

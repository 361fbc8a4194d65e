import Derived.Test.YtplijnfaiofckaaGreatDoorGr
import Derived.RangeFuncBox
namespace Go.Proofs.YtplijnfaiofckaaGreatDoor
open Go.RowKit
set_option linter.unusedVariables false
set_option linter.unusedSimpArgs false
def Apt (l : List (Option Nat)) : Prop := l.Pairwise (fun a b => a = none ∨ a ≠ b)
theorem apt_swap {l1 l2 : List (Option Nat)} {x y : Option Nat} {N : Nat} (h : Apt (l1 ++ x :: l2)) (hlt : ∀ k, some k ∈ l1 ++ x :: l2 → k < N) (hy : y = x ∨ ∃ k, y = some k ∧ N ≤ k) : Apt (l1 ++ y :: l2) := by
 rcases hy with rfl | ⟨k, rfl, hk⟩
 ·exact h
 ·unfold Apt at h ⊢;rw [List.pairwise_append, List.pairwise_cons] at h ⊢;obtain ⟨h1, ⟨h2, h3⟩, h4⟩ := h;refine ⟨h1, ⟨fun b hb => .inr (fun e => ?_), h3⟩, fun a ha b hb => ?_⟩
  ·subst e;have := hlt k (by simp [hb]);omega
  ·rcases List.mem_cons.1 hb with rfl | hb
   ·right;intro e;subst e;have := hlt k (by simp [ha]);omega
   ·exact h4 a ha b (List.mem_cons_of_mem _ hb)
theorem apt_snoc {l r : List (Option Nat)} (h : Apt l) (hr : ∀ x ∈ r, x = none) : Apt (l ++ r) := by
 unfold Apt at h ⊢;rw [List.pairwise_append];refine ⟨h, ?_, fun a ha b hb => ?_⟩
 ·exact List.pairwise_iff_forall_sublist.2 fun {a b} hs => .inl (hr a (hs.subset (by simp)))
 ·rw [hr b hb]
  cases a with
  | none => exact .inl rfl
  | some a => right; simp
theorem Mk.blkLt {w : World} {B : Nat} {sv : Value} {Q : List PVa} (h : Mk w B sv Q) : ∀ k, some k ∈ sv.ownBlock :: Q.flatMap PVa.blks → k < w.heap.size ∧ B ≤ k := by
 intro k hk;rcases List.mem_cons.1 hk with e | hk
 ·exact qe0 h.row k e.symm
 ·obtain ⟨q, hq, hk⟩ := List.mem_flatMap.1 hk;exact (h.each q hq).lt k hk
theorem Mk.snoc {w w' : World} {B : Nat} {sv v' : Value} {Q : List PVa} {q : PVa} (h : Mk w B sv Q) (ho : w'.ownsRow B 63 10 v' (Q.length + 1) (Q.flatMap PVa.cells ++ q.cells)) (hg : w.grownBy w' sv.ownBlock)
  (hat : v'.ownBlock = sv.ownBlock ∨ ∃ k, v'.ownBlock = some k ∧ w.heap.size ≤ k) (hb : ∀ x ∈ q.blks, x = none) (hq : PVok w' B q) : Mk w' B v' (Q ++ [q]) := by
 have hap : Apt (v'.ownBlock :: Q.flatMap PVa.blks) := apt_swap (l1 := []) (l2 := Q.flatMap PVa.blks) (x := sv.ownBlock) h.apart (fun k hk => (h.blkLt k hk).1) hat;have ha := h.apart;rw [List.pairwise_cons] at ha;refine ⟨?_, fun r hr => ?_, ?_⟩
 ·simpa [List.flatMap_append] using ho
 ·rcases List.mem_append.1 hr with hr | hr
  ·refine (h.each r hr).keep fun k hk => hg.block k ((h.each r hr).lt k hk).1 fun e => ?_;rcases ha.1 (some k) (List.mem_flatMap.2 ⟨r, hr, hk⟩) with e1 | e1
   ·rw [e1] at e; cases e
   ·exact e1 e.symm
  ·simp only [List.mem_cons, List.not_mem_nil, or_false] at hr;subst hr;exact hq
 ·have := apt_snoc (r := q.blks) hap hb
  simpa [Apt, List.flatMap_append] using this
theorem Mk.swap {w w1 w2 : World} {B : Nat} {sv : Value} {K : List PVa} {q q' : PVa} {ch : Option Nat} (h : Mk w B sv (K ++ [q])) (hg : w.grownBy w1 ch) (hch : ch ∈ q.blks) (hq : PVok w1 B q')
  (hap : Apt (sv.ownBlock :: (K ++ [q']).flatMap PVa.blks))
  (hst : ∀ g cap, sv = .slice (some ⟨g, 0, none⟩) (K.length + 1) cap → w1.ownsRow B 63 10 sv (K.length + 1) (K.flatMap PVa.cells ++ q.cells) → w2.ownsRow B 63 10 sv (K.length + 1) (K.flatMap PVa.cells ++ q'.cells) ∧ w1.grownBy w2 (some g)) : Mk w2 B sv (K ++ [q']) := by
 have hrow := h.row;have ha := h.apart;rw [List.pairwise_cons] at ha;have hm : ch ∈ (K ++ [q]).flatMap PVa.blks := List.mem_flatMap.2 ⟨q, by simp, hch⟩;have hr1 : w1.ownsRow B 63 10 sv (K ++ [q]).length ((K ++ [q]).flatMap PVa.cells) := hrow.kept hg (ha.1 ch hm);have hl : (K ++ [q]).length = K.length + 1 := by simp
 have hf : (K ++ [q]).flatMap PVa.cells = K.flatMap PVa.cells ++ q.cells := by simp [List.flatMap_append]
 rw [hl, hf] at hr1;obtain ⟨g, cap, hsv⟩ := ownsRow_succ hr1;obtain ⟨h2, hg2⟩ := hst g cap hsv hr1;have hob : sv.ownBlock = some g := by rw [hsv]; rfl
 have hne : ∀ k, some k ∈ (K ++ [q']).flatMap PVa.blks → k ≠ g := by
  intro k hk e;unfold Apt at hap;rw [List.pairwise_cons] at hap;rcases hap.1 _ hk with e1 | e1
  ·rw [hob] at e1; cases e1
  ·rw [hob, e] at e1; exact e1 rfl
 refine ⟨?_, fun r hr => ?_, hap⟩
 ·simpa [List.flatMap_append] using h2
 ·rcases List.mem_append.1 hr with hr | hr
  ·have hold := h.each r (List.mem_append_left _ hr)
   have h1 : PVok w1 B r := hold.keep fun k hk => hg.block k (hold.lt k hk).1 fun e => by
    have hp := ha.2;rw [List.flatMap_append, List.pairwise_append] at hp;rcases hp.2.2 (some k) (List.mem_flatMap.2 ⟨r, hr, hk⟩) ch (by simpa using hch) with e1 | e1
    ·cases e1
    ·exact e1 e
   exact h1.keep fun k hk => hg2.block k (h1.lt k hk).1 fun e => hne k (List.mem_flatMap.2 ⟨r, List.mem_append_left _ hr, hk⟩) (Option.some.inj e)
  ·simp only [List.mem_cons, List.not_mem_nil, or_false] at hr;subst hr;exact hq.keep fun k hk => hg2.block k (hq.lt k hk).1 fun e => hne k (List.mem_flatMap.2 ⟨_, by simp, hk⟩) (Option.some.inj e)
theorem codeC_add (s : Sl Int) (x : Int) : codeC (s.add x) = codeC s ++ [.int .u32 x] := by
 unfold codeC Sl.add;rw [List.range_succ, List.map_append]
 congr 1
 ·refine List.map_congr_left fun i hi => ?_;have := List.mem_range.1 hi;simp [this]
 ·simp
theorem flat_congr {α : Type} {f g : Nat → List α} : ∀ (l : List Nat), (∀ i ∈ l, f i = g i) → l.flatMap f = l.flatMap g
 | [], _ => rfl
 | a :: l, h => by
  rw [List.flatMap_cons, List.flatMap_cons, h a (List.mem_cons_self ..), flat_congr l fun i hi => h i (List.mem_cons_of_mem _ hi)]
theorem valC_add (s : Sl VD) (d : VD) : valC (s.add d) = valC s ++ [.int .i64 d.kind, .int .i64 d.num, .string d.text] := by
 unfold valC Sl.add;rw [List.range_succ, List.flatMap_append]
 congr 1
 ·refine flat_congr _ fun i hi => ?_;have := List.mem_range.1 hi;simp [this]
 ·simp
theorem upC_add (s : Sl UD) (u : UD) : upC (s.add u) = upC s ++ [.bool u.stack, .int .i64 u.index] := by
 unfold upC Sl.add;rw [List.range_succ, List.flatMap_append]
 congr 1
 ·refine flat_congr _ fun i hi => ?_;have := List.mem_range.1 hi;simp [this]
 ·simp
theorem Mk.parts {w : World} {B : Nat} {sv : Value} {K : List PVa} {q : PVa} (h : Mk w B sv (K ++ [q])) : Apt ((sv.ownBlock :: K.flatMap PVa.blks) ++ [q.a3.ownBlock, q.a4.ownBlock, q.a5.ownBlock]) ∧ PVok w B q ∧
  ∀ k, some k ∈ (sv.ownBlock :: K.flatMap PVa.blks) ++ [q.a3.ownBlock, q.a4.ownBlock, q.a5.ownBlock] → k < w.heap.size := by
 have e : sv.ownBlock :: (K ++ [q]).flatMap PVa.blks = (sv.ownBlock :: K.flatMap PVa.blks) ++ [q.a3.ownBlock, q.a4.ownBlock, q.a5.ownBlock] := by simp [List.flatMap_append, PVa.blks]
 refine ⟨e ▸ h.apart, h.each q (by simp), fun k hk => (h.blkLt k (e ▸ hk)).1⟩
theorem apt3 {l : List (Option Nat)} {a b c : Option Nat} (h : Apt (l ++ [a, b, c])) : (a = none ∨ a ≠ b) ∧ (a = none ∨ a ≠ c) ∧ (b = none ∨ b ≠ c) := by
 unfold Apt at h;rw [List.pairwise_append] at h;have h1 := List.pairwise_cons.1 h.2.1;exact ⟨h1.1 b (by simp), h1.1 c (by simp), (List.pairwise_cons.1 h1.2).1 c (by simp)⟩
theorem ne_sym {a b : Option Nat} (h : a = none ∨ a ≠ b) : b = none ∨ b ≠ a := by
 rcases h with h | h
 ·subst h
  cases b with
  | none => exact .inl rfl
  | some b => right; simp
 ·exact .inr fun e => h e.symm
def Stored (w1 w2 : World) (B : Nat) (sv : Value) (K : List PVa) (q q' : PVa) : Prop := ∀ g cap, sv = .slice (some ⟨g, 0, none⟩) (K.length + 1) cap → w1.ownsRow B 63 10 sv (K.length + 1) (K.flatMap PVa.cells ++ q.cells) → w2.ownsRow B 63 10 sv (K.length + 1) (K.flatMap PVa.cells ++ q'.cells) ∧ w1.grownBy w2 (some g)
theorem len_flat (K : List PVa) : (K.flatMap PVa.cells).length = K.length * 10 := by
 induction K with
 | nil => rfl
 | cons a K ih => rw [List.flatMap_cons, List.length_append, ih, List.length_cons]; simp [PVa.cells]; omega
theorem Stored.one (w1 : World) (B : Nat) {sv : Value} {K : List PVa} (q q' : PVa) {g cap : Nat} (hsv : sv = .slice (some ⟨g, 0, none⟩) (K.length + 1) cap) (j : Nat) (v : Value) (hq : q.cells.set j v = q'.cells) : Stored w1 (w1.setCell ⟨g, K.length * 10 + j, none⟩ v) B sv K q q' := by
 intro g' cap' e h;have e2 := hsv.symm.trans e;simp only [Value.slice.injEq, Option.some.injEq, Addr.mk.injEq, and_true, true_and] at e2;obtain ⟨rfl, rfl⟩ := e2;subst hsv;have := h.stored (K.length * 10 + j) v;rw [List.set_append_right _ _ (by rw [len_flat]; omega), len_flat, Nat.add_sub_cancel_left, hq] at this;exact this
theorem Mk.addWord {w w1 w2 : World} {B : Nat} {sv v' : Value} {K : List PVa} {q : PVa} {x : Int} (h : Mk w B sv (K ++ [q])) (hg : w.grownBy w1 q.a3.ownBlock)
  (ho : w1.ownsRow B 101 1 v' (q.p.code.n + 1) (codeC q.p.code ++ [.int .u32 x])) (hat : v'.ownBlock = q.a3.ownBlock ∨ ∃ k, v'.ownBlock = some k ∧ w.heap.size ≤ k)
  (hst : Stored w1 w2 B sv K q ⟨q.p.addWord x, v', q.a4, q.a5⟩) : Mk w2 B sv (K ++ [⟨q.p.addWord x, v', q.a4, q.a5⟩]) := by
 obtain ⟨h1, h2, h3⟩ := h.parts;obtain ⟨n1, n2, n3⟩ := apt3 h1;refine h.swap hg (by simp [PVa.blks]) ⟨?_, h2.consts.kept hg (ne_sym n1), h2.ups.kept hg (ne_sym n2), h2.lines, h2.upNames, h2.name, h2.texts⟩ ?_ hst
 ·show w1.ownsRow B _ 1 v' (q.p.code.n + 1) (codeC (q.p.code.add x));rw [codeC_add];exact ho
 ·have := apt_swap (l1 := sv.ownBlock :: K.flatMap PVa.blks) (l2 := [q.a4.ownBlock, q.a5.ownBlock]) h1 h3 hat
  simpa [Apt, List.flatMap_append, PVa.blks] using this
theorem Mk.addConst {w w1 w2 : World} {B : Nat} {sv v' : Value} {K : List PVa} {q : PVa} {d : VD} (h : Mk w B sv (K ++ [q])) (hg : w.grownBy w1 q.a4.ownBlock)
  (ho : w1.ownsRow B 96 3 v' (q.p.consts.n + 1) (valC q.p.consts ++ [.int .i64 d.kind, .int .i64 d.num, .string d.text])) (hat : v'.ownBlock = q.a4.ownBlock ∨ ∃ k, v'.ownBlock = some k ∧ w.heap.size ≤ k) (ht : d.text.size ≤ 9223372036854775807)
  (hst : Stored w1 w2 B sv K q ⟨q.p.addConst d, q.a3, v', q.a5⟩) : Mk w2 B sv (K ++ [⟨q.p.addConst d, q.a3, v', q.a5⟩]) := by
 obtain ⟨h1, h2, h3⟩ := h.parts;obtain ⟨n1, n2, n3⟩ := apt3 h1;refine h.swap hg (by simp [PVa.blks]) ⟨h2.code.kept hg n1, ?_, h2.ups.kept hg (ne_sym n3), h2.lines, h2.upNames, h2.name, fun i hi => ?_⟩ ?_ hst
 ·show w1.ownsRow B _ 3 v' (q.p.consts.n + 1) (valC (q.p.consts.add d));rw [valC_add];exact ho
 ·show (if i < q.p.consts.n then q.p.consts.f i else d).text.size ≤ _;split
  ·exact h2.texts i (by assumption)
  ·exact ht
 ·have := apt_swap (l1 := (sv.ownBlock :: K.flatMap PVa.blks) ++ [q.a3.ownBlock]) (l2 := [q.a5.ownBlock]) (x := q.a4.ownBlock) (y := v'.ownBlock) (N := w.heap.size) (by simpa using h1) (fun k hk => h3 k (by simpa using hk)) hat
  simpa [Apt, List.flatMap_append, PVa.blks] using this
theorem Mk.addUp {w w1 w2 : World} {B : Nat} {sv v' : Value} {K : List PVa} {q : PVa} {u : UD} (h : Mk w B sv (K ++ [q])) (hg : w.grownBy w1 q.a5.ownBlock)
  (ho : w1.ownsRow B 99 2 v' (q.p.ups.n + 1) (upC q.p.ups ++ [.bool u.stack, .int .i64 u.index])) (hat : v'.ownBlock = q.a5.ownBlock ∨ ∃ k, v'.ownBlock = some k ∧ w.heap.size ≤ k)
  (hst : Stored w1 w2 B sv K q ⟨q.p.addUp u, q.a3, q.a4, v'⟩) : Mk w2 B sv (K ++ [⟨q.p.addUp u, q.a3, q.a4, v'⟩]) := by
 obtain ⟨h1, h2, h3⟩ := h.parts;obtain ⟨n1, n2, n3⟩ := apt3 h1;refine h.swap hg (by simp [PVa.blks]) ⟨h2.code.kept hg n2, h2.consts.kept hg n3, ?_, h2.lines, h2.upNames, h2.name, h2.texts⟩ ?_ hst
 ·show w1.ownsRow B _ 2 v' (q.p.ups.n + 1) (upC (q.p.ups.add u));rw [upC_add];exact ho
 ·have := apt_swap (l1 := (sv.ownBlock :: K.flatMap PVa.blks) ++ [q.a3.ownBlock, q.a4.ownBlock]) (l2 := []) (x := q.a5.ownBlock) (y := v'.ownBlock) (N := w.heap.size) (by simpa using h1) (fun k hk => h3 k (by simpa using hk)) hat
  simpa [Apt, List.flatMap_append, PVa.blks] using this
def LineTo (L : List PD) (s : ByteArray) (R : Option (List PD)) : Prop := ∃ w r, cutB 32 s = w :: r ∧ LStep L w r R
theorem LineTo.det {L : List PD} {s : ByteArray} {R S : Option (List PD)} (h : LineTo L s R) (k : LineTo L s S) : R = S := by
 obtain ⟨w, r, e, h⟩ := h;obtain ⟨w', r', e', k⟩ := k;rw [e] at e';simp only [List.cons.injEq] at e';obtain ⟨rfl, rfl⟩ := e';exact h.det k
inductive Steps : List PD → List ByteArray → List PD → Prop
 | nil {L} : Steps L [] L
 | cons {L s ls L1 L2} : LineTo L s (some L1) → Steps L1 ls L2 → Steps L (s :: ls) L2
theorem Steps.snoc : ∀ {ls : List ByteArray} {L L1 L2 : List PD} {s : ByteArray}, Steps L ls L1 → LineTo L1 s (some L2) → Steps L (ls ++ [s]) L2
 | [], _, _, _, _, .nil, h => .cons h .nil
 | _ :: _, _, _, _, _, .cons h1 h2, h => .cons h1 (h2.snoc h)
theorem Steps.det : ∀ {ls : List ByteArray} {L A B : List PD}, Steps L ls A → Steps L ls B → A = B
 | [], _, _, _, .nil, .nil => rfl
 | _ :: _, _, _, _, .cons h1 h2, .cons k1 k2 => by
  have := h1.det k1;simp only [Option.some.injEq] at this;subst this;exact h2.det k2
theorem Steps.split : ∀ {pre : List ByteArray} {post : List ByteArray} {L B : List PD}, Steps L (pre ++ post) B → ∃ A, Steps L pre A ∧ Steps A post B
 | [], _, _, _, h => ⟨_, .nil, h⟩
 | _ :: _, _, _, _, .cons h1 h2 => by
  obtain ⟨A, k1, k2⟩ := h2.split;exact ⟨A, .cons h1 k1, k2⟩
inductive AsmR (ls : List ByteArray) : Option (List PD) → Nat → Prop
 | good {L} : Steps [] ls L → AsmR ls (some L) 0
 | bad {pre s post L} : ls = pre ++ s :: post → Steps [] pre L → LineTo L s none → AsmR ls none pre.length
theorem no_both {pre post : List ByteArray} {s : ByteArray} {L M N : List PD} (h : Steps L (pre ++ s :: post) N) (h1 : Steps L pre M) (h2 : LineTo M s none) : False := by
 obtain ⟨A, k1, k2⟩ := h.split;obtain rfl := h1.det k1
 cases k2 with
 | cons k3 _ => exact absurd (h2.det k3) (by simp)
theorem AsmR.det {ls : List ByteArray} {A B : Option (List PD)} {i j : Nat} (h : AsmR ls A i) (k : AsmR ls B j) : A = B ∧ i = j := by
 cases h with
 | good h =>
  cases k with
  | good k => exact ⟨by rw [h.det k], rfl⟩
  | bad e k1 k2 => rw [e] at h; exact (no_both h k1 k2).elim
 | @bad p1 s1 t1 L1 e h1 h2 =>
  cases k with
  | good k => rw [e] at k; exact (no_both k h1 h2).elim
  | @bad p2 s2 t2 L2 e' k1 k2 =>
   refine ⟨rfl, ?_⟩;rw [e] at e';rcases Nat.lt_trichotomy p1.length p2.length with hl | hl | hl
   ·have hp : p1 ++ [s1] <+: p2 := by
     refine List.prefix_of_prefix_length_le (l₃ := p1 ++ s1 :: t1) ⟨t1, by simp⟩ ⟨s2 :: t2, e'.symm⟩ (by simp; omega)
    obtain ⟨x, hx⟩ := hp;rw [← hx, List.append_assoc, List.singleton_append] at k1;exact (no_both k1 h1 h2).elim
   ·exact hl
   ·have hp : p2 ++ [s2] <+: p1 := by
     refine List.prefix_of_prefix_length_le (l₃ := p1 ++ s1 :: t1) ⟨t2, by rw [e']; simp⟩ ⟨s1 :: t1, rfl⟩ (by simp; omega)
    obtain ⟨x, hx⟩ := hp;rw [← hx, List.append_assoc, List.singleton_append] at h1;exact (no_both h1 k1 k2).elim
def Few (n : Nat) (L : List PD) : Prop := L.length ≤ n ∧ ∀ p ∈ L, p.code.n ≤ n ∧ p.consts.n ≤ n ∧ p.ups.n ≤ n
theorem Few.nil (n : Nat) : Few n [] := ⟨by simp, by simp⟩
theorem headP_bare {r : List ByteArray} {p : PD} (h : headP r = some p) : p.code.n = 0 ∧ p.consts.n = 0 ∧ p.ups.n = 0 := by
 unfold headP at h;split at h
 ·split at h
  ·simp only [Option.some.injEq] at h; subst h; exact ⟨rfl, rfl, rfl⟩
  ·cases h
 ·split at h
  ·split at h
   ·simp only [Option.some.injEq] at h; subst h; exact ⟨rfl, rfl, rfl⟩
   ·cases h
  ·cases h
 ·cases h
theorem Few.last {n : Nat} {K : List PD} {p p' : PD} (h : Few n (K ++ [p])) (h1 : p'.code.n ≤ p.code.n + 1) (h2 : p'.consts.n ≤ p.consts.n + 1) (h3 : p'.ups.n ≤ p.ups.n + 1) : Few (n + 1) (K ++ [p']) := by
 refine ⟨by have := h.1; simp at this ⊢; omega, fun q hq => ?_⟩;rcases List.mem_append.1 hq with hq | hq
 ·have := h.2 q (List.mem_append_left _ hq); omega
 ·simp only [List.mem_cons, List.not_mem_nil, or_false] at hq;subst hq;have := h.2 p (by simp);omega
theorem LineTo.few {n : Nat} {L M : List PD} {s : ByteArray} (h : LineTo L s (some M)) (hf : Few n L) : Few (n + 1) M := by
 obtain ⟨w, r, e, h⟩ := h;generalize hR : some M = R at h
 cases h with
 | proto =>
  cases hh : headP r with
  | none => rw [hh] at hR; cases hR
  | some p =>
   rw [hh] at hR;simp only [Option.map_some, Option.some.injEq] at hR;subst hR;obtain ⟨h1, h2, h3⟩ := headP_bare hh;refine ⟨by have := hf.1; simp; omega, fun q hq => ?_⟩;rcases List.mem_append.1 hq with hq | hq
   ·have := hf.2 q hq; omega
   ·simp only [List.mem_cons, List.not_mem_nil, or_false] at hq;subst hq;omega
 | none _ => cases hR
 | const =>
  split at hR
  ·cases hh : constP r with
   | none => rw [hh] at hR; cases hR
   | some d =>
    rw [hh] at hR;simp only [Option.map_some, Option.some.injEq] at hR;subst hR;exact hf.last (Nat.le_succ _) (Nat.le_refl _) (Nat.le_succ _)
  ·cases hR
 | up =>
  split at hR
  ·cases hh : upP r with
   | none => rw [hh] at hR; cases hR
   | some d =>
    rw [hh] at hR;simp only [Option.map_some, Option.some.injEq] at hR;subst hR;exact hf.last (Nat.le_succ _) (Nat.le_succ _) (Nat.le_refl _)
  ·cases hR
 | @word K p w r R _ _ _ _ =>
  cases R with
  | none => cases hR
  | some d =>
   simp only [Option.map_some, Option.some.injEq] at hR;subst hR;exact hf.last (Nat.le_refl _) (Nat.le_succ _) (Nat.le_succ _)
theorem Steps.few : ∀ {ls : List ByteArray} {L M : List PD} {n : Nat}, Steps L ls M → Few n L → Few (n + ls.length) M
 | [], _, _, _, .nil, h => h
 | _ :: ls, _, _, n, .cons h1 h2, h => by
  have := h2.few (h1.few h);rw [List.length_cons, Nat.add_comm ls.length 1, ← Nat.add_assoc];exact this
def qa9 (s : ByteArray) : List ByteArray := if (cutB 10 s).getLast? = some ⟨#[]⟩ then (cutB 10 s).dropLast else cutB 10 s
inductive Rg (B : Nat) (sb : Option Nat) : Nat → List PVa → List (Nat × Nat) → Prop
 | nil {N} : B ≤ N → Rg B sb N [] []
 | snoc {N lo hi Q R q} : Rg B sb lo Q R → lo ≤ hi → hi ≤ N → (∀ k, some k ∈ q.blks → lo ≤ k ∧ k < hi) → (∀ g, sb = some g → g < lo ∨ hi ≤ g) → Rg B sb N (Q ++ [q]) (R ++ [(lo, hi)])
theorem Rg.up {B N M : Nat} {sb : Option Nat} {Q : List PVa} {R : List (Nat × Nat)} (h : Rg B sb N Q R) (hN : N ≤ M) : Rg B sb M Q R := by
 cases h with
 | nil h => exact .nil (by omega)
 | snoc h h1 h2 h3 h4 => exact .snoc h h1 (by omega) h3 h4
theorem Rg.turn {B N k : Nat} {sb : Option Nat} {Q : List PVa} {R : List (Nat × Nat)} (h : Rg B sb N Q R) (hk : N ≤ k) : Rg B (some k) N Q R := by
 induction h with
 | nil h => exact .nil h
 | snoc h h1 h2 h3 h4 ih => exact .snoc (ih (by omega)) h1 h2 h3 (fun g e => .inr (by cases e; omega))
theorem Rg.base {B N : Nat} {sb : Option Nat} {Q : List PVa} {R : List (Nat × Nat)} (h : Rg B sb N Q R) : B ≤ N := by
 induction h with
 | nil h => exact h
 | snoc h h1 h2 h3 h4 ih => omega
def Rgs (B N : Nat) (sb : Option Nat) (Q : List PVa) : Prop := (Q = [] ∧ B ≤ N) ∨ ∃ K q lo R, Q = K ++ [q] ∧ Rg B sb lo K R ∧ lo ≤ N ∧ (∀ k, some k ∈ q.blks → lo ≤ k ∧ k < N) ∧ ∀ g, sb = some g → g < lo
theorem Rgs.nil {B N : Nat} (sb : Option Nat) (h : B ≤ N) : Rgs B N sb [] := .inl ⟨rfl, h⟩
theorem Rgs.up {B N M : Nat} {sb : Option Nat} {Q : List PVa} (h : Rgs B N sb Q) (hN : N ≤ M) : Rgs B M sb Q := by
 rcases h with ⟨h, h1⟩ | ⟨K, q, lo, R, h1, h2, h3, h4, h5⟩
 ·exact .inl ⟨h, by omega⟩
 ·exact .inr ⟨K, q, lo, R, h1, h2, by omega, fun k hk => by have := h4 k hk; omega, h5⟩
theorem Rgs.shut {B N : Nat} {sb : Option Nat} {Q : List PVa} (h : Rgs B N sb Q) : ∃ R, Rg B sb N Q R := by
 rcases h with ⟨rfl, h1⟩ | ⟨K, q, lo, R, rfl, h2, h3, h4, h5⟩
 ·exact ⟨[], .nil h1⟩
 ·exact ⟨_, .snoc h2 h3 (Nat.le_refl _) h4 (fun g hg => .inl (h5 g hg))⟩
theorem Rgs.head {B N N' : Nat} {sb sb' : Option Nat} {Q : List PVa} {q : PVa} (h : Rgs B N sb Q) (hN : N ≤ N') (hq : ∀ x ∈ q.blks, x = none) (hs : sb' = sb ∨ ∃ k, sb' = some k ∧ N ≤ k) (hl : ∀ g, sb' = some g → g < N') : Rgs B N' sb' (Q ++ [q]) := by
 obtain ⟨R, hR⟩ := h.shut;refine .inr ⟨Q, q, N', R, rfl, ?_, Nat.le_refl _, fun k hk => absurd (hq _ hk) (by simp), hl⟩;rcases hs with rfl | ⟨k, rfl, hk⟩
 ·exact hR.up hN
 ·exact (hR.turn hk).up hN
theorem Rgs.last {B N N' : Nat} {sb : Option Nat} {K : List PVa} {q q' : PVa} (h : Rgs B N sb (K ++ [q])) (hN : N ≤ N') (hq : ∀ k, some k ∈ q'.blks → some k ∈ q.blks ∨ (N ≤ k ∧ k < N')) : Rgs B N' sb (K ++ [q']) := by
 rcases h with ⟨h, _⟩ | ⟨K', r, lo, R, e, h2, h3, h4, h5⟩
 ·simp at h
 ·obtain ⟨rfl, rfl⟩ := snoc_inj e;refine .inr ⟨K, q', lo, R, rfl, h2, by omega, fun k hk => ?_, h5⟩;rcases hq k hk with hk | hk
  ·have := h4 k hk; omega
  ·omega
end Go.Proofs.YtplijnfaiofckaaGreatDoor
namespace Go.Proofs.YtplijnfaiofckaaGreatDoor
open Go.RowKit Go.Shelf
set_option linter.unusedVariables false
set_option linter.unusedSimpArgs false
set_option maxRecDepth 100000
set_option maxHeartbeats 9000000
theorem cutL_len (b : UInt8) : ∀ l, (cutL b l).length ≤ l.length + 1
 | [] => by simp [cutL]
 | c :: r => by
  have ih := cutL_len b r;unfold cutL;split
  ·simp; omega
  ·split
   ·simp
   ·rename_i h t e;rw [e] at ih;simp at ih ⊢;omega
theorem cutL_mem (b : UInt8) : ∀ l, ∀ x ∈ cutL b l, x.length ≤ l.length
 | [], x, h => by simp [cutL] at h; subst h; simp
 | c :: r, x, h => by
  have ih := cutL_mem b r;unfold cutL at h;split at h
  ·rcases List.mem_cons.1 h with rfl | h
   ·simp
   ·have := ih x h; simp; omega
  ·split at h
   ·simp at h; subst h; simp
   ·rename_i hh t e;rcases List.mem_cons.1 h with rfl | h
    ·have := ih hh (by rw [e]; simp); simp; omega
    ·have := ih x (by rw [e]; simp [h]); simp; omega
theorem cutB_len (b : UInt8) (s : ByteArray) : (cutB b s).length ≤ s.size + 1 := by
 unfold cutB;rw [List.length_map];have := cutL_len b s.data.toList;rw [Array.length_toList] at this;exact this
theorem cutB_mem (b : UInt8) (s : ByteArray) : ∀ x ∈ cutB b s, x.size ≤ s.size := by
 intro x hx;unfold cutB at hx;obtain ⟨l, hl, rfl⟩ := List.mem_map.1 hx;have := cutL_mem b _ l hl;rw [Array.length_toList] at this;show l.toArray.size ≤ s.data.size
 simpa using this
theorem unhexL_len : ∀ (l : List UInt8) (m : List UInt8), unhexL l = some m → m.length ≤ l.length
 | [], m, h => by simp [unhexL] at h; subst h; simp
 | [_], m, h => by simp [unhexL] at h
 | a :: b :: r, m, h => by
  unfold unhexL at h;split at h
  ·cases h
  ·cases hr : unhexL r with
   | none => rw [hr] at h; cases h
   | some t =>
    rw [hr] at h;simp at h;subst h;have := unhexL_len r t hr;simp; omega
theorem constP_text {r : List ByteArray} {d : VD} {N : Nat} (h : constP r = some d) (hz : ∀ x ∈ r, x.size ≤ N) : d.text.size ≤ N := by
 unfold constP at h;split at h
 ·split at h
  ·cases h; exact Nat.zero_le _
  ·split at h
   ·cases h; exact Nat.zero_le _
   ·split at h
    ·cases h; exact Nat.zero_le _
    ·cases h
 ·rename_i p q;split at h
  ·cases hd : decOf q with
   | none => rw [hd] at h; cases h
   | some n => rw [hd] at h; cases h; exact Nat.zero_le _
  ·split at h
   ·cases hd : qd1 q with
    | none => rw [hd] at h; cases h
    | some t =>
     rw [hd] at h
     cases h
     unfold qd1 at hd
     cases hu : unhexL q.data.toList with
     | none => rw [hu] at hd; cases hd
     | some m =>
      rw [hu] at hd
      cases hd
      have h1 := unhexL_len _ m hu;have h2 := hz q (by simp);rw [Array.length_toList] at h1;have : m.toArray.size ≤ N := by simp; exact Nat.le_trans h1 h2
      exact this
   ·cases h
 ·cases h
theorem Mk.lastRange {w : World} {B : Nat} {K : List PVa} {q : PVa} {g cap : Nat} (h : Mk w B (.slice (some ⟨g, 0, none⟩) (K.length + 1) cap) (K ++ [q])) : w.rangeAt g (K.length * 10) q.cells := fun j v hj => by
 have hr := h.row;have hl : (K ++ [q]).length = K.length + 1 := by simp
 rw [hl] at hr;have hjl : j < 10 := (List.getElem?_eq_some_iff.1 hj).1;rw [hr.cellAt (K.length * 10 + j) (by rw [Nat.add_mul]; omega), List.flatMap_append, List.getElem?_append_right (by rw [len_flat]; omega), len_flat, Nat.add_sub_cancel_left]
 simpa using hj
theorem Mk.form {w : World} {B : Nat} {sv : Value} {K : List PVa} {q : PVa} (h : Mk w B sv (K ++ [q])) : ∃ g cap, sv = .slice (some ⟨g, 0, none⟩) (K.length + 1) cap ∧ g < w.heap.size ∧ B ≤ g ∧ K.length + 1 ≤ cap := by
 rcases h.row.2 with ⟨hv, hz⟩ | ⟨g, cap, cur, hv, hb, hg, hc, _⟩
 ·simp at hz
 ·exact ⟨g, cap, by rw [hv]; simp, (Array.getElem?_eq_some_iff.1 hg).1, hb, by simpa using hc⟩
theorem Mk.keepB {w w' : World} {B : Nat} {sv : Value} {Q : List PVa} (h : Mk w B sv Q) (hk : ∀ k, some k ∈ sv.ownBlock :: Q.flatMap PVa.blks → w'.heap[k]? = w.heap[k]?) : Mk w' B sv Q :=
 ⟨qc0 h.row fun k e => hk k (by rw [e]; exact List.mem_cons_self ..), fun q hq => (h.each q hq).keep fun k e => hk k (List.mem_cons_of_mem _ (List.mem_flatMap.2 ⟨q, hq, e⟩)), h.apart⟩
end Go.Proofs.YtplijnfaiofckaaGreatDoor

import Derived.Deep.AppendLies
import Derived.Test.YtplijnfaiofckaaGreatDoorGl
namespace Go.Proofs.YtplijnfaiofckaaGreatDoor
open Go.RowKit Go.Shelf
set_option linter.unusedVariables false
set_option linter.unusedSimpArgs false

section
variable {P : Program} {ops : Array Oper} {Q : Exit → Act → World → Prop} {md : Region.Mode} {S : World → Prop} {l n : Nat}

theorem oper_round {o : Oper} {a : Act} {w : World} {K : Act → World → Prop} (hd : ∀ c, o.op ≠ .defer c) (h : o.wp P a w K Q) : o.wpIn (Fence.wide.inRound l) n P a w K Q := by
 refine ⟨fun _ _ => trivial, ?_⟩;rw [Oper.semAt_plain _ _ _ hd];unfold Oper.wp at h;generalize (execOp a.eval o).run P w = r at h ⊢
 cases r with
 | ok x w' =>
  cases x with
  | value v => exact h
  | skip => exact h
  | defer d => exact h
  | enter f args => exact ⟨fun hx => (by cases hx), CallsIn.inRound l (callsIn_wide.2 h)⟩
  | row row args => exact ⟨fun hx => (by cases hx), fun c cs _ => let ⟨v, w', q, s⟩ := h c cs; ⟨v, w', q, stepsIn_wide.2 s⟩⟩
  | _ => exact (h : False).elim
 | halt x w' =>
  cases x with
  | panic v => exact h
  | _ => exact (h : False).elim
theorem any_round (hd : ∀ (i : Nat) (o : Oper), ops[i]? = some o → ∀ c, o.op ≠ .defer c) (hL : ¬ LetsOut Q) :
  ∀ (fuel : Nat) (listed : Array Bool) (a : Act) (w : World), wpAny P md ops Q fuel listed a w → wpAnyIn (Fence.wide.inRound l) n P md ops Q fuel listed a w := by
 intro fuel
 induction fuel with
 | zero => intro listed a w h; exact h
 | succ fuel ih =>
  intro listed a w h;refine ⟨h.1, fun i hi => ?_⟩;have h2 := h.2 i hi;unfold wpOp at h2;unfold wpOpIn
  cases ho : ops[i]? with
  | none =>
   rw [ho] at h2;exact ih _ _ _ h2
  | some o =>
   rw [ho] at h2;dsimp only at h2 ⊢;split
   ·rename_i hw;rw [if_pos hw] at h2;rcases h2 with h2 | ⟨_, h2⟩
    ·exact Oper.wpIn_mono (fun a w h => ih _ a w h) (oper_round (hd i o ho) h2)
    ·exact absurd h2 hL
   ·rename_i hw;rw [if_neg hw] at h2;exact ⟨fun _ _ => trivial, ih _ _ _ h2⟩
theorem qb9 {id : Nat} {a : Act} {w : World} (hm : P.follows .mixedOrders = true) (hd : ∀ (i : Nat) (o : Oper), ops[i]? = some o → ∀ c, o.op ≠ .defer c) (hL : ¬ LetsOut Q) (hS : S w.drew)
  (h : S w.drew → wpAnyH P .any ops Q S ops.size (Array.replicate ops.size false) a w.drew) : (Code.region id ops true).wpIn (Fence.wide.inRound l) n P Q a w :=
 wpIn_region_any hm (any_round hd hL _ _ _ _ (wpAny_of_held _ _ _ _ (h hS)))
end
structure StepO (O : Nat → Prop) (A C : World) : Prop where
 os : C.os = A.os
 tape : C.tape = A.tape
 output : C.output = A.output
 size : A.heap.size ≤ C.heap.size
 block : ∀ b, b < A.heap.size → ¬ O b → C.heap[b]? = A.heap[b]?
theorem StepO.of_below {O : Nat → Prop} {A C : World} (h : Below A.heap.size A C) : StepO O A C := ⟨h.os, h.tape, h.output, h.size, fun b hb _ => h.block b hb⟩
structure KeepO (O : Nat → Prop) (lo : Nat) (W W' : World) : Prop where
 size : W.heap.size ≤ W'.heap.size
 block : ∀ b, O b ∨ b < lo → b < W.heap.size → W'.heap[b]? = W.heap[b]?
def moreO (O : Nat → Prop) (A C : World) : Nat → Prop := fun b => O b ∨ (A.heap.size ≤ b ∧ b < C.heap.size)
def AbideO {β : Type} (J : (Nat → Prop) → β → World → Prop) : Prop := ∀ O s A C, J O s A → StepO O A C → J (moreO O A C) s C

def SeqO {α : Type} (m : Nat) (P : Program) (gf : Nat) (lb : Array Value) (encs : α → Array Value) (lo l : Nat) (S Sp : List α → Prop) (N : Nat) (W : World) : Prop :=
 ∀ (J Jx : (Nat → Prop) → List α → World → Prop), AbideO J → AbideO Jx →
  (∀ O pre x W1, J O pre W1 → pre.length < N → YieldAt Fence.wide (m - 1) P l (encs x) W1 fun e W' =>
   (e = .returned (.bool true) ∧ J O (pre ++ [x]) W' ∧ KeepO O lo W1 W') ∨ (e = .returned (.bool false) ∧ Jx O (pre ++ [x]) W')) →
  J (fun _ => False) [] W →
  CallsIn Fence.wide m P gf (#[.func (.yield l) #[] #[]] ++ lb) W fun e W' => (∃ v, e = .returned v) ∧ ((∃ xs O, S xs ∧ J O xs W') ∨ (∃ pre O, Sp pre ∧ Jx O pre W'))

structure GrowU (U U' : Nat → Prop) (W W' : World) : Prop where
 size : W.heap.size ≤ W'.heap.size
 block : ∀ b, b < W.heap.size → ¬ U b → W'.heap[b]? = W.heap[b]?
 foot : ∀ b, U' b → U b ∨ W.heap.size ≤ b
def FootU {β : Type} (lo : Nat) (I : β → (Nat → Prop) → World → Prop) : Prop :=
 ∀ s U A C, I s U A → C.os = A.os → C.tape = A.tape → C.output = A.output → A.heap.size ≤ C.heap.size → (∀ b, U b → C.heap[b]? = A.heap[b]?) → (∀ b, b < lo → C.heap[b]? = A.heap[b]?) → I s U C
def RoundU {α : Type} (I : List α → (Nat → Prop) → World → Prop) (Ix : Code → List α → (Nat → Prop) → World → Prop) (xs : List α) (U : Nat → Prop) (W : World) : Exit → Act → World → Prop
 | .normal, _, W' => ∃ U', GrowU U U' W W' ∧ I xs U' W'
 | .ret, _, W' => ∃ U', GrowU U U' W W' ∧ Ix .ret xs U' W'
 | .exit id, _, W' => ∃ U', GrowU U U' W W' ∧ Ix (.exit id) xs U' W'
 | .goto t, _, W' => ∃ U', GrowU U U' W W' ∧ Ix (.goto t) xs U' W'
 | .panic _, _, _ => False
 | .outgrown, _, _ => False

theorem range_lawO {α : Type} {P : Program} {m : Nat} {g : Operand} {ps : Array Tmp} {assign body : Code} {Q : Exit → Act → World → Prop} {a : Act} {w : World}
  {gf : Nat} {lb : Array Value} (hg : a.eval g = .func (.func gf) #[] lb) (eg : ∀ args w, (callFunc gf args).run P w = .ok (.enter gf args) w) (h1 : 1 ≤ m)
  {encs : α → Array Value} (hps : ∀ x, (encs x).size = ps.size) {lo N : Nat} (hlo : lo ≤ w.heap.size) {S Sp : List α → Prop}
  (I : List α → (Nat → Prop) → World → Prop) (Ix : Code → List α → (Nat → Prop) → World → Prop) (hI : FootU lo I) (hIx : ∀ c, FootU lo (Ix c))
  (hIu : ∀ s U A, I s U A → ∀ b, U b → lo ≤ b ∧ b < A.heap.size ∧ (b < w.heap.size ∨ w.heap.size + 2 ≤ b)) (hXu : ∀ c s U A, Ix c s U A → ∀ b, U b → b < A.heap.size ∧ (b < w.heap.size ∨ w.heap.size + 2 ≤ b))
  (h0 : ∃ U, I [] U w)
  (hseq : ∀ W, W.heap.size = w.heap.size + 2 → Below w.heap.size w W → SeqO (m - 1) P gf lb encs lo (w.heap.size + 1) S Sp N W)
  (Ax : α → Act → World → Prop) (hAx : ∀ x a' W o, Ax x a' W → Ax x a' (W.putObj (w.heap.size + 1) o))
  (hassign : ∀ (l : Nat) (pre : List α) (x : α) (W : World) (K : Act → World → Prop), w.heap.size + 2 ≤ W.heap.size →
   (∀ a' W', Below W.heap.size W W' → Ax x a' W' → K a' W') →
   assign.wpIn (Fence.wide.inRound l) (m - 1 - 1) P (Exit.then K (fun _ _ _ => False)) { tmps := (ps.zip (encs x)).foldl (fun t (p, v) => t.setIfInBounds p v) a.tmps, defers := [] } W)
  (hbody : ∀ (l : Nat) (pre : List α) (x : α) (a' : Act) (U : Nat → Prop) (W : World), w.heap.size + 2 ≤ W.heap.size → I pre U W → Ax x a' W → pre.length < N →
   body.wpIn (Fence.wide.inRound l) (m - 1 - 1) P (RoundU I Ix (pre ++ [x]) U W) a' W)
  (hdone : ∀ (D : Nat) (xs : List α) (U : Nat → Prop) (W : World), w.heap.size = D → S xs → I xs U W → W.heap[D]? = some (.deferred (some [])) → Q .normal { a with defers := { target := .collected D, args := #[] } :: a.defers } W)
  (hstop : ∀ (D : Nat) (c : Code) (pre : List α) (U : Nat → Prop) (W : World), w.heap.size = D → Sp pre → Ix c pre U W → W.heap[D]? = some (.deferred (some [])) →
   c.wpIn Fence.wide m P Q { a with defers := { target := .collected D, args := #[] } :: a.defers } W) :
  (Code.rangeFunc g ps assign body).wpIn Fence.wide m P Q a w := by
 refine wpIn_rangeFunc fun fn hfn => ?_
 let R : LoopState → Option Code → Loop := fun st pe => { state := st, pending := pe, fn := fn, tmps := a.tmps, params := ps, assign := assign, body := body, defers := w.heap.size }
 let W0 : World := (w.alloc (.deferred (some []))).alloc (.loop (R .ready none))
 have sz0 : W0.heap.size = w.heap.size + 2 := by simp [W0]
 have bel0 : Below w.heap.size w W0 := ((Below.refl _ w).alloc (Nat.le_refl _) _).alloc (by simp) _;have hD0 : W0.heap[w.heap.size]? = some (.deferred (some [])) := (Below.heap_alloc _ _ _ (by simp)).trans (World.alloc_heap_new w _)
 have hL0 : W0.heap[w.heap.size + 1]? = some (.loop (R .ready none)) := by
  have := World.alloc_heap_new (w.alloc (.deferred (some []))) (.loop (R .ready none))
  rwa [World.size_alloc] at this
 refine ⟨w.heap.size + 1, [{ target := .collected w.heap.size, args := #[] }], W0, { target := .fn (.func gf) lb, args := #[.func (.yield (w.heap.size + 1)) #[] #[]] }, W0, gf,
  #[.func (.yield (w.heap.size + 1)) #[] #[]] ++ lb, W0, run_enterLoop_outer _ _ _ _ _, ?_, fun _ _ => trivial, ?_, fun _ => h1, ?_⟩
 ·simp only [resolve, hg];simp [go_sem]
 ·simp [invoke, go_sem, eg]
 -- a turn of the loop's record leaves the caller's word alone
 have putI : ∀ {β : Type} {I' : β → (Nat → Prop) → World → Prop} (_ : FootU lo I') (s : β) (U : Nat → Prop) (A : World) (o : Obj), (∀ b, U b → b ≠ w.heap.size + 1) → w.heap.size + 1 < A.heap.size → I' s U A → I' s U (A.putObj (w.heap.size + 1) o) :=
  fun hI' s U A o hu hl hi => hI' s U A _ hi rfl rfl rfl (by simp) (fun b hb => World.putObj_heap_other (hu b hb)) (fun b hb => World.putObj_heap_other (by omega))
 have key := hseq W0 sz0 bel0
  (fun O pre W => ∃ U, I pre U W ∧ w.heap.size + 2 ≤ W.heap.size ∧ W.heap[w.heap.size + 1]? = some (.loop (R .ready none)) ∧ W.heap[w.heap.size]? = some (.deferred (some [])) ∧ (∀ b, O b → ¬ U b ∧ w.heap.size + 2 ≤ b ∧ b < W.heap.size))
  (fun O pre W => ∃ c U, Ix c pre U W ∧ w.heap.size + 2 ≤ W.heap.size ∧ W.heap[w.heap.size + 1]? = some (.loop (R .done (some c))) ∧ W.heap[w.heap.size]? = some (.deferred (some [])) ∧ (∀ b, O b → ¬ U b ∧ w.heap.size + 2 ≤ b ∧ b < W.heap.size))
  (fun O s A C hs hb => by
   obtain ⟨U, hi, h2, h3, h4, h5⟩ := hs;have hu := hIu s U A hi
   refine ⟨U, hI s U A C hi hb.os hb.tape hb.output hb.size (fun b hub => hb.block b (hu b hub).2.1 (fun ho => (h5 b ho).1 hub)) (fun b hlt => hb.block b (by omega) (fun ho => by have := (h5 b ho).2.1; omega)), Nat.le_trans h2 hb.size,
    (hb.block _ (by omega) (fun ho => by have := (h5 _ ho).2.1; omega)).trans h3, (hb.block _ (by omega) (fun ho => by have := (h5 _ ho).2.1; omega)).trans h4, fun b ho => ?_⟩
   rcases ho with ho | ho
   ·exact ⟨(h5 b ho).1, (h5 b ho).2.1, Nat.lt_of_lt_of_le (h5 b ho).2.2 hb.size⟩
   ·exact ⟨fun hub => by have := (hu b hub).2.1; omega, by omega, ho.2⟩)
  (fun O s A C hs hb => by
   obtain ⟨c, U, hi, h2, h3, h4, h5⟩ := hs;have hu := hXu c s U A hi
   refine ⟨c, U, hIx c s U A C hi hb.os hb.tape hb.output hb.size (fun b hub => hb.block b (hu b hub).1 (fun ho => (h5 b ho).1 hub)) (fun b hlt => hb.block b (by omega) (fun ho => by have := (h5 b ho).2.1; omega)), Nat.le_trans h2 hb.size,
    (hb.block _ (by omega) (fun ho => by have := (h5 _ ho).2.1; omega)).trans h3, (hb.block _ (by omega) (fun ho => by have := (h5 _ ho).2.1; omega)).trans h4, fun b ho => ?_⟩
   rcases ho with ho | ho
   ·exact ⟨(h5 b ho).1, (h5 b ho).2.1, Nat.lt_of_lt_of_le (h5 b ho).2.2 hb.size⟩
   ·exact ⟨fun hub => by have := (hu b hub).1; omega, by omega, ho.2⟩)
  ?_ ?_
 ·refine key.mono ?_;rintro e W2 ⟨⟨v, rfl⟩, (⟨xs, O, hS, U, hi, hsz, hl, hk, _⟩ | ⟨pre, O, hSp, c, U, hi, hsz, hl, hk, _⟩)⟩
  ·refine ⟨none, _, run_endLoop (P := P) hl (by simp [R]), ?_⟩;exact hdone _ xs U _ rfl hS (putI hI xs U W2 _ (fun b hb => by have := (hIu xs U W2 hi b hb).2.2; omega) (by omega) hi) ((World.putObj_heap_other (by omega)).trans hk)
  ·refine ⟨some c, _, run_endLoop (P := P) hl (by simp [R]), ?_⟩;exact hstop _ c pre U _ rfl hSp (putI (hIx c) pre U W2 _ (fun b hb => by have := (hXu c pre U W2 hi b hb).2; omega) (by omega) hi) ((World.putObj_heap_other (by omega)).trans hk)
 ·rintro O pre x W ⟨U, hi, hsz, hl, hk, hO⟩ hlen;refine ⟨fn, _, assign, body, run_yield (P := P) (args := encs x) hl (hps x), roundIn_of_wpIn hfn (hassign _ pre x W _ hsz ?_)⟩;intro a' Wa ba ax;have hu := hIu pre U W hi;have ia : I pre U Wa := hI pre U W Wa hi ba.os ba.tape ba.output ba.size (fun b hb => ba.block b (hu b hb).2.1) (fun b hb => ba.block b (by omega));have la := (ba.block _ (by omega)).trans hl;have da := (ba.block _ (by omega)).trans hk;have sa : w.heap.size + 2 ≤ Wa.heap.size := Nat.le_trans hsz ba.size;refine ⟨_, run_beginRound la rfl, ?_⟩;have hub : ∀ b, U b → b ≠ w.heap.size + 1 := fun b hb => by have := (hu b hb).2.2; omega
  have lb' : (Wa.putObj (w.heap.size + 1) (.loop { R .ready none with state := .busy })).heap[w.heap.size + 1]? = some (.loop { R .ready none with state := .busy }) := World.putObj_heap_same (by omega);have db : (Wa.putObj (w.heap.size + 1) (.loop { R .ready none with state := .busy })).heap[w.heap.size]? = some (.deferred (some [])) := (World.putObj_heap_other (by omega)).trans da;have ib := putI hI pre U Wa (.loop { R .ready none with state := .busy }) hub (by omega) ia;have szb : (Wa.putObj (w.heap.size + 1) (.loop { R .ready none with state := .busy })).heap.size = Wa.heap.size := by simp
  refine wpIn_mono (hbody _ pre x a' U _ (by simpa using sa) ib (hAx x a' Wa _ ax) hlen) ?_;intro e a3 W3 hp
  have fin : ∀ (jump : Option Code) (U' : Nat → Prop), GrowU U U' (Wa.putObj (w.heap.size + 1) (.loop { R .ready none with state := .busy })) W3 → (∀ b, U' b → b < W3.heap.size ∧ (b < w.heap.size ∨ w.heap.size + 2 ≤ b)) →
    ∃ W4, W4 = W3.putObj (w.heap.size + 1) (.loop (R (if jump.isNone then .ready else .done) jump)) ∧ (Instr.endRound (w.heap.size + 1) jump).run P W3 = .ok (.bool jump.isNone) W4 ∧ w.heap.size + 2 ≤ W4.heap.size ∧
     W4.heap[w.heap.size + 1]? = some (.loop (R (if jump.isNone then .ready else .done) jump)) ∧ W4.heap[w.heap.size]? = some (.deferred (some [])) ∧ (∀ b, O b → ¬ U' b ∧ w.heap.size + 2 ≤ b ∧ b < W4.heap.size) ∧ KeepO O lo W W4 := by
   intro jump U' k3 hu';have s3 : Wa.heap.size ≤ W3.heap.size := by have := k3.size; omega
   have hrec : ∀ b, b < Wa.heap.size → ¬ U b → b ≠ w.heap.size + 1 → W3.heap[b]? = Wa.heap[b]? := fun b h1 h2 h3 => (k3.block b (by omega) h2).trans (World.putObj_heap_other h3);have l3 := (k3.block (w.heap.size + 1) (by omega) (fun hb => hub _ hb rfl)).trans lb';have d3 := (k3.block w.heap.size (by omega) (fun hb => by have := (hu _ hb).2.2; omega)).trans db;have s4 : (W3.putObj (w.heap.size + 1) (.loop (R (if jump.isNone then .ready else .done) jump))).heap.size = W3.heap.size := by simp
   refine ⟨_, rfl, run_endRound (P := P) jump l3, by omega, World.putObj_heap_same (by omega), (World.putObj_heap_other (by omega)).trans d3, fun b hb => ?_, ⟨?_, fun b hb hlt => ?_⟩⟩
   ·have h := hO b hb;refine ⟨fun hub' => ?_, h.2.1, ?_⟩
    ·rcases k3.foot b hub' with h' | h'
     ·exact h.1 h'
     ·have := ba.size;omega
    ·have := ba.size;omega
   ·have := ba.size;omega
   ·have hnu : ¬ U b := fun hub' => by
     rcases hb with hb | hb
     ·exact (hO b hb).1 hub'
     ·have := (hu b hub').1;omega
    have hne : b ≠ w.heap.size + 1 := by
     rcases hb with hb | hb
     ·have := (hO b hb).2.1;omega
     ·omega
    rw [World.putObj_heap_other hne, hrec b (by have := ba.size; omega) hnu hne, ba.block b hlt]
  cases e with
  | normal =>
   obtain ⟨U', k3, i3⟩ := hp;obtain ⟨W4, rfl, r4, s4, l4, d4, o4, k4⟩ := fin none U' k3 (fun b hb => (hIu _ U' W3 i3 b hb).2);exact ⟨_, _, r4, .inl ⟨rfl, ⟨U', putI hI _ U' W3 _ (fun b hb => by have := (hIu _ U' W3 i3 b hb).2.2; omega) (by have h := s4; simp at h; omega) i3, s4, l4, d4, o4⟩, k4⟩⟩
  | ret =>
   obtain ⟨U', k3, i3⟩ := hp;obtain ⟨W4, rfl, r4, s4, l4, d4, o4, k4⟩ := fin (some .ret) U' k3 (fun b hb => hXu _ _ U' W3 i3 b hb);exact ⟨_, _, r4, .inr ⟨rfl, _, U', putI (hIx _) _ U' W3 _ (fun b hb => by have := (hXu _ _ U' W3 i3 b hb).2; omega) (by have h := s4; simp at h; omega) i3, s4, l4, d4, o4⟩⟩
  | exit id =>
   obtain ⟨U', k3, i3⟩ := hp;obtain ⟨W4, rfl, r4, s4, l4, d4, o4, k4⟩ := fin (some (.exit id)) U' k3 (fun b hb => hXu _ _ U' W3 i3 b hb);exact ⟨_, _, r4, .inr ⟨rfl, _, U', putI (hIx _) _ U' W3 _ (fun b hb => by have := (hXu _ _ U' W3 i3 b hb).2; omega) (by have h := s4; simp at h; omega) i3, s4, l4, d4, o4⟩⟩
  | goto t =>
   obtain ⟨U', k3, i3⟩ := hp;obtain ⟨W4, rfl, r4, s4, l4, d4, o4, k4⟩ := fin (some (.goto t)) U' k3 (fun b hb => hXu _ _ U' W3 i3 b hb);exact ⟨_, _, r4, .inr ⟨rfl, _, U', putI (hIx _) _ U' W3 _ (fun b hb => by have := (hXu _ _ U' W3 i3 b hb).2; omega) (by have h := s4; simp at h; omega) i3, s4, l4, d4, o4⟩⟩
  | panic ch => exact hp.elim
  | outgrown => exact hp.elim
 ·obtain ⟨U, hi⟩ := h0;have hu := hIu [] U w hi;exact ⟨U, hI [] U w W0 hi bel0.os bel0.tape bel0.output bel0.size (fun b hb => bel0.block b (hu b hb).2.1) (fun b hb => bel0.block b (by omega)), by omega, hL0, hD0, fun b hb => hb.elim⟩
end Go.Proofs.YtplijnfaiofckaaGreatDoor
namespace Go.Proofs.YtplijnfaiofckaaGreatDoor
open Go.RowKit Go.Shelf
set_option linter.unusedVariables false
set_option linter.unusedSimpArgs false
set_option maxRecDepth 100000
set_option maxHeartbeats 9000000
attribute [local go_sem] Oper.semAt_some

theorem qh0 {F : Fence} {n : Nat} {P : Program} (w : World) {ops : Array Oper} {rest : List Oper} {o : Oper} {a : Act} {Q : Exit → Act → World → Prop}
  (hg : o.guard = none) (s x : Operand) (t : TypeId) (hop : o.op = Op.call { callee := Callee.builtin Builtin.append, args := #[s, x], argTypes := #[t, t] })
  (base : Nat) (e : TypeId) (i : TypeInfo) (z : Value) (size bytes : Nat) (h1 : P.underlying t = some (.slice e)) (h2 : P.info? e = some i) (h3 : i.zero = some z) (h4 : i.size = size) (h5 : i.bytes = bytes) (h6 : z.cells.size = size) (h7 : 0 < size)
  (v : Value) (k : Nat) (xs : List Value) (hs : a.eval s = v) (hown : w.ownsRow base e size v k xs) (ad : Addr) (m c : Nat) (news : List Value) (hx : a.eval x = .slice (some ad) m c) (hn : news.length = m * size)
  (hc : ∀ j u, news[j]? = some u → w.cell? (ad.add j) = some u) (h1c : ∀ u ∈ news, u.oneCell' = true) (hm : 0 < m) (b1 : k + m ≤ maxLen) (b2 : (k + m) * bytes ≤ 140737488355328) (b3 : base ≤ w.heap.size)
  (hK : ∀ g cap w', w'.ownsRow base e size (.slice (some ⟨g, 0, none⟩) (k + m) cap) (k + m) (xs ++ news) → w.grownBy w' v.ownBlock → (v.ownBlock = some g ∨ g = w.heap.size) → wpListIn F n P ops Q rest (a.put o.dst (.slice (some ⟨g, 0, none⟩) (k + m) cap)) w') :
  wpListIn F n P ops Q (o :: rest) a w := by
 refine wpListIn_plain hg fun K hK' => ?_;obtain ⟨g, cap, w', hrun, r1, r2, r3, _⟩ := run_append_lies (P := P) w t o.type base e i z size bytes h1 h2 h3 h4 h5 h6 h7 v k xs hown ad m c news hn hc h1c hm b1 b2 b3 _ rfl;refine ⟨?_, ?_⟩
 ·simp [Oper.about, hop, resolve, Target.leads, Sem.run_pure]
 ·rw [Oper.semAt_plain F _ _ (by rw [hop]; intro c hc'; cases hc')];simp [execOp, hop, resolve, invoke, builtin, hs, hx, hrun, Result.andThen];exact hK' _ _ (hK g cap w' r1 r2 r3)
theorem appendedO {n k L B : Nat} {O : Nat → Prop} {E : Nat → Nat} {s : List Nat} {J : (Nat → Prop) → List (Fin n) → World → Prop} {W3 w4 : World} {g cap' : Nat} {ao : Option Addr} {cap : Nat} {o : Obj} (hst : st E (k + 1) = E k :: s) (hL : s.length = L)
  (hown' : w4.ownsRow (B + 1) 3 1 (.slice (some ⟨g, 0, none⟩) (L + 1) cap') (L + 1) (s.reverse.map iv ++ [.int .i64 (E k : Int)])) (hgrow : (W3.alloc o).grownBy w4 (Value.slice ao L cap).ownBlock) (hat : (Value.slice ao L cap).ownBlock = some g ∨ g = (W3.alloc o).heap.size) (hs3 : B < W3.heap.size) (hJ : AbideO J)
  (hJ3 : J O (List.take (k + 1) (List.finRange n)) W3) (hrow : W3.rowIs B 3 n (fun j => .int .i64 (E j : Int))) (hOB : O B) (hao : ∀ a, ao = some a → B + 1 ≤ a.block ∧ O a.block) :
  Hid (∃ O', J O' (List.take (k + 1) (List.finRange n)) w4 ∧ w4.ownsRow (B + 1) 3 1 (.slice (some ⟨g, 0, none⟩) (st E (k + 1)).length cap') (st E (k + 1)).length ((st E (k + 1)).reverse.map iv) ∧ w4.rowIs B 3 n (fun j => .int .i64 (E j : Int)) ∧ O' B ∧ (∀ a, some (⟨g, 0, none⟩ : Addr) = some a → O' a.block)) := by
 have hlen : (st E (k + 1)).length = L + 1 := by rw [hst]; simp [hL]
 have hsz : (W3.alloc o).heap.size = W3.heap.size + 1 := by simp
 have hg := hgrow.size
 have hne : ∀ b, ¬ O b → some b ≠ (Value.slice ao L cap).ownBlock := fun b hb e => by
  cases ao with
  | none => cases e
  | some a => cases e; exact hb (hao a rfl).2
 have hstep : StepO O W3 w4 := ⟨hgrow.os, hgrow.tape, hgrow.output, by omega, fun b hb ho => (hgrow.block b (by omega) (hne b ho)).trans (Below.heap_alloc _ _ _ hb)⟩;refine ⟨_, hJ _ _ _ _ hJ3 hstep, ?_, ?_, .inl hOB, fun a ha => ?_⟩
 ·rw [hlen, hst]
  simpa [iv] using hown'
 ·refine hrow.of_block ?_;rw [hgrow.block B (by omega) (fun e => ?_), Below.heap_alloc _ _ _ hs3]
  cases ao with
  | none => cases e
  | some a =>
   cases e
   have := (hao a rfl).1;omega
 ·cases ha
  rcases hat with hat | hat
  ·cases ao with
   | none => cases hat
   | some a => cases hat; exact .inl (hao a rfl).2
  ·refine .inr ⟨by show W3.heap.size ≤ g; omega, ?_⟩;have := (hown'.lt g rfl).2;exact this
theorem ownsRow_keepO {w w' : World} {base : Nat} {ao : Option Addr} {n cap : Nat} {xs : List Value} (h : w.ownsRow base 3 1 (.slice ao n cap) n xs) (hk : ∀ b, ao = some b → b.block < w.heap.size → w'.heap[b.block]? = w.heap[b.block]?) : w'.ownsRow base 3 1 (.slice ao n cap) n xs := by
 obtain ⟨h1, h2⟩ := h;refine ⟨h1, ?_⟩;rcases h2 with h | ⟨g, cap', cur, he, hb, hc, h3⟩
 ·exact .inl h
 ·have he2 := he;simp only [Value.slice.injEq] at he2;exact .inr ⟨g, cap', cur, he, hb, (hk _ he2.1 (Array.getElem?_eq_some_iff.1 hc).1).trans hc, h3⟩
theorem nodes1_own (m : Nat) (K : Nat → Int) (n cap : Nat) (ao : Option Addr) (lo l Bn : Nat) (W : World) (hm : 2 ≤ m) (hn : n ≤ 200) (hlo : lo ≤ W.heap.size) (hBn : W.cell? ⟨Bn, 0, none⟩ = some (.slice ao n cap))
  (hc : 0 < n → ∃ b o, ao = some ⟨b, o, none⟩ ∧ b < lo ∧ ∀ i, i < n → W.cell? ⟨b, o + i * 10 + 6, none⟩ = some (.int .i64 (K i))) :
  SeqO m Tryz.prog 49 #[.pointer (some ⟨Bn, 0, none⟩)] (fun x : Fin n => #[nodeV K n x]) lo l (fun ys => ys = qb8 K n) (fun pre => pre <+: qb8 K n ∧ pre ≠ []) n W := by
 intro J Jx hJ hJx hY h0;have hte := treeEnds_in ao n cap K W hn (fun hp => by obtain ⟨b, o, e, hb, hcc⟩ := hc hp; exact ⟨b, o, e, by omega, hcc⟩);refine callsIn_of_wp Tryz.func49 rfl trivial ?_ rfl;simp only [Tryz.ntmps49, List.size_toArray, List.length_cons, List.length_nil, Nat.reduceAdd, Nat.reduceSub, Array.replicate_succ, Array.replicate_zero, List.push_toArray, List.append_toArray, List.nil_append, List.cons_append]
 gi_wp2_with fail
 refine ⟨trivial, fun _ => by omega, ?_⟩;refine (callsIn_wide.2 hte).mono ?_;rintro e w1 ⟨⟨v, rfl, hv⟩, b1⟩;rcases hv with ⟨rfl, hno⟩ | ⟨E, hpos, rfl, hrow, hE, hE0⟩
 ·have hseq : qb8 K n = [] := by unfold qb8; exact if_neg (fun ⟨h, t⟩ => hno h t)
  have hJ1 : Hid (J (moreO (fun _ => False) W w1) [] w1) := hJ _ _ _ _ h0 (StepO.of_below b1);clear hno hte hY hc
  gi_wp2
  refine wpIn_loop_rounds 1 ?_;rw [roundsIn_succ]
  gi_wp2
  go_end0
  exact ⟨⟨_, rfl⟩, .inl ⟨[], _, hseq.symm, hJ1.out⟩⟩
 ·have hEE : ∀ i, i < n → EE K n i = E i := fun i hi => by obtain ⟨h, t⟩ := hE i hi; exact EE_eq t
  have hseq : qb8 K n = List.finRange n := by
   unfold qb8;refine if_pos ?_;obtain ⟨h, t⟩ := hE 0 hpos;rw [hE0] at t;exact ⟨h, t⟩
  have hrow' : w1.rowIs W.heap.size 3 n (fun j => .int .i64 (EE K n j : Int)) := hrow.congr fun i hi => by rw [hEE i hi]
  have hJ1 : J (moreO (fun _ => False) W w1) [] w1 := hJ _ _ _ _ h0 (StepO.of_below b1);have hsz1 : W.heap.size < w1.heap.size := hrow'.lt
  have hinv : Hid (∃ O, J O ((List.finRange n).take 0) w1 ∧ w1.ownsRow (W.heap.size + 1) 3 1 (.slice none 0 0) 0 ((st (EE K n) 0).reverse.map iv) ∧ w1.rowIs W.heap.size 3 n (fun j => .int .i64 (EE K n j : Int)) ∧ O W.heap.size ∧ (∀ a, (none : Option Addr) = some a → O a.block)) :=
   ⟨moreO (fun _ => False) W w1, by simpa using hJ1, World.ownsRow_nil _ _ _ _, hrow', Or.inr ⟨Nat.le_refl _, hsz1⟩, fun a h => by cases h⟩
  clear hrow hE hE0 hEE hrow' hJ1 hte hc h0 hBn;obtain ⟨i0, hi, hz0, hz1, hz2⟩ := info_parts (show (Tryz.prog.info? 3).map (fun i => (i.zero, i.size, i.bytes)) = some (some (.int .i64 0), 1, 8) by kernel_rfl)
  gi_wp2
  gi_loopw [3, 9] (fun a i wr => ∃ (k cap' : Nat) (ao' : Option Addr), a = .slice ao' (st (EE K n) k).length cap' ∧ i = .int .i64 (k : Int) ∧ k ≤ n ∧
   Hid (∃ O, J O ((List.finRange n).take k) wr ∧ wr.ownsRow (W.heap.size + 1) 3 1 (.slice ao' (st (EE K n) k).length cap') (st (EE K n) k).length ((st (EE K n) k).reverse.map iv) ∧ wr.rowIs W.heap.size 3 n (fun j => .int .i64 (EE K n j : Int)) ∧ O W.heap.size ∧ (∀ a, ao' = some a → O a.block)))
   (fun _ i _ => n - (intOf i).toNat)
  case atStart => exact ⟨0, 0, none, rfl, rfl, by omega, hinv⟩
  case round =>
   clear hinv;obtain ⟨k, cap', ao', rfl, rfl, hkn, hH⟩ := hrel;by_cases hk : k < n
   ·have hki : (k : Int) < (n : Int) := by omega
    have d0 : wr.cell? ⟨W.heap.size, k, none⟩ = some (.int .i64 (EE K n k : Int)) := by
     obtain ⟨O, h1, h2, h3, h4, h5⟩ := hH.out;exact h3.cell hk
    gi_wp2
    gi_loopw [3] (fun a ws => ∃ (s : List Nat), a = .slice ao' s.length cap' ∧ wr = ws ∧ s.length ≤ n ∧ Hid (pop k s = pop k (st (EE K n) k) ∧ wr.ownsRow (W.heap.size + 1) 3 1 (.slice ao' s.length cap') s.length (s.reverse.map iv))) (fun a _ => lenOf a)
    case atStart => exact ⟨st (EE K n) k, rfl, rfl, Nat.le_trans (st_le _ _) hkn, rfl, by obtain ⟨O, h1, h2, h3, h4, h5⟩ := hH.out; exact h2⟩
    case round =>
     obtain ⟨s, rfl, rfl, hsn, hP⟩ := hrel
     cases s with
     | nil =>
      have hps : pop k ([] : List Nat) = [] := rfl;simp only [List.length_nil];have hd : depth (EE K n) k = 0 := by rw [depth, ← hP.out.1, hps]; rfl
      have hR0 : 0 ≤ k := by rw [← hd]; exact depth_le _ _
      obtain ⟨O, hHJ, hHo, hHr, hHB, hHa⟩ := id hH.out;obtain ⟨fn, tmps, assign, body, hy, hR⟩ := hY O _ ⟨k, hk⟩ wr hHJ (by simp; omega);rw [← qf5 hk] at hR;simp [nodeV, hd] at hy;have hown : Hid (wr.ownsRow (W.heap.size + 1) 3 1 (.slice ao' (0) cap') (0) (([] : List Nat).reverse.map iv)) := hP.out.2;have hrw : Hid (wr.rowIs W.heap.size 3 n (fun j => .int .i64 (EE K n j : Int))) := hHr
      have hst : Hid (st (EE K n) (k + 1) = EE K n k :: ([] : List Nat)) := by
       show st (EE K n) (k + 1) = EE K n k :: ([] : List Nat);rw [st_depth, ← hP.out.1, hps]
      have hHB' : Hid (O W.heap.size) := hHB;have hHa' : Hid (∀ a, ao' = some a → O a.block) := hHa;clear hP hH hps hd hHJ hHo hHr hHB hHa
      gi_wp2
      refine ⟨fun _ => by omega, ?_⟩;refine hR.mono ?_;rintro e W3 (⟨rfl, hJ3, hk3⟩ | ⟨rfl, hJx3⟩)
      ·have hown3 := ownsRow_keepO (w' := W3) hown.out (fun b hb h2 => hk3.block b.block (.inl (hHa'.out b hb)) h2);have hrw3 := hrw.out.of_block (w' := W3) (hk3.block _ (.inl hHB'.out) hrw.out.lt);have hs3 : W.heap.size < W3.heap.size := hrw3.lt;have hJ3' : Hid (J O (List.take (k + 1) (List.finRange n)) W3) := hJ3;have hrw3' : Hid (W3.rowIs W.heap.size 3 n (fun j => .int .i64 (EE K n j : Int))) := hrw3;have hown3' : Hid (W3.ownsRow (W.heap.size + 1) 3 1 (.slice ao' (0) cap') (0) (([] : List Nat).reverse.map iv)) := hown3;clear hJ3 hrw3 hown hrw hown3 hk3 hy hR
       gi_wp2_with (gi_at_builtin; refine qh0 _ rfl _ _ 60 rfl (W.heap.size + 1) 3 i0 (.int .i64 0) 1 8 Tryz.underlying60 hi hz0 hz1 hz2 rfl (by decide) _ _ _ rfl (hown3'.out.alloc _) ⟨W3.heap.size, 0, none⟩ 1 1 [.int .i64 (EE K n k : Int)] rfl rfl (cell_one_new _ _ _) (by simp [Value.oneCell']) (by omega) (by simp only [maxLen]; omega) (by omega) (by simp; omega) ?_; intro g4 c4 w4 hown' hgrow hat; have hnew := appendedO hst.out (by simp) hown' hgrow hat hs3 hJ hJ3'.out hrw3'.out hHB'.out (fun a e => ⟨(hown3'.out.lt a.block (by rw [e]; rfl)).1, hHa'.out a e⟩); clear hat)
       go_roundw;case rel => exact ⟨k + 1, c4, some ⟨g4, 0, none⟩, by rw [hst.out]; simp, rfl, by omega, hnew⟩
       case measure => simp [intOf]; omega
      ·have hpre : Hid (List.take (k + 1) (List.finRange n) <+: qb8 K n ∧ List.take (k + 1) (List.finRange n) ≠ []) := by
        refine ⟨by rw [hseq]; exact List.take_prefix _ _, fun h => ?_⟩;have := congrArg List.length h;simp at this;omega
       have hJx3' : Hid (Jx O (List.take (k + 1) (List.finRange n)) W3) := hJx3;clear hJx3 hown hrw hst hy hR hHa' hHB'
       gi_wp2
       refine bodyPost_ret (results_none rfl _ _ _) rfl ?_;exact ⟨⟨_, rfl⟩, .inr ⟨_, O, hpre.out, hJx3'.out⟩⟩
     | cons x s =>
      obtain ⟨L, hL⟩ : ∃ L, s.length = L := ⟨_, rfl⟩;obtain ⟨g, cap2, he⟩ := ownsRow_succ (k := s.length) hP.out.2;simp only [List.length_cons, Value.slice.injEq] at he;obtain ⟨rfl, _, rfl⟩ := he
      have hcell : wr.cell? ⟨g, L, none⟩ = some (.int .i64 (x : Int)) := by
       have := hP.out.2.cellAt L (by simp [hL]);rw [this];simp [← hL, iv]
      have hcap := ownsRow_cap hP.out.2;rw [List.length_cons, hL] at hsn hcap;obtain ⟨hcap, hcap2⟩ := hcap;simp only [List.length_cons, hL];by_cases hx : x ≤ k
      ·have hxi : (x : Int) ≤ (k : Int) := by omega
       have hnext : Hid (pop k s = pop k (st (EE K n) k) ∧ wr.ownsRow (W.heap.size + 1) 3 1 (.slice (some ⟨g, 0, none⟩) s.length cap') s.length (s.reverse.map iv)) := by
        refine ⟨?_, ?_⟩
        ·rw [← hP.out.1, pop, if_pos hx]
        ·have := hP.out.2;simp only [List.length_cons, List.reverse_cons, List.map_append, List.map_cons, List.map_nil] at this;exact ownsRow_shorter this (by simp)
       clear hP
       gi_wp2
       go_roundw;case rel => exact ⟨s, by rw [hL], by first | trivial | rfl, by omega, hnext⟩
       case measure => simp [lenOf]
      ·have hxi : ¬ (x : Int) ≤ (k : Int) := by omega
       have hps : pop k (x :: s) = x :: s := by rw [pop, if_neg hx]
       have hd : depth (EE K n) k = L + 1 := by rw [depth, ← hP.out.1, hps]; simp [hL]
       have hR0 : L + 1 ≤ k := by rw [← hd]; exact depth_le _ _
       obtain ⟨O, hHJ, hHo, hHr, hHB, hHa⟩ := id hH.out;obtain ⟨fn, tmps, assign, body, hy, hR⟩ := hY O _ ⟨k, hk⟩ wr hHJ (by simp; omega);rw [← qf5 hk] at hR;simp [nodeV, hd] at hy;have hown : Hid (wr.ownsRow (W.heap.size + 1) 3 1 (.slice (some ⟨g, 0, none⟩) (L + 1) cap') (L + 1) ((x :: s).reverse.map iv)) := (by have h := hP.out.2; rw [List.length_cons, hL] at h; exact h);have hrw : Hid (wr.rowIs W.heap.size 3 n (fun j => .int .i64 (EE K n j : Int))) := hHr
       have hst : Hid (st (EE K n) (k + 1) = EE K n k :: (x :: s)) := by
        show st (EE K n) (k + 1) = EE K n k :: (x :: s);rw [st_depth, ← hP.out.1, hps]
       have hHB' : Hid (O W.heap.size) := hHB;have hHa' : Hid (∀ a, (some ⟨g, 0, none⟩ : Option Addr) = some a → O a.block) := hHa;clear hP hH hps hd hHJ hHo hHr hHB hHa
       gi_wp2
       refine ⟨fun _ => by omega, ?_⟩;refine hR.mono ?_;rintro e W3 (⟨rfl, hJ3, hk3⟩ | ⟨rfl, hJx3⟩)
       ·have hown3 := ownsRow_keepO (w' := W3) hown.out (fun b hb h2 => hk3.block b.block (.inl (hHa'.out b hb)) h2);have hrw3 := hrw.out.of_block (w' := W3) (hk3.block _ (.inl hHB'.out) hrw.out.lt);have hs3 : W.heap.size < W3.heap.size := hrw3.lt;have hJ3' : Hid (J O (List.take (k + 1) (List.finRange n)) W3) := hJ3;have hrw3' : Hid (W3.rowIs W.heap.size 3 n (fun j => .int .i64 (EE K n j : Int))) := hrw3;have hown3' : Hid (W3.ownsRow (W.heap.size + 1) 3 1 (.slice (some ⟨g, 0, none⟩) (L + 1) cap') (L + 1) ((x :: s).reverse.map iv)) := hown3;clear hJ3 hrw3 hown hrw hown3 hk3 hy hR
        gi_wp2_with (gi_at_builtin; refine qh0 _ rfl _ _ 60 rfl (W.heap.size + 1) 3 i0 (.int .i64 0) 1 8 Tryz.underlying60 hi hz0 hz1 hz2 rfl (by decide) _ _ _ rfl (hown3'.out.alloc _) ⟨W3.heap.size, 0, none⟩ 1 1 [.int .i64 (EE K n k : Int)] rfl rfl (cell_one_new _ _ _) (by simp [Value.oneCell']) (by omega) (by simp only [maxLen]; omega) (by omega) (by simp; omega) ?_; intro g4 c4 w4 hown' hgrow hat; have hnew := appendedO hst.out (by simp [hL]) hown' hgrow hat hs3 hJ hJ3'.out hrw3'.out hHB'.out (fun a e => ⟨(hown3'.out.lt a.block (by rw [e]; rfl)).1, hHa'.out a e⟩); clear hat)
        go_roundw;case rel => exact ⟨k + 1, c4, some ⟨g4, 0, none⟩, by rw [hst.out]; simp [hL], rfl, by omega, hnew⟩
        case measure => simp [intOf]; omega
       ·have hpre : Hid (List.take (k + 1) (List.finRange n) <+: qb8 K n ∧ List.take (k + 1) (List.finRange n) ≠ []) := by
         refine ⟨by rw [hseq]; exact List.take_prefix _ _, fun h => ?_⟩;have := congrArg List.length h;simp at this;omega
        have hJx3' : Hid (Jx O (List.take (k + 1) (List.finRange n)) W3) := hJx3;clear hJx3 hown hrw hst hy hR hHa' hHB'
        gi_wp2
        refine bodyPost_ret (results_none rfl _ _ _) rfl ?_;exact ⟨⟨_, rfl⟩, .inr ⟨_, O, hpre.out, hJx3'.out⟩⟩
   ·obtain rfl : k = n := by omega
    have hJn : Hid (∃ O, J O (List.finRange k) wr) := by
     obtain ⟨O, this, _⟩ := hH.out;rw [List.take_of_length_le (by simp)] at this;exact ⟨O, this⟩
    clear hH
    gi_wp2
    go_end0
    obtain ⟨O, hJo⟩ := hJn.out;exact ⟨⟨_, rfl⟩, .inl ⟨_, O, hseq.symm, hJo⟩⟩
end Go.Proofs.YtplijnfaiofckaaGreatDoor

import Derived.Test.YtcbifllencnbaaaRound
namespace Go.Proofs.Ytcbifllencnbaaa
open Go.RowKit Go.Shelf
set_option linter.unusedVariables false
set_option linter.unusedSimpArgs false

/-- a step of an iterator whose own blocks are those of O: no other block that was there is turned. -/
structure StepO (O : Nat → Prop) (A C : World) : Prop where
  os : C.os = A.os
  tape : C.tape = A.tape
  output : C.output = A.output
  size : A.heap.size ≤ C.heap.size
  block : ∀ b, b < A.heap.size → ¬ O b → C.heap[b]? = A.heap[b]?
theorem StepO.of_below {O : Nat → Prop} {A C : World} (h : Below A.heap.size A C) : StepO O A C := ⟨h.os, h.tape, h.output, h.size, fun b hb _ => h.block b hb⟩
/-- what a round keeps for the iterator: its own blocks, and all below lo. -/
structure KeepO (O : Nat → Prop) (lo : Nat) (W W' : World) : Prop where
  size : W.heap.size ≤ W'.heap.size
  block : ∀ b, O b ∨ b < lo → b < W.heap.size → W'.heap[b]? = W.heap[b]?
/-- O, and the blocks that have come since. -/
def moreO (O : Nat → Prop) (A C : World) : Nat → Prop := fun b => O b ∨ (A.heap.size ≤ b ∧ b < C.heap.size)
def AbideO {β : Type} (J : (Nat → Prop) → β → World → Prop) : Prop := ∀ O s A C, J O s A → StepO O A C → J (moreO O A C) s C

def SeqO {α : Type} (m : Nat) (P : Program) (gf : Nat) (lb : Array Value) (encs : α → Array Value) (lo l : Nat) (S Sp : List α → Prop) (N : Nat) (W : World) : Prop :=
  ∀ (J Jx : (Nat → Prop) → List α → World → Prop), AbideO J → AbideO Jx →
    (∀ O pre x W1, J O pre W1 → pre.length < N → YieldAt Fence.wide (m - 1) P l (encs x) W1 fun e W' =>
      (e = .returned (.bool true) ∧ J O (pre ++ [x]) W' ∧ KeepO O lo W1 W') ∨ (e = .returned (.bool false) ∧ Jx O (pre ++ [x]) W')) →
    J (fun _ => False) [] W →
    CallsIn Fence.wide m P gf (#[.func (.yield l) #[] #[]] ++ lb) W fun e W' => (∃ v, e = .returned v) ∧ ((∃ xs O, S xs ∧ J O xs W') ∨ (∃ pre O, Sp pre ∧ Jx O pre W'))

/-- a round has turned no block but those of U, and what it holds on to behind it are these and new ones. -/
structure GrowU (U U' : Nat → Prop) (W W' : World) : Prop where
  size : W.heap.size ≤ W'.heap.size
  block : ∀ b, b < W.heap.size → ¬ U b → W'.heap[b]? = W.heap[b]?
  foot : ∀ b, U' b → U b ∨ W.heap.size ≤ b
/-- a word on the world that hangs on the blocks of U and on those below lo alone. -/
def FootU {β : Type} (lo : Nat) (I : β → (Nat → Prop) → World → Prop) : Prop :=
  ∀ s U A C, I s U A → C.os = A.os → C.tape = A.tape → C.output = A.output → A.heap.size ≤ C.heap.size → (∀ b, U b → C.heap[b]? = A.heap[b]?) → (∀ b, b < lo → C.heap[b]? = A.heap[b]?) → I s U C
/-- how a round may end. -/
def RoundU {α : Type} (I : List α → (Nat → Prop) → World → Prop) (Ix : Code → List α → (Nat → Prop) → World → Prop) (xs : List α) (U : Nat → Prop) (W : World) : Exit → Act → World → Prop
  | .normal, _, W' => ∃ U', GrowU U U' W W' ∧ I xs U' W'
  | .ret, _, W' => ∃ U', GrowU U U' W W' ∧ Ix .ret xs U' W'
  | .exit id, _, W' => ∃ U', GrowU U U' W W' ∧ Ix (.exit id) xs U' W'
  | .goto t, _, W' => ∃ U', GrowU U U' W W' ∧ Ix (.goto t) xs U' W'
  | .panic _, _, _ => False
  | .outgrown, _, _ => False

theorem range_lawO {α : Type} {P : Program} {m : Nat} {g : Operand} {ps : Array Tmp} {assign body : Code} {Q : Exit → Act → World → Prop} {a : Act} {w : World}
    {gf : Nat} {lb : Array Value} (hg : a.eval g = .func (.func gf) #[] lb) (eg : ∀ args w, (callFunc gf args).run P w = .ok (.enter gf args) w) (h1 : 1 ≤ m)
    {encs : α → Array Value} (hps : ∀ x, (encs x).size = ps.size) {lo N : Nat} (hlo : lo ≤ w.heap.size) {S Sp : List α → Prop}
    (I : List α → (Nat → Prop) → World → Prop) (Ix : Code → List α → (Nat → Prop) → World → Prop) (hI : FootU lo I) (hIx : ∀ c, FootU lo (Ix c))
    (hIu : ∀ s U A, I s U A → ∀ b, U b → lo ≤ b ∧ b < A.heap.size ∧ (b < w.heap.size ∨ w.heap.size + 2 ≤ b)) (hXu : ∀ c s U A, Ix c s U A → ∀ b, U b → b < A.heap.size ∧ (b < w.heap.size ∨ w.heap.size + 2 ≤ b))
    (h0 : ∃ U, I [] U w)
    (hseq : ∀ W, W.heap.size = w.heap.size + 2 → Below w.heap.size w W → SeqO (m - 1) P gf lb encs lo (w.heap.size + 1) S Sp N W)
    (Ax : α → Act → World → Prop) (hAx : ∀ x a' W o, Ax x a' W → Ax x a' (W.putObj (w.heap.size + 1) o))
    (hassign : ∀ (l : Nat) (pre : List α) (x : α) (W : World) (K : Act → World → Prop), w.heap.size + 2 ≤ W.heap.size →
      (∀ a' W', Below W.heap.size W W' → Ax x a' W' → K a' W') →
      assign.wpIn (Fence.wide.inRound l) (m - 1 - 1) P (Exit.then K (fun _ _ _ => False)) { tmps := (ps.zip (encs x)).foldl (fun t (p, v) => t.setIfInBounds p v) a.tmps, defers := [] } W)
    (hbody : ∀ (l : Nat) (pre : List α) (x : α) (a' : Act) (U : Nat → Prop) (W : World), w.heap.size + 2 ≤ W.heap.size → I pre U W → Ax x a' W → pre.length < N →
      body.wpIn (Fence.wide.inRound l) (m - 1 - 1) P (RoundU I Ix (pre ++ [x]) U W) a' W)
    (hdone : ∀ (D : Nat) (xs : List α) (U : Nat → Prop) (W : World), w.heap.size = D → S xs → I xs U W → W.heap[D]? = some (.deferred (some [])) → Q .normal { a with defers := { target := .collected D, args := #[] } :: a.defers } W)
    (hstop : ∀ (D : Nat) (c : Code) (pre : List α) (U : Nat → Prop) (W : World), w.heap.size = D → Sp pre → Ix c pre U W → W.heap[D]? = some (.deferred (some [])) →
      c.wpIn Fence.wide m P Q { a with defers := { target := .collected D, args := #[] } :: a.defers } W) :
    (Code.rangeFunc g ps assign body).wpIn Fence.wide m P Q a w := by
  refine wpIn_rangeFunc fun fn hfn => ?_
  let R : LoopState → Option Code → Loop := fun st pe => { state := st, pending := pe, fn := fn, tmps := a.tmps, params := ps, assign := assign, body := body, defers := w.heap.size }
  let W0 : World := (w.alloc (.deferred (some []))).alloc (.loop (R .ready none))
  have sz0 : W0.heap.size = w.heap.size + 2 := by simp [W0]
  have bel0 : Below w.heap.size w W0 := ((Below.refl _ w).alloc (Nat.le_refl _) _).alloc (by simp) _
  have hD0 : W0.heap[w.heap.size]? = some (.deferred (some [])) := (Below.heap_alloc _ _ _ (by simp)).trans (World.alloc_heap_new w _)
  have hL0 : W0.heap[w.heap.size + 1]? = some (.loop (R .ready none)) := by
    have := World.alloc_heap_new (w.alloc (.deferred (some []))) (.loop (R .ready none))
    rwa [World.size_alloc] at this
  refine ⟨w.heap.size + 1, [{ target := .collected w.heap.size, args := #[] }], W0, { target := .fn (.func gf) lb, args := #[.func (.yield (w.heap.size + 1)) #[] #[]] }, W0, gf,
    #[.func (.yield (w.heap.size + 1)) #[] #[]] ++ lb, W0, run_enterLoop_outer _ _ _ _ _, ?_, fun _ _ => trivial, ?_, fun _ => h1, ?_⟩
  · simp only [resolve, hg]
    simp [go_sem]
  · simp [invoke, go_sem, eg]
  -- a turn of the loop's record leaves the caller's word alone
  have putI : ∀ {β : Type} {I' : β → (Nat → Prop) → World → Prop} (_ : FootU lo I') (s : β) (U : Nat → Prop) (A : World) (o : Obj), (∀ b, U b → b ≠ w.heap.size + 1) → w.heap.size + 1 < A.heap.size → I' s U A → I' s U (A.putObj (w.heap.size + 1) o) :=
    fun hI' s U A o hu hl hi => hI' s U A _ hi rfl rfl rfl (by simp) (fun b hb => World.putObj_heap_other (hu b hb)) (fun b hb => World.putObj_heap_other (by omega))
  have key := hseq W0 sz0 bel0
    (fun O pre W => ∃ U, I pre U W ∧ w.heap.size + 2 ≤ W.heap.size ∧ W.heap[w.heap.size + 1]? = some (.loop (R .ready none)) ∧ W.heap[w.heap.size]? = some (.deferred (some [])) ∧ (∀ b, O b → ¬ U b ∧ w.heap.size + 2 ≤ b ∧ b < W.heap.size))
    (fun O pre W => ∃ c U, Ix c pre U W ∧ w.heap.size + 2 ≤ W.heap.size ∧ W.heap[w.heap.size + 1]? = some (.loop (R .done (some c))) ∧ W.heap[w.heap.size]? = some (.deferred (some [])) ∧ (∀ b, O b → ¬ U b ∧ w.heap.size + 2 ≤ b ∧ b < W.heap.size))
    (fun O s A C hs hb => by
      obtain ⟨U, hi, h2, h3, h4, h5⟩ := hs
      have hu := hIu s U A hi
      refine ⟨U, hI s U A C hi hb.os hb.tape hb.output hb.size (fun b hub => hb.block b (hu b hub).2.1 (fun ho => (h5 b ho).1 hub)) (fun b hlt => hb.block b (by omega) (fun ho => by have := (h5 b ho).2.1; omega)), Nat.le_trans h2 hb.size,
        (hb.block _ (by omega) (fun ho => by have := (h5 _ ho).2.1; omega)).trans h3, (hb.block _ (by omega) (fun ho => by have := (h5 _ ho).2.1; omega)).trans h4, fun b ho => ?_⟩
      rcases ho with ho | ho
      · exact ⟨(h5 b ho).1, (h5 b ho).2.1, Nat.lt_of_lt_of_le (h5 b ho).2.2 hb.size⟩
      · exact ⟨fun hub => by have := (hu b hub).2.1; omega, by omega, ho.2⟩)
    (fun O s A C hs hb => by
      obtain ⟨c, U, hi, h2, h3, h4, h5⟩ := hs
      have hu := hXu c s U A hi
      refine ⟨c, U, hIx c s U A C hi hb.os hb.tape hb.output hb.size (fun b hub => hb.block b (hu b hub).1 (fun ho => (h5 b ho).1 hub)) (fun b hlt => hb.block b (by omega) (fun ho => by have := (h5 b ho).2.1; omega)), Nat.le_trans h2 hb.size,
        (hb.block _ (by omega) (fun ho => by have := (h5 _ ho).2.1; omega)).trans h3, (hb.block _ (by omega) (fun ho => by have := (h5 _ ho).2.1; omega)).trans h4, fun b ho => ?_⟩
      rcases ho with ho | ho
      · exact ⟨(h5 b ho).1, (h5 b ho).2.1, Nat.lt_of_lt_of_le (h5 b ho).2.2 hb.size⟩
      · exact ⟨fun hub => by have := (hu b hub).1; omega, by omega, ho.2⟩)
    ?_ ?_
  · refine key.mono ?_
    rintro e W2 ⟨⟨v, rfl⟩, (⟨xs, O, hS, U, hi, hsz, hl, hk, _⟩ | ⟨pre, O, hSp, c, U, hi, hsz, hl, hk, _⟩)⟩
    · refine ⟨none, _, run_endLoop (P := P) hl (by simp [R]), ?_⟩
      exact hdone _ xs U _ rfl hS (putI hI xs U W2 _ (fun b hb => by have := (hIu xs U W2 hi b hb).2.2; omega) (by omega) hi) ((World.putObj_heap_other (by omega)).trans hk)
    · refine ⟨some c, _, run_endLoop (P := P) hl (by simp [R]), ?_⟩
      exact hstop _ c pre U _ rfl hSp (putI (hIx c) pre U W2 _ (fun b hb => by have := (hXu c pre U W2 hi b hb).2; omega) (by omega) hi) ((World.putObj_heap_other (by omega)).trans hk)
  · rintro O pre x W ⟨U, hi, hsz, hl, hk, hO⟩ hlen
    refine ⟨fn, _, assign, body, run_yield (P := P) (args := encs x) hl (hps x), roundIn_of_wpIn hfn (hassign _ pre x W _ hsz ?_)⟩
    intro a' Wa ba ax
    have hu := hIu pre U W hi
    have ia : I pre U Wa := hI pre U W Wa hi ba.os ba.tape ba.output ba.size (fun b hb => ba.block b (hu b hb).2.1) (fun b hb => ba.block b (by omega))
    have la := (ba.block _ (by omega)).trans hl
    have da := (ba.block _ (by omega)).trans hk
    have sa : w.heap.size + 2 ≤ Wa.heap.size := Nat.le_trans hsz ba.size
    refine ⟨_, run_beginRound la rfl, ?_⟩
    have hub : ∀ b, U b → b ≠ w.heap.size + 1 := fun b hb => by have := (hu b hb).2.2; omega
    have lb' : (Wa.putObj (w.heap.size + 1) (.loop { R .ready none with state := .busy })).heap[w.heap.size + 1]? = some (.loop { R .ready none with state := .busy }) := World.putObj_heap_same (by omega)
    have db : (Wa.putObj (w.heap.size + 1) (.loop { R .ready none with state := .busy })).heap[w.heap.size]? = some (.deferred (some [])) := (World.putObj_heap_other (by omega)).trans da
    have ib := putI hI pre U Wa (.loop { R .ready none with state := .busy }) hub (by omega) ia
    have szb : (Wa.putObj (w.heap.size + 1) (.loop { R .ready none with state := .busy })).heap.size = Wa.heap.size := by simp
    refine wpIn_mono (hbody _ pre x a' U _ (by simpa using sa) ib (hAx x a' Wa _ ax) hlen) ?_
    intro e a3 W3 hp
    have fin : ∀ (jump : Option Code) (U' : Nat → Prop), GrowU U U' (Wa.putObj (w.heap.size + 1) (.loop { R .ready none with state := .busy })) W3 → (∀ b, U' b → b < W3.heap.size ∧ (b < w.heap.size ∨ w.heap.size + 2 ≤ b)) →
        ∃ W4, W4 = W3.putObj (w.heap.size + 1) (.loop (R (if jump.isNone then .ready else .done) jump)) ∧ (Instr.endRound (w.heap.size + 1) jump).run P W3 = .ok (.bool jump.isNone) W4 ∧ w.heap.size + 2 ≤ W4.heap.size ∧
          W4.heap[w.heap.size + 1]? = some (.loop (R (if jump.isNone then .ready else .done) jump)) ∧ W4.heap[w.heap.size]? = some (.deferred (some [])) ∧ (∀ b, O b → ¬ U' b ∧ w.heap.size + 2 ≤ b ∧ b < W4.heap.size) ∧ KeepO O lo W W4 := by
      intro jump U' k3 hu'
      have s3 : Wa.heap.size ≤ W3.heap.size := by have := k3.size; omega
      have hrec : ∀ b, b < Wa.heap.size → ¬ U b → b ≠ w.heap.size + 1 → W3.heap[b]? = Wa.heap[b]? := fun b h1 h2 h3 => (k3.block b (by omega) h2).trans (World.putObj_heap_other h3)
      have l3 := (k3.block (w.heap.size + 1) (by omega) (fun hb => hub _ hb rfl)).trans lb'
      have d3 := (k3.block w.heap.size (by omega) (fun hb => by have := (hu _ hb).2.2; omega)).trans db
      have s4 : (W3.putObj (w.heap.size + 1) (.loop (R (if jump.isNone then .ready else .done) jump))).heap.size = W3.heap.size := by simp
      refine ⟨_, rfl, run_endRound (P := P) jump l3, by omega, World.putObj_heap_same (by omega), (World.putObj_heap_other (by omega)).trans d3, fun b hb => ?_, ⟨?_, fun b hb hlt => ?_⟩⟩
      · have h := hO b hb
        refine ⟨fun hub' => ?_, h.2.1, ?_⟩
        · rcases k3.foot b hub' with h' | h'
          · exact h.1 h'
          · have := ba.size
            omega
        · have := ba.size
          omega
      · have := ba.size
        omega
      · have hnu : ¬ U b := fun hub' => by
          rcases hb with hb | hb
          · exact (hO b hb).1 hub'
          · have := (hu b hub').1
            omega
        have hne : b ≠ w.heap.size + 1 := by
          rcases hb with hb | hb
          · have := (hO b hb).2.1
            omega
          · omega
        rw [World.putObj_heap_other hne, hrec b (by have := ba.size; omega) hnu hne, ba.block b hlt]
    cases e with
    | normal =>
      obtain ⟨U', k3, i3⟩ := hp
      obtain ⟨W4, rfl, r4, s4, l4, d4, o4, k4⟩ := fin none U' k3 (fun b hb => (hIu _ U' W3 i3 b hb).2)
      exact ⟨_, _, r4, .inl ⟨rfl, ⟨U', putI hI _ U' W3 _ (fun b hb => by have := (hIu _ U' W3 i3 b hb).2.2; omega) (by have h := s4; simp at h; omega) i3, s4, l4, d4, o4⟩, k4⟩⟩
    | ret =>
      obtain ⟨U', k3, i3⟩ := hp
      obtain ⟨W4, rfl, r4, s4, l4, d4, o4, k4⟩ := fin (some .ret) U' k3 (fun b hb => hXu _ _ U' W3 i3 b hb)
      exact ⟨_, _, r4, .inr ⟨rfl, _, U', putI (hIx _) _ U' W3 _ (fun b hb => by have := (hXu _ _ U' W3 i3 b hb).2; omega) (by have h := s4; simp at h; omega) i3, s4, l4, d4, o4⟩⟩
    | exit id =>
      obtain ⟨U', k3, i3⟩ := hp
      obtain ⟨W4, rfl, r4, s4, l4, d4, o4, k4⟩ := fin (some (.exit id)) U' k3 (fun b hb => hXu _ _ U' W3 i3 b hb)
      exact ⟨_, _, r4, .inr ⟨rfl, _, U', putI (hIx _) _ U' W3 _ (fun b hb => by have := (hXu _ _ U' W3 i3 b hb).2; omega) (by have h := s4; simp at h; omega) i3, s4, l4, d4, o4⟩⟩
    | goto t =>
      obtain ⟨U', k3, i3⟩ := hp
      obtain ⟨W4, rfl, r4, s4, l4, d4, o4, k4⟩ := fin (some (.goto t)) U' k3 (fun b hb => hXu _ _ U' W3 i3 b hb)
      exact ⟨_, _, r4, .inr ⟨rfl, _, U', putI (hIx _) _ U' W3 _ (fun b hb => by have := (hXu _ _ U' W3 i3 b hb).2; omega) (by have h := s4; simp at h; omega) i3, s4, l4, d4, o4⟩⟩
    | panic ch => exact hp.elim
    | outgrown => exact hp.elim
  · obtain ⟨U, hi⟩ := h0
    have hu := hIu [] U w hi
    exact ⟨U, hI [] U w W0 hi bel0.os bel0.tape bel0.output bel0.size (fun b hb => bel0.block b (hu b hb).2.1) (fun b hb => bel0.block b (by omega)), by omega, hL0, hD0, fun b hb => hb.elim⟩
end Go.Proofs.Ytcbifllencnbaaa

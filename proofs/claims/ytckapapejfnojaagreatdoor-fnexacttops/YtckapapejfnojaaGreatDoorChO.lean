import Derived.RangeFuncNested
import Derived.RangeFuncBound
import Derived.RangeFuncCalls
import Derived.RangeFuncLeaves
import Derived.Shelf.Abstract
import Derived.Shelf.RegionOpen
import Derived.WalkKit
import Derived.OwnWalkIn
import Derived.TacticsInMore
import Derived.LoopNIn
import Derived.LoopIn
import Derived.Test.YtckapapejfnojaaGreatDoorChN
namespace Go.Proofs.YtckapapejfnojaaGreatDoor
open Go.RowKit Go.Shelf
set_option linter.unusedVariables false
set_option linter.unusedSimpArgs false

/-- all blocks but those from lo on and below B lie as they lay. -/
structure Keep (lo B : Nat) (W W' : World) : Prop where
  size : W.heap.size ≤ W'.heap.size
  block : ∀ b, b < lo ∨ B ≤ b → b < W.heap.size → W'.heap[b]? = W.heap[b]?
theorem Keep.refl (lo B : Nat) (W : World) : Keep lo B W W := ⟨Nat.le_refl _, fun _ _ _ => rfl⟩
theorem Keep.trans {lo B : Nat} {W W' W'' : World} (h : Keep lo B W W') (k : Keep lo B W' W'') : Keep lo B W W'' :=
  ⟨Nat.le_trans h.size k.size, fun b hb hl => (k.block b hb (Nat.lt_of_lt_of_le hl h.size)).trans (h.block b hb hl)⟩
theorem Keep.of_below {lo B : Nat} {W W' : World} (h : Below W.heap.size W W') : Keep lo B W W' := ⟨h.size, fun b _ hl => h.block b hl⟩
theorem Keep.setCell {lo B : Nat} (W : World) {a : Addr} (h1 : lo ≤ a.block) (h2 : a.block < B) (u : Value) : Keep lo B W (W.setCell a u) :=
  ⟨by rw [World.size_setCell]; exact Nat.le_refl _, fun b hb _ => Below.heap_setCell W a u b (by omega)⟩
theorem Keep.putObj {lo B : Nat} (W : World) {l : Nat} (h1 : lo ≤ l) (h2 : l < B) (o : Obj) : Keep lo B W (W.putObj l o) :=
  ⟨by simp, fun b hb _ => World.putObj_heap_other (by omega)⟩
theorem Keep.wider {lo B B' : Nat} {W W' : World} (h : Keep lo B W W') (hB : B ≤ B') : Keep lo B' W W' :=
  ⟨h.size, fun b hb hl => h.block b (by omega) hl⟩

/-- a word on the world that hangs on the blocks below B alone. -/
def Stable {β : Type} (B : Nat) (I : β → World → Prop) : Prop := ∀ s A C, I s A → Below B A C → I s C
theorem below_putObj {B : Nat} (W : World) {l : Nat} (h : B ≤ l) (hl : l < W.heap.size) (o : Obj) : Below B W (W.putObj l o) :=
  (Below.refl B W).grown (grownBy_putObj' W l o) (by omega) (fun k e => by cases e; exact h)

/-- how a round may end. -/
def RoundEnd {α : Type} (lo B : Nat) (I : List α → World → Prop) (Ix : Code → List α → World → Prop) (xs : List α) (W : World) : Exit → Act → World → Prop
  | .normal, _, W' => Keep lo B W W' ∧ I xs W'
  | .ret, _, W' => Keep lo B W W' ∧ Ix .ret xs W'
  | .exit id, _, W' => Keep lo B W W' ∧ Ix (.exit id) xs W'
  | .goto t, _, W' => Keep lo B W W' ∧ Ix (.goto t) xs W'
  | .panic _, _, _ => False
  | .outgrown, _, _ => False

/-- what an iterator that keeps cells of its own promises: it turns no block that lay when it began; of a round it asks that the blocks outside [lo, B) stay. -/
def SeqB {α : Type} (m : Nat) (P : Program) (gf : Nat) (lb : Array Value) (encs : α → Array Value) (lo l : Nat) (S Sp : List α → Prop) (N : Nat) (W : World) : Prop :=
  ∀ (J Jx : List α → World → Prop), Stable W.heap.size J → Stable W.heap.size Jx →
    (∀ pre x W1, J pre W1 → pre.length < N → YieldAt Fence.wide (m - 1) P l (encs x) W1 fun e W' =>
      (e = .returned (.bool true) ∧ J (pre ++ [x]) W' ∧ Keep lo W.heap.size W1 W') ∨ (e = .returned (.bool false) ∧ Jx (pre ++ [x]) W')) →
    J [] W →
    CallsIn Fence.wide m P gf (#[.func (.yield l) #[] #[]] ++ lb) W fun e W' => (∃ v, e = .returned v) ∧ ((∃ xs, S xs ∧ J xs W') ∨ (∃ pre, Sp pre ∧ Jx pre W'))

theorem range_law {α : Type} {P : Program} {m : Nat} {g : Operand} {ps : Array Tmp} {assign body : Code} {Q : Exit → Act → World → Prop} {a : Act} {w : World}
    {gf : Nat} {lb : Array Value} (hg : a.eval g = .func (.func gf) #[] lb) (eg : ∀ args w, (callFunc gf args).run P w = .ok (.enter gf args) w) (h1 : 1 ≤ m)
    {encs : α → Array Value} (hps : ∀ x, (encs x).size = ps.size) {lo N : Nat} (hlo : lo ≤ w.heap.size) {S Sp : List α → Prop}
    (I : List α → World → Prop) (Ix : Code → List α → World → Prop) (hI : Stable w.heap.size I) (hIx : ∀ c, Stable w.heap.size (Ix c)) (h0 : I [] w)
    (hseq : ∀ W, W.heap.size = w.heap.size + 2 → Below w.heap.size w W → SeqB (m - 1) P gf lb encs lo (w.heap.size + 1) S Sp N W)
    (Ax : α → Act → World → Prop) (hAx : ∀ x a' W o, Ax x a' W → Ax x a' (W.putObj (w.heap.size + 1) o))
    (hassign : ∀ (l : Nat) (pre : List α) (x : α) (W : World) (K : Act → World → Prop), w.heap.size + 2 ≤ W.heap.size → I pre W →
      (∀ a' W', Keep lo w.heap.size W W' → I pre W' → Ax x a' W' → K a' W') →
      assign.wpIn (Fence.wide.inRound l) (m - 1 - 1) P (Exit.then K (fun _ _ _ => False)) { tmps := (ps.zip (encs x)).foldl (fun t (p, v) => t.setIfInBounds p v) a.tmps, defers := [] } W)
    (hbody : ∀ (l : Nat) (pre : List α) (x : α) (a' : Act) (W : World), w.heap.size + 2 ≤ W.heap.size → I pre W → Ax x a' W → pre.length < N →
      body.wpIn (Fence.wide.inRound l) (m - 1 - 1) P (RoundEnd lo w.heap.size I Ix (pre ++ [x]) W) a' W)
    (hdone : ∀ (D : Nat) (xs : List α) (W : World), w.heap.size = D → S xs → I xs W → W.heap[D]? = some (.deferred (some [])) → Q .normal { a with defers := { target := .collected D, args := #[] } :: a.defers } W)
    (hstop : ∀ (D : Nat) (c : Code) (pre : List α) (W : World), w.heap.size = D → Sp pre → Ix c pre W → W.heap[D]? = some (.deferred (some [])) →
      c.wpIn Fence.wide m P Q { a with defers := { target := .collected D, args := #[] } :: a.defers } W) :
    (Code.rangeFunc g ps assign body).wpIn Fence.wide m P Q a w := by
  refine wpIn_rangeFunc fun fn hfn => ?_
  -- the record of the loop, in whatever state
  let R : LoopState → Option Code → Loop := fun st pe => { state := st, pending := pe, fn := fn, tmps := a.tmps, params := ps, assign := assign, body := body, defers := w.heap.size }
  let W0 : World := (w.alloc (.deferred (some []))).alloc (.loop (R .ready none))
  have sz0 : W0.heap.size = w.heap.size + 2 := by simp [W0]
  have bel0 : Below w.heap.size w W0 := ((Below.refl _ w).alloc (Nat.le_refl _) _).alloc (by simp) _
  have hD0 : W0.heap[w.heap.size]? = some (.deferred (some [])) := (Below.heap_alloc _ _ _ (by simp)).trans (World.alloc_heap_new w _)
  have hL0 : W0.heap[w.heap.size + 1]? = some (.loop (R .ready none)) := by
    have := World.alloc_heap_new (w.alloc (.deferred (some []))) (.loop (R .ready none))
    rwa [World.size_alloc] at this
  refine ⟨w.heap.size + 1, [{ target := .collected w.heap.size, args := #[] }], W0, { target := .fn (.func gf) lb, args := #[.func (.yield (w.heap.size + 1)) #[] #[]] }, W0, gf,
    #[.func (.yield (w.heap.size + 1)) #[] #[]] ++ lb, W0, run_enterLoop_outer _ _ _ _ _, ?_, fun _ _ => trivial, ?_, fun _ => h1, ?_⟩
  · simp only [resolve, hg]
    simp [go_sem]
  · simp [invoke, go_sem, eg]
  have key := hseq W0 sz0 bel0
    (fun pre W => I pre W ∧ w.heap.size + 2 ≤ W.heap.size ∧ W.heap[w.heap.size + 1]? = some (.loop (R .ready none)) ∧ W.heap[w.heap.size]? = some (.deferred (some [])))
    (fun pre W => ∃ c, Ix c pre W ∧ w.heap.size + 2 ≤ W.heap.size ∧ W.heap[w.heap.size + 1]? = some (.loop (R .done (some c))) ∧ W.heap[w.heap.size]? = some (.deferred (some [])))
    (fun s A C hs hb => ⟨hI s A C hs.1 (hb.mono (by omega)), Nat.le_trans hs.2.1 hb.size, (hb.block _ (by omega)).trans hs.2.2.1, (hb.block _ (by omega)).trans hs.2.2.2⟩)
    (fun s A C hs hb => by
      obtain ⟨c, k1, k2, k3, k4⟩ := hs
      exact ⟨c, hIx c s A C k1 (hb.mono (by omega)), Nat.le_trans k2 hb.size, (hb.block _ (by omega)).trans k3, (hb.block _ (by omega)).trans k4⟩)
    ?_ ⟨hI _ _ _ h0 bel0, by omega, hL0, hD0⟩
  · refine key.mono ?_
    rintro e W2 ⟨⟨v, rfl⟩, (⟨xs, hS, hi, hsz, hl, hk⟩ | ⟨pre, hSp, c, hi, hsz, hl, hk⟩)⟩
    · refine ⟨none, _, run_endLoop (P := P) hl (by simp [R]), ?_⟩
      exact hdone _ xs _ rfl hS (hI _ _ _ hi (below_putObj _ (by omega) (by omega) _)) ((World.putObj_heap_other (by omega)).trans hk)
    · refine ⟨some c, _, run_endLoop (P := P) hl (by simp [R]), ?_⟩
      exact hstop _ c pre _ rfl hSp (hIx c _ _ _ hi (below_putObj _ (by omega) (by omega) _)) ((World.putObj_heap_other (by omega)).trans hk)
  · rintro pre x W ⟨hi, hsz, hl, hk⟩ hlen
    refine ⟨fn, _, assign, body, run_yield (P := P) (args := encs x) hl (hps x), roundIn_of_wpIn hfn (hassign _ pre x W _ hsz hi ?_)⟩
    intro a' Wa ka ia ax
    have la := (ka.block _ (.inr (by omega)) (by omega)).trans hl
    have da := (ka.block _ (.inr (by omega)) (by omega)).trans hk
    have sa : w.heap.size + 2 ≤ Wa.heap.size := Nat.le_trans hsz ka.size
    refine ⟨_, run_beginRound la rfl, ?_⟩
    have kb := Keep.putObj (lo := lo) (B := w.heap.size + 2) Wa (l := w.heap.size + 1) (by omega) (by omega) (.loop { R .ready none with state := .busy })
    have lb' : (Wa.putObj (w.heap.size + 1) (.loop { R .ready none with state := .busy })).heap[w.heap.size + 1]? = some (.loop { R .ready none with state := .busy }) := World.putObj_heap_same (by omega)
    have db : (Wa.putObj (w.heap.size + 1) (.loop { R .ready none with state := .busy })).heap[w.heap.size]? = some (.deferred (some [])) := (World.putObj_heap_other (by omega)).trans da
    have ib := hI _ _ _ ia (below_putObj Wa (l := w.heap.size + 1) (by omega) (by omega) (.loop { R .ready none with state := .busy }))
    refine wpIn_mono (hbody _ pre x a' _ (by simpa using sa) ib (hAx x a' Wa _ ax) hlen) ?_
    intro e a3 W3 hp
    have fin : ∀ (jump : Option Code), Keep lo w.heap.size (Wa.putObj (w.heap.size + 1) (.loop { R .ready none with state := .busy })) W3 →
        ∃ W4, W4 = W3.putObj (w.heap.size + 1) (.loop (R (if jump.isNone then .ready else .done) jump)) ∧ (Instr.endRound (w.heap.size + 1) jump).run P W3 = .ok (.bool jump.isNone) W4 ∧ Below w.heap.size W3 W4 ∧ w.heap.size + 2 ≤ W4.heap.size ∧
          W4.heap[w.heap.size + 1]? = some (.loop (R (if jump.isNone then .ready else .done) jump)) ∧ W4.heap[w.heap.size]? = some (.deferred (some [])) ∧ Keep lo (w.heap.size + 2) W W4 := by
      intro jump k3
      have s3 : w.heap.size + 2 ≤ W3.heap.size := by
        have := k3.size
        simp at this
        omega
      have l3 := (k3.block _ (.inr (by omega)) (by simp; omega)).trans lb'
      have d3 := (k3.block _ (.inr (by omega)) (by simp; omega)).trans db
      refine ⟨_, rfl, run_endRound (P := P) jump l3, below_putObj _ (by omega) (by omega) _, by simpa using s3, World.putObj_heap_same (by omega), (World.putObj_heap_other (by omega)).trans d3, ?_⟩
      exact (((ka.wider (by omega)).trans kb).trans (k3.wider (by omega))).trans (Keep.putObj _ (by omega) (by omega) _)
    rw [sz0]
    cases e with
    | normal =>
      obtain ⟨k3, i3⟩ := hp
      obtain ⟨W4, _, r4, b4, s4, l4, d4, k4⟩ := fin none k3
      exact ⟨_, _, r4, .inl ⟨rfl, ⟨hI _ _ _ i3 b4, s4, l4, d4⟩, k4⟩⟩
    | ret =>
      obtain ⟨k3, i3⟩ := hp
      obtain ⟨W4, _, r4, b4, s4, l4, d4, k4⟩ := fin (some .ret) k3
      exact ⟨_, _, r4, .inr ⟨rfl, _, hIx _ _ _ _ i3 b4, s4, l4, d4⟩⟩
    | exit id =>
      obtain ⟨k3, i3⟩ := hp
      obtain ⟨W4, _, r4, b4, s4, l4, d4, k4⟩ := fin (some (.exit id)) k3
      exact ⟨_, _, r4, .inr ⟨rfl, _, hIx _ _ _ _ i3 b4, s4, l4, d4⟩⟩
    | goto t =>
      obtain ⟨k3, i3⟩ := hp
      obtain ⟨W4, _, r4, b4, s4, l4, d4, k4⟩ := fin (some (.goto t)) k3
      exact ⟨_, _, r4, .inr ⟨rfl, _, hIx _ _ _ _ i3 b4, s4, l4, d4⟩⟩
    | panic ch => exact hp.elim
    | outgrown => exact hp.elim
end Go.Proofs.YtckapapejfnojaaGreatDoor

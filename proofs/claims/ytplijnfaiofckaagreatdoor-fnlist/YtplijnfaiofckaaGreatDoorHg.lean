import Derived.Test.YtplijnfaiofckaaGreatDoorGw
import Derived.Test.YtplijnfaiofckaaGreatDoorGs
import Derived.Test.YtplijnfaiofckaaGreatDoorGz
namespace Go.Proofs.YtplijnfaiofckaaGreatDoor
open Go.RowKit Go.Shelf
set_option linter.unusedVariables false
set_option linter.unusedSimpArgs false
def SeqP {α : Type} (m : Nat) (P : Program) (gf : Nat) (lb : Array Value) (encs : α → Array Value) (lo l : Nat) (S Sp : List α → Prop) (N : Nat) (Px : α → Prop) (O0 : Nat → Prop) (W : World) : Prop :=
 ∀ (J Jx : (Nat → Prop) → List α → World → Prop), AbideO J → AbideO Jx →
  (∀ O pre x W1, J O pre W1 → pre.length < N → Px x → YieldAt Fence.wide (m - 1) P l (encs x) W1 fun e W' =>
   (e = .returned (.bool true) ∧ J O (pre ++ [x]) W' ∧ KeepO O lo W1 W') ∨ (e = .returned (.bool false) ∧ Jx O (pre ++ [x]) W')) →
  J O0 [] W →
  CallsIn Fence.wide m P gf (#[.func (.yield l) #[] #[]] ++ lb) W fun e W' => (∃ v, e = .returned v) ∧ ((∃ xs O, S xs ∧ J O xs W') ∨ (∃ pre O, Sp pre ∧ Jx O pre W'))

theorem range_lawP {α : Type} {P : Program} {m : Nat} {g : Operand} {ps : Array Tmp} {assign body : Code} {Q : Exit → Act → World → Prop} {a : Act} {w : World}
  {gf : Nat} {lb : Array Value} (hg : a.eval g = .func (.func gf) #[] lb) (eg : ∀ args w, (callFunc gf args).run P w = .ok (.enter gf args) w) (h1 : 1 ≤ m)
  {encs : α → Array Value} (hps : ∀ x, (encs x).size = ps.size) {lo N : Nat} (hlo : lo ≤ w.heap.size) {S Sp : List α → Prop}
  (I : List α → (Nat → Prop) → World → Prop) (Ix : Code → List α → (Nat → Prop) → World → Prop) (hI : FootU lo I) (hIx : ∀ c, FootU lo (Ix c))
  (hIu : ∀ s U A, I s U A → ∀ b, U b → lo ≤ b ∧ b < A.heap.size ∧ (b < w.heap.size ∨ w.heap.size + 2 ≤ b)) (hXu : ∀ c s U A, Ix c s U A → ∀ b, U b → b < A.heap.size ∧ (b < w.heap.size ∨ w.heap.size + 2 ≤ b))
  (Px : α → Prop) (O0 : Nat → Prop) (hO0 : ∀ b, O0 b → lo ≤ b ∧ b < w.heap.size) (h0 : ∃ U, I [] U w ∧ ∀ b, O0 b → ¬ U b)
  (hseq : ∀ W, W.heap.size = w.heap.size + 2 → Below w.heap.size w W → SeqP (m - 1) P gf lb encs lo (w.heap.size + 1) S Sp N Px O0 W)
  (Ax : α → Act → World → Prop) (hAx : ∀ x a' W o, Ax x a' W → Ax x a' (W.putObj (w.heap.size + 1) o))
  (hassign : ∀ (l : Nat) (pre : List α) (x : α) (W : World) (K : Act → World → Prop), w.heap.size + 2 ≤ W.heap.size →
   (∀ a' W', Below W.heap.size W W' → Ax x a' W' → K a' W') →
   assign.wpIn (Fence.wide.inRound l) (m - 1 - 1) P (Exit.then K (fun _ _ _ => False)) { tmps := (ps.zip (encs x)).foldl (fun t (p, v) => t.setIfInBounds p v) a.tmps, defers := [] } W)
  (hbody : ∀ (l : Nat) (pre : List α) (x : α) (a' : Act) (U : Nat → Prop) (W : World), w.heap.size + 2 ≤ W.heap.size → I pre U W → Ax x a' W → pre.length < N → Px x →
   body.wpIn (Fence.wide.inRound l) (m - 1 - 1) P (RoundU I Ix (pre ++ [x]) U W) a' W)
  (hdone : ∀ (D : Nat) (xs : List α) (U : Nat → Prop) (W : World), w.heap.size = D → S xs → I xs U W → W.heap[D]? = some (.deferred (some [])) → Q .normal { a with defers := { target := .collected D, args := #[] } :: a.defers } W)
  (hstop : ∀ (D : Nat) (c : Code) (pre : List α) (U : Nat → Prop) (W : World), w.heap.size = D → Sp pre → Ix c pre U W → W.heap[D]? = some (.deferred (some [])) →
   c.wpIn Fence.wide m P Q { a with defers := { target := .collected D, args := #[] } :: a.defers } W) :
  (Code.rangeFunc g ps assign body).wpIn Fence.wide m P Q a w := by
 refine wpIn_rangeFunc fun fn hfn => ?_
 let R : LoopState → Option Code → Loop := fun st pe => { state := st, pending := pe, fn := fn, tmps := a.tmps, params := ps, assign := assign, body := body, defers := w.heap.size }
 let W0 : World := (w.alloc (.deferred (some []))).alloc (.loop (R .ready none))
 have sz0 : W0.heap.size = w.heap.size + 2 := by simp [W0]
 have bel0 : Below w.heap.size w W0 := ((Below.refl _ w).alloc (Nat.le_refl _) _).alloc (by simp) _;have hD0 : W0.heap[w.heap.size]? = some (.deferred (some [])) := (Below.heap_alloc _ _ _ (by simp)).trans (World.alloc_heap_new w _)
 have hL0 : W0.heap[w.heap.size + 1]? = some (.loop (R .ready none)) := by
  have := World.alloc_heap_new (w.alloc (.deferred (some []))) (.loop (R .ready none))
  rwa [World.size_alloc] at this
 refine ⟨w.heap.size + 1, [{ target := .collected w.heap.size, args := #[] }], W0, { target := .fn (.func gf) lb, args := #[.func (.yield (w.heap.size + 1)) #[] #[]] }, W0, gf,
  #[.func (.yield (w.heap.size + 1)) #[] #[]] ++ lb, W0, run_enterLoop_outer _ _ _ _ _, ?_, fun _ _ => trivial, ?_, fun _ => h1, ?_⟩
 ·simp only [resolve, hg];simp [go_sem]
 ·simp [invoke, go_sem, eg]
 -- a turn of the loop's record leaves the caller's word alone
 have putI : ∀ {β : Type} {I' : β → (Nat → Prop) → World → Prop} (_ : FootU lo I') (s : β) (U : Nat → Prop) (A : World) (o : Obj), (∀ b, U b → b ≠ w.heap.size + 1) → w.heap.size + 1 < A.heap.size → I' s U A → I' s U (A.putObj (w.heap.size + 1) o) :=
  fun hI' s U A o hu hl hi => hI' s U A _ hi rfl rfl rfl (by simp) (fun b hb => World.putObj_heap_other (hu b hb)) (fun b hb => World.putObj_heap_other (by omega))
 have hOf : ∀ b, (w.heap.size + 2 ≤ b ∨ O0 b) → lo ≤ b ∧ b ≠ w.heap.size ∧ b ≠ w.heap.size + 1 := fun b h => by
  rcases h with h | h
  ·omega
  ·have := hO0 b h; omega
 have key := hseq W0 sz0 bel0
  (fun O pre W => ∃ U, I pre U W ∧ w.heap.size + 2 ≤ W.heap.size ∧ W.heap[w.heap.size + 1]? = some (.loop (R .ready none)) ∧ W.heap[w.heap.size]? = some (.deferred (some [])) ∧ (∀ b, O b → ¬ U b ∧ (w.heap.size + 2 ≤ b ∨ O0 b) ∧ b < W.heap.size))
  (fun O pre W => ∃ c U, Ix c pre U W ∧ w.heap.size + 2 ≤ W.heap.size ∧ W.heap[w.heap.size + 1]? = some (.loop (R .done (some c))) ∧ W.heap[w.heap.size]? = some (.deferred (some [])) ∧ (∀ b, O b → ¬ U b ∧ (w.heap.size + 2 ≤ b ∨ O0 b) ∧ b < W.heap.size))
  (fun O s A C hs hb => by
   obtain ⟨U, hi, h2, h3, h4, h5⟩ := hs;have hu := hIu s U A hi
   refine ⟨U, hI s U A C hi hb.os hb.tape hb.output hb.size (fun b hub => hb.block b (hu b hub).2.1 (fun ho => (h5 b ho).1 hub)) (fun b hlt => hb.block b (by omega) (fun ho => by have := hOf b (h5 b ho).2.1; omega)), Nat.le_trans h2 hb.size,
    (hb.block _ (by omega) (fun ho => by have := hOf _ (h5 _ ho).2.1; omega)).trans h3, (hb.block _ (by omega) (fun ho => by have := hOf _ (h5 _ ho).2.1; omega)).trans h4, fun b ho => ?_⟩
   rcases ho with ho | ho
   ·exact ⟨(h5 b ho).1, (h5 b ho).2.1, Nat.lt_of_lt_of_le (h5 b ho).2.2 hb.size⟩
   ·exact ⟨fun hub => by have := (hu b hub).2.1; omega, .inl (by omega), ho.2⟩)
  (fun O s A C hs hb => by
   obtain ⟨c, U, hi, h2, h3, h4, h5⟩ := hs;have hu := hXu c s U A hi
   refine ⟨c, U, hIx c s U A C hi hb.os hb.tape hb.output hb.size (fun b hub => hb.block b (hu b hub).1 (fun ho => (h5 b ho).1 hub)) (fun b hlt => hb.block b (by omega) (fun ho => by have := hOf b (h5 b ho).2.1; omega)), Nat.le_trans h2 hb.size,
    (hb.block _ (by omega) (fun ho => by have := hOf _ (h5 _ ho).2.1; omega)).trans h3, (hb.block _ (by omega) (fun ho => by have := hOf _ (h5 _ ho).2.1; omega)).trans h4, fun b ho => ?_⟩
   rcases ho with ho | ho
   ·exact ⟨(h5 b ho).1, (h5 b ho).2.1, Nat.lt_of_lt_of_le (h5 b ho).2.2 hb.size⟩
   ·exact ⟨fun hub => by have := (hu b hub).1; omega, .inl (by omega), ho.2⟩)
  ?_ ?_
 ·refine key.mono ?_;rintro e W2 ⟨⟨v, rfl⟩, (⟨xs, O, hS, U, hi, hsz, hl, hk, _⟩ | ⟨pre, O, hSp, c, U, hi, hsz, hl, hk, _⟩)⟩
  ·refine ⟨none, _, run_endLoop (P := P) hl (by simp [R]), ?_⟩;exact hdone _ xs U _ rfl hS (putI hI xs U W2 _ (fun b hb => by have := (hIu xs U W2 hi b hb).2.2; omega) (by omega) hi) ((World.putObj_heap_other (by omega)).trans hk)
  ·refine ⟨some c, _, run_endLoop (P := P) hl (by simp [R]), ?_⟩;exact hstop _ c pre U _ rfl hSp (putI (hIx c) pre U W2 _ (fun b hb => by have := (hXu c pre U W2 hi b hb).2; omega) (by omega) hi) ((World.putObj_heap_other (by omega)).trans hk)
 ·rintro O pre x W ⟨U, hi, hsz, hl, hk, hO⟩ hlen hPx;refine ⟨fn, _, assign, body, run_yield (P := P) (args := encs x) hl (hps x), roundIn_of_wpIn hfn (hassign _ pre x W _ hsz ?_)⟩;intro a' Wa ba ax;have hu := hIu pre U W hi;have ia : I pre U Wa := hI pre U W Wa hi ba.os ba.tape ba.output ba.size (fun b hb => ba.block b (hu b hb).2.1) (fun b hb => ba.block b (by omega));have la := (ba.block _ (by omega)).trans hl;have da := (ba.block _ (by omega)).trans hk;have sa : w.heap.size + 2 ≤ Wa.heap.size := Nat.le_trans hsz ba.size;refine ⟨_, run_beginRound la rfl, ?_⟩;have hub : ∀ b, U b → b ≠ w.heap.size + 1 := fun b hb => by have := (hu b hb).2.2; omega
  have lb' : (Wa.putObj (w.heap.size + 1) (.loop { R .ready none with state := .busy })).heap[w.heap.size + 1]? = some (.loop { R .ready none with state := .busy }) := World.putObj_heap_same (by omega);have db : (Wa.putObj (w.heap.size + 1) (.loop { R .ready none with state := .busy })).heap[w.heap.size]? = some (.deferred (some [])) := (World.putObj_heap_other (by omega)).trans da;have ib := putI hI pre U Wa (.loop { R .ready none with state := .busy }) hub (by omega) ia;have szb : (Wa.putObj (w.heap.size + 1) (.loop { R .ready none with state := .busy })).heap.size = Wa.heap.size := by simp
  refine wpIn_mono (hbody _ pre x a' U _ (by simpa using sa) ib (hAx x a' Wa _ ax) hlen hPx) ?_;intro e a3 W3 hp
  have fin : ∀ (jump : Option Code) (U' : Nat → Prop), GrowU U U' (Wa.putObj (w.heap.size + 1) (.loop { R .ready none with state := .busy })) W3 → (∀ b, U' b → b < W3.heap.size ∧ (b < w.heap.size ∨ w.heap.size + 2 ≤ b)) →
    ∃ W4, W4 = W3.putObj (w.heap.size + 1) (.loop (R (if jump.isNone then .ready else .done) jump)) ∧ (Instr.endRound (w.heap.size + 1) jump).run P W3 = .ok (.bool jump.isNone) W4 ∧ w.heap.size + 2 ≤ W4.heap.size ∧
     W4.heap[w.heap.size + 1]? = some (.loop (R (if jump.isNone then .ready else .done) jump)) ∧ W4.heap[w.heap.size]? = some (.deferred (some [])) ∧ (∀ b, O b → ¬ U' b ∧ (w.heap.size + 2 ≤ b ∨ O0 b) ∧ b < W4.heap.size) ∧ KeepO O lo W W4 := by
   intro jump U' k3 hu';have s3 : Wa.heap.size ≤ W3.heap.size := by have := k3.size; omega
   have hrec : ∀ b, b < Wa.heap.size → ¬ U b → b ≠ w.heap.size + 1 → W3.heap[b]? = Wa.heap[b]? := fun b h1 h2 h3 => (k3.block b (by omega) h2).trans (World.putObj_heap_other h3);have l3 := (k3.block (w.heap.size + 1) (by omega) (fun hb => hub _ hb rfl)).trans lb';have d3 := (k3.block w.heap.size (by omega) (fun hb => by have := (hu _ hb).2.2; omega)).trans db;have s4 : (W3.putObj (w.heap.size + 1) (.loop (R (if jump.isNone then .ready else .done) jump))).heap.size = W3.heap.size := by simp
   refine ⟨_, rfl, run_endRound (P := P) jump l3, by omega, World.putObj_heap_same (by omega), (World.putObj_heap_other (by omega)).trans d3, fun b hb => ?_, ⟨?_, fun b hb hlt => ?_⟩⟩
   ·have h := hO b hb;refine ⟨fun hub' => ?_, h.2.1, ?_⟩
    ·rcases k3.foot b hub' with h' | h'
     ·exact h.1 h'
     ·have := ba.size;omega
    ·have := ba.size;omega
   ·have := ba.size;omega
   ·have hnu : ¬ U b := fun hub' => by
     rcases hb with hb | hb
     ·exact (hO b hb).1 hub'
     ·have := (hu b hub').1;omega
    have hne : b ≠ w.heap.size + 1 := by
     rcases hb with hb | hb
     ·exact (hOf b (hO b hb).2.1).2.2
     ·omega
    rw [World.putObj_heap_other hne, hrec b (by have := ba.size; omega) hnu hne, ba.block b hlt]
  cases e with
  | normal =>
   obtain ⟨U', k3, i3⟩ := hp;obtain ⟨W4, rfl, r4, s4, l4, d4, o4, k4⟩ := fin none U' k3 (fun b hb => (hIu _ U' W3 i3 b hb).2);exact ⟨_, _, r4, .inl ⟨rfl, ⟨U', putI hI _ U' W3 _ (fun b hb => by have := (hIu _ U' W3 i3 b hb).2.2; omega) (by have h := s4; simp at h; omega) i3, s4, l4, d4, o4⟩, k4⟩⟩
  | ret =>
   obtain ⟨U', k3, i3⟩ := hp;obtain ⟨W4, rfl, r4, s4, l4, d4, o4, k4⟩ := fin (some .ret) U' k3 (fun b hb => hXu _ _ U' W3 i3 b hb);exact ⟨_, _, r4, .inr ⟨rfl, _, U', putI (hIx _) _ U' W3 _ (fun b hb => by have := (hXu _ _ U' W3 i3 b hb).2; omega) (by have h := s4; simp at h; omega) i3, s4, l4, d4, o4⟩⟩
  | exit id =>
   obtain ⟨U', k3, i3⟩ := hp;obtain ⟨W4, rfl, r4, s4, l4, d4, o4, k4⟩ := fin (some (.exit id)) U' k3 (fun b hb => hXu _ _ U' W3 i3 b hb);exact ⟨_, _, r4, .inr ⟨rfl, _, U', putI (hIx _) _ U' W3 _ (fun b hb => by have := (hXu _ _ U' W3 i3 b hb).2; omega) (by have h := s4; simp at h; omega) i3, s4, l4, d4, o4⟩⟩
  | goto t =>
   obtain ⟨U', k3, i3⟩ := hp;obtain ⟨W4, rfl, r4, s4, l4, d4, o4, k4⟩ := fin (some (.goto t)) U' k3 (fun b hb => hXu _ _ U' W3 i3 b hb);exact ⟨_, _, r4, .inr ⟨rfl, _, U', putI (hIx _) _ U' W3 _ (fun b hb => by have := (hXu _ _ U' W3 i3 b hb).2; omega) (by have h := s4; simp at h; omega) i3, s4, l4, d4, o4⟩⟩
  | panic ch => exact hp.elim
  | outgrown => exact hp.elim
 ·obtain ⟨U, hi, hoU⟩ := h0;have hu := hIu [] U w hi;exact ⟨U, hI [] U w W0 hi bel0.os bel0.tape bel0.output bel0.size (fun b hb => bel0.block b (hu b hb).2.1) (fun b hb => bel0.block b (by omega)), by omega, hL0, hD0, fun b hb => ⟨hoU b hb, .inr hb, by have := hO0 b hb; omega⟩⟩
end Go.Proofs.YtplijnfaiofckaaGreatDoor
namespace Go.Proofs.YtplijnfaiofckaaGreatDoor
open Go.RowKit
set_option linter.unusedVariables false
set_option linter.unusedSimpArgs false
theorem qg0 (s : ByteArray) (b : UInt8) : Lib.indexB s ⟨#[b]⟩ = Lib.indexByte s.data.toList b := Lib.index_one s.data.toList b
theorem cutB_no {s : ByteArray} {b : UInt8} (h : Lib.indexB s ⟨#[b]⟩ = -1) : cutB b s = [s] := by
 rw [qg0] at h;unfold cutB
 rw [cutL_no b _ (fun x hx e => by
  obtain ⟨k, hk⟩ := List.getElem?_of_mem hx;rw [e] at hk;exact Lib.indexByte_none h k hk)]
 simp
theorem cutB_hit {s : ByteArray} {b : UInt8} {i : Nat} (h : Lib.indexB s ⟨#[b]⟩ = i) : cutB b s = s.extract 0 i :: cutB b (s.extract (i + 1) s.size) := by
 rw [qg0] at h;obtain ⟨h1, h2⟩ := Lib.indexByte_some h;have hl : s.data.toList.length = s.size := by rw [Array.length_toList]; rfl
 have hlt : i < s.size := by have := (List.getElem?_eq_some_iff.1 h1).1; omega
 have e1 : s.data.toList = s.data.toList.take i ++ b :: s.data.toList.drop (i + 1) := by
  conv => lhs; rw [← List.take_append_drop i s.data.toList]
  congr 1
  rw [List.drop_eq_getElem_cons (by omega)];rw [List.getElem?_eq_getElem (by omega)] at h1;rw [Option.some.inj h1]
 have e2 : (s.extract 0 i).data.toList = s.data.toList.take i := by
  rw [qh2 s 0 i (Nat.zero_le _) (by omega)];simp
 have e3 : (s.extract (i + 1) s.size).data.toList = s.data.toList.drop (i + 1) := by
  rw [qh2 s (i + 1) s.size (by omega) (Nat.le_refl _)];exact List.take_of_length_le (by rw [List.length_drop]; omega)
 unfold cutB;rw [e3]
 conv => lhs; rw [e1]
 rw [cutL_hit b _ _ (fun x hx e => by
  obtain ⟨k, hk⟩ := List.getElem?_of_mem hx;have hk1 : k < i := by have := (List.getElem?_eq_some_iff.1 hk).1; simp at this; omega
  rw [List.getElem?_take_of_lt hk1, e] at hk;exact h2 k hk1 hk)]
 rw [List.map_cons]
 congr 1
 apply ByteArray.ext;apply Array.ext';rw [e2]
theorem split_cut (b : UInt8) : ∀ (k : Nat) (s : ByteArray), Lib.countB s ⟨#[b]⟩ = k → Lib.splitB ⟨#[b]⟩ 0 k s = cutB b s
 | k, s, h => by
  rcases Lib.indexB_cases s ⟨#[b]⟩ with hm | ⟨i, hi, _⟩
  ·rw [Lib.splitB_miss _ _ _ _ hm, cutB_no hm]
  ·have hc := Lib.countB_hit s ⟨#[b]⟩ i (Nat.le_refl 1) hi
   cases k with
   | zero => omega
   | succ k =>
    rw [Lib.splitB_hit _ _ _ _ i hi, cutB_hit hi]
    congr 1
    exact split_cut b k (s.extract (i + 1) s.size) (by have e9 : (⟨#[b]⟩ : ByteArray).size = 1 := rfl; rw [e9] at hc; omega)
theorem split_len (b : UInt8) (s : ByteArray) : (cutB b s).length = Lib.countB s ⟨#[b]⟩ + 1 := by
 rw [← split_cut b _ s rfl];exact Lib.splitB_all ⟨#[b]⟩ (Nat.le_refl 1) 0 _ s rfl
theorem cutB_ne (b : UInt8) (s : ByteArray) : cutB b s ≠ [] := by
 unfold cutB;intro h;exact cutL_ne b _ (List.map_eq_nil_iff.1 h)
theorem linesOf_nil {s : ByteArray} (h : s.size = 0) : qa9 s = [] := by
 have e : s = ⟨#[]⟩ := by
  apply ByteArray.ext;apply Array.eq_empty_of_size_eq_zero;exact h
 subst e;rfl
theorem linesOf_no {s : ByteArray} (h : Lib.indexB s ⟨#[10]⟩ = -1) (h0 : 0 < s.size) : qa9 s = [s] := by
 unfold qa9;rw [cutB_no h, if_neg];simp only [List.getLast?_singleton, Option.some.injEq];intro e;rw [e] at h0;exact absurd h0 (by decide)
theorem linesOf_hit {s : ByteArray} {i : Nat} (h : Lib.indexB s ⟨#[10]⟩ = i) : qa9 s = s.extract 0 i :: qa9 (s.extract (i + 1) s.size) := by
 unfold qa9;rw [cutB_hit h]
 obtain ⟨c, l, hl⟩ : ∃ c l, cutB 10 (s.extract (i + 1) s.size) = c :: l := by
  cases hc : cutB 10 (s.extract (i + 1) s.size) with
  | nil => exact absurd hc (cutB_ne _ _)
  | cons c l => exact ⟨c, l, rfl⟩
 rw [hl, List.getLast?_cons_cons, List.dropLast_cons_cons];split <;> rfl
def trimNL (s : ByteArray) : ByteArray := ⟨(Lib.trimSuffix s.data.toList [10]).toArray⟩
theorem trimNL_hit {s : ByteArray} {i : Nat} (h : s.data.toList[i]? = some 10) : trimNL (s.extract 0 (i + 1)) = s.extract 0 i := by
 have hl : s.data.toList.length = s.size := by rw [Array.length_toList]; rfl
 have hi : i < s.data.toList.length := (List.getElem?_eq_some_iff.1 h).1
 have e1 : (s.extract 0 (i + 1)).data.toList = s.data.toList.take i ++ [10] := by
  rw [qh2 s 0 (i + 1) (Nat.zero_le _) (by omega), List.drop_zero, Nat.sub_zero, List.take_add_one, h];rfl
 have e2 : (s.extract 0 i).data.toList = s.data.toList.take i := by
  rw [qh2 s 0 i (Nat.zero_le _) (by omega)];simp
 unfold trimNL Lib.trimSuffix;rw [e1]
 have hsf : Lib.hasSuffix (s.data.toList.take i ++ [10]) [10] = true := by
  unfold Lib.hasSuffix;rw [List.isSuffixOf_iff_suffix];exact List.suffix_append _ _
 rw [if_pos hsf];apply ByteArray.ext;apply Array.ext';rw [e2];simp
theorem trimNL_no {s : ByteArray} (h : ∀ k : Nat, s.data.toList[k]? ≠ some 10) : trimNL s = s := by
 unfold trimNL Lib.trimSuffix
 have hsf : ¬ Lib.hasSuffix s.data.toList [10] = true := by
  unfold Lib.hasSuffix;rw [List.isSuffixOf_iff_suffix];rintro ⟨t, ht⟩;refine h t.length ?_;rw [← ht];simp
 rw [if_neg hsf]
inductive NextLn (s : ByteArray) : ByteArray → ByteArray → Prop
 | hit {i : Nat} : Lib.indexB s ⟨#[10]⟩ = (i : Int) → i < s.size → NextLn s (s.extract 0 (i + 1)) (s.extract (i + 1) s.size)
 | no : Lib.indexB s ⟨#[10]⟩ = -1 → 0 < s.size → NextLn s s ⟨#[]⟩
theorem NextLn.lines {s x r : ByteArray} (h : NextLn s x r) : qa9 s = trimNL x :: qa9 r := by
 cases h with
 | hit h hi =>
  rw [linesOf_hit h, trimNL_hit];rw [qg0] at h;exact (Lib.indexByte_some h).1
 | no h h0 =>
  rw [linesOf_no h h0, linesOf_nil (s := ⟨#[]⟩) rfl, trimNL_no];intro k;rw [qg0] at h;exact Lib.indexByte_none h k
theorem NextLn.less {s x r : ByteArray} (h : NextLn s x r) : r.size < s.size ∧ x.size ≤ s.size := by
 cases h with
 | hit h hi => simp only [ByteArray.size_extract]; omega
 | no h h0 => exact ⟨h0, Nat.le_refl _⟩
end Go.Proofs.YtplijnfaiofckaaGreatDoor
namespace Go.Proofs.YtplijnfaiofckaaGreatDoor
open Go.RowKit Go.Shelf
set_option linter.unusedVariables false
set_option linter.unusedSimpArgs false
set_option maxRecDepth 100000
set_option maxHeartbeats 9000000
section
variable {P : Program} {ops : Array Oper} {Q : Exit → Act → World → Prop} {md : Region.Mode} {S : World → Prop} {n : Nat}
theorem oper_wide {o : Oper} {a : Act} {w : World} {K : Act → World → Prop} (hd : ∀ c, o.op ≠ .defer c) (hn : 1 ≤ n) (h : o.wp P a w K Q) : o.wpIn Fence.wide n P a w K Q := by
 refine ⟨fun _ _ => trivial, ?_⟩;rw [Oper.semAt_plain _ _ _ hd];unfold Oper.wp at h;generalize (execOp a.eval o).run P w = r at h ⊢
 cases r with
 | ok x w' =>
  cases x with
  | value v => exact h
  | skip => exact h
  | defer d => exact h
  | enter f args => exact ⟨fun hx => hn, callsIn_wide.2 h⟩
  | row row args => exact ⟨fun hx => hn, fun c cs _ => let ⟨v, w', q, s⟩ := h c cs; ⟨v, w', q, stepsIn_wide.2 s⟩⟩
  | _ => exact (h : False).elim
 | halt x w' =>
  cases x with
  | panic v => exact h
  | _ => exact (h : False).elim
theorem any_wide (hn : 1 ≤ n) (hd : ∀ (i : Nat) (o : Oper), ops[i]? = some o → ∀ c, o.op ≠ .defer c) (hL : ¬ LetsOut Q) :
  ∀ (fuel : Nat) (listed : Array Bool) (a : Act) (w : World), wpAny P md ops Q fuel listed a w → wpAnyIn Fence.wide n P md ops Q fuel listed a w := by
 intro fuel
 induction fuel with
 | zero => intro listed a w h; exact h
 | succ fuel ih =>
  intro listed a w h;refine ⟨h.1, fun i hi => ?_⟩;have h2 := h.2 i hi;unfold wpOp at h2;unfold wpOpIn
  cases ho : ops[i]? with
  | none =>
   rw [ho] at h2;exact ih _ _ _ h2
  | some o =>
   rw [ho] at h2;dsimp only at h2 ⊢;split
   ·rename_i hw;rw [if_pos hw] at h2;rcases h2 with h2 | ⟨_, h2⟩
    ·exact Oper.wpIn_mono (fun a w h => ih _ a w h) (oper_wide (hd i o ho) hn h2)
    ·exact absurd h2 hL
   ·rename_i hw;rw [if_neg hw] at h2;exact ⟨fun _ _ => trivial, ih _ _ _ h2⟩
theorem region_wide {id : Nat} {a : Act} {w : World} (hn : 1 ≤ n) (hm : P.follows .mixedOrders = true) (hd : ∀ (i : Nat) (o : Oper), ops[i]? = some o → ∀ c, o.op ≠ .defer c) (hL : ¬ LetsOut Q) (hS : S w.drew)
  (h : S w.drew → wpAnyH P .any ops Q S ops.size (Array.replicate ops.size false) a w.drew) : (Code.region id ops true).wpIn Fence.wide n P Q a w :=
 wpIn_region_any hm (any_wide hn hd hL _ _ _ _ (wpAny_of_held _ _ _ _ (h hS)))
end
theorem lines_in (s : ByteArray) (w : World) : Calls Tryz.prog 20 #[.string s] w fun e w' => e = .returned (.func (.func 76) #[] #[.pointer (some ⟨w.heap.size, 0, none⟩)]) ∧ w.alloc (.cells #[.string s] 9) = w' := by
 go_enter Tryz.func20, Tryz.ntmps20;go_wp2_with fail;refine bodyPost_ret (v := .func (.func 76) #[] #[.pointer (some ⟨w.heap.size, 0, none⟩)]) (by simp [results, Tryz.results20, go_sem]) rfl ⟨rfl, rfl⟩
theorem indexByte_in (s : ByteArray) (w : World) : Calls Tryz.prog 77 #[.string s, .int .u8 10] w fun e w' => e = .returned (.int .i64 (Lib.indexB s ⟨#[10]⟩)) ∧ w = w' :=
 (Any.strings_IndexByte Tryz.lays137 s 10 w).mono fun e w' h => by
  obtain ⟨rfl, rfl⟩ := h;rw [qg0];exact ⟨rfl, rfl⟩
def szOf (v : Option Value) : Nat := match v with
 | some (.string s) => s.size
 | _ => 0
theorem nextLn_hit {s : ByteArray} {i : Nat} (h : Lib.indexB s ⟨#[10]⟩ = (i : Int)) : i < s.size := by
 rw [qg0] at h;have := (List.getElem?_eq_some_iff.1 (Lib.indexByte_some h).1).1;rw [Array.length_toList] at this;exact this
def noDefer (ops : Array Oper) : Bool := ops.all fun o => match o.op with | .defer _ => false | _ => true
theorem qd3 {ops : Array Oper} (h : noDefer ops = true) (i : Nat) (o : Oper) (ho : ops[i]? = some o) (c : _) : o.op ≠ .defer c := fun e => by
 have hm := Array.all_eq_true'.1 h o (Array.mem_of_getElem? ho);rw [e] at hm
 cases hm
def LnI (s0 : ByteArray) (sB : Nat) (J : (Nat → Prop) → List ByteArray → World → Prop) (wr : World) : Prop :=
 ∃ (pre : List ByteArray) (s : ByteArray) (O : Nat → Prop), J O pre wr ∧ O sB ∧ RowL wr sB 9 [.string s] ∧ pre.map trimNL ++ qa9 s = qa9 s0 ∧ pre.length + s.size ≤ s0.size
theorem lines1_own (m : Nat) (s0 : ByteArray) (sB lo l : Nat) (W : World) (hm : 2 ≤ m) (hs0 : s0.size ≤ 100000) (hR : RowL W sB 9 [.string s0]) :
  SeqP m Tryz.prog 76 #[.pointer (some ⟨sB, 0, none⟩)] (fun x : ByteArray => #[.string x]) lo l (fun ys => ys.map trimNL = qa9 s0) (fun pre => ∃ post, pre.map trimNL ++ post = qa9 s0 ∧ pre ≠ []) (s0.size + 1) (fun x => x.size ≤ s0.size) (fun b => b = sB) W := by
 intro J Jx hJ hJx hY h0;have hrel0 : Hid (LnI s0 sB J W) := ⟨[], s0, _, h0, rfl, hR, rfl, by simp⟩;replace hJ := hidR hJ;replace hJx := hidR hJx;replace hY := hidR hY;clear h0 hR;refine callsIn_of_wp Tryz.func76 rfl trivial ?_ rfl;simp only [Tryz.ntmps76, List.size_toArray, List.length_cons, List.length_nil, Nat.reduceAdd, Nat.reduceSub, Array.replicate_succ, Array.replicate_zero, List.push_toArray, List.append_toArray, List.nil_append, List.cons_append]
 gi_wp2_with fail
 gi_loopw [] (fun wr => Hid (LnI s0 sB J wr)) (fun wr => szOf (wr.cell? ⟨sB, 0, none⟩))
 case atStart => exact hrel0
 case round =>
  clear hrel0;obtain ⟨pre, s, O, hj, ho, hr, hl, hn⟩ := hrel.out;clear hrel;have c0 := hr.cell 0 rfl;have f0 := hr.frozen 0;have hrl := hr.lt;replace hr := hidR hr;replace hj := hidR hj;replace ho := hidR ho;replace hl := hidR hl;by_cases hz : s.size = 0
  ·have hzI : ¬ (0 : Int) < (s.size : Int) := by omega
   have hfin : Hid (pre.map trimNL = qa9 s0) := by
    have := hl.out;rw [linesOf_nil hz, List.append_nil] at this;exact this
   clear hY
   gi_wp2
   go_end0
   refine ⟨⟨_, rfl⟩, .inl ⟨pre, ?_⟩⟩;first | exact ⟨O, hfin.out, hj.out⟩ | exact ⟨hfin.out, O, hj.out⟩
  ·have hzI : (0 : Int) < (s.size : Int) := by omega
   have hib := hidR (indexByte_in s wr);have hcs := Lib.indexB_cases s ⟨#[10]⟩;obtain ⟨ix, hix⟩ : ∃ ix, Lib.indexB s ⟨#[10]⟩ = ix := ⟨_, rfl⟩;rw [hix] at hib hcs;replace hix := hidR hix
   gi_wp2_with fail
   refine ⟨trivial, fun _ => by omega, ?_⟩;refine (callsIn_wide.2 hib.out).mono ?_;rintro e wy ⟨rfl, rfl⟩;clear hib;rcases hcs with rfl | ⟨i, rfl, hi1⟩
   ·have hnl := hidR (NextLn.no hix.out (by omega));have hYl : pre.length < s0.size + 1 := by omega
    have hj3 : Hid (J (moreO O wr (wr.setCell ⟨sB, 0, none⟩ (.string ⟨#[]⟩))) pre (wr.setCell ⟨sB, 0, none⟩ (.string ⟨#[]⟩))) := hJ.out _ _ _ _ hj.out ⟨rfl, rfl, rfl, by rw [World.size_setCell]; exact Nat.le_refl _, fun b hb hob => by
     have h9 : b ≠ sB := fun e => hob (by rw [e]; exact ho.out);exact heap_setCell_other wr ⟨sB, 0, none⟩ b _ h9⟩
    have hr3 : Hid (RowL (wr.setCell ⟨sB, 0, none⟩ (.string ⟨#[]⟩)) sB 9 [.string (⟨#[]⟩)]) := hr.out.set 0 _;generalize hW3 : wr.setCell ⟨sB, 0, none⟩ (.string ⟨#[]⟩) = W3 at hj3 hr3;obtain ⟨fn, tmps, assign, body, hy, hR⟩ := hY.out _ pre (s) W3 hj3.out hYl (by omega);replace hR := hR;replace hW3 := hidR hW3

    gi_wp2_with fail
    rw [hW3.out]
    gi_wp2_with fail
    rw [hy]
    gi_wp2_with fail
    refine ⟨fun _ => by omega, ?_⟩;refine hR.mono ?_;rintro e W4 (⟨rfl, hJ3, hk3⟩ | ⟨rfl, hJx3⟩)
    ·have hr4 : RowL W4 sB 9 [.string (⟨#[]⟩)] := World.rowIs.of_block hr3.out (hk3.block sB (.inl (.inl ho.out)) hr3.out.lt)
     have hnew : Hid (LnI s0 sB J W4) := ⟨pre ++ [s], ⟨#[]⟩, _, hJ3, .inl ho.out, hr4, by
      rw [← hl.out, hnl.out.lines, List.map_append, List.append_assoc];rfl, by
      have h1 := hnl.out.less;simp only [List.length_append, List.length_cons, List.length_nil];omega⟩
     have hcell : W4.cell? ⟨sB, 0, none⟩ = some (.string (⟨#[]⟩)) := hr4.cell 0 rfl;have hless := hidR hnl.out.less.1;clear hJ3 hk3 hr4 hy hR hr3 hj3 hnl hYl
     gi_wp2
     go_roundw;case rel => exact hnew
     case measure =>
      rw [hcell, c0];exact hless.out
    ·have hpre : Hid (∃ post, (pre ++ [s]).map trimNL ++ post = qa9 s0 ∧ pre ++ [s] ≠ []) := ⟨qa9 (⟨#[]⟩), by
      rw [← hl.out, hnl.out.lines, List.map_append, List.append_assoc];rfl, by simp⟩
     have hJx3' := hidR hJx3;clear hJx3 hy hR hr3 hj3 hnl hYl
     gi_wp2
     refine bodyPost_ret (results_none rfl _ _ _) rfl ?_;refine ⟨⟨_, rfl⟩, .inr ⟨pre ++ [s], ?_⟩⟩;first | exact ⟨_, hpre.out, hJx3'.out⟩ | exact ⟨hpre.out, _, hJx3'.out⟩

   ·have hil := nextLn_hit hix.out;have hnl := hidR (NextLn.hit hix.out hil);have hiI : (0 : Int) ≤ (i : Int) := by omega
    clear hi1;have hYl : pre.length < s0.size + 1 := by omega
    have hj3 : Hid (J (moreO O wr (wr.drew.setCell ⟨sB, 0, none⟩ (.string (s.extract (i + 1) s.size)))) pre (wr.drew.setCell ⟨sB, 0, none⟩ (.string (s.extract (i + 1) s.size)))) := hJ.out _ _ _ _ hj.out ⟨rfl, rfl, rfl, by rw [World.size_setCell]; exact Nat.le_refl _, fun b hb hob => by
     have h9 : b ≠ sB := fun e => hob (by rw [e]; exact ho.out);exact heap_setCell_other wr.drew ⟨sB, 0, none⟩ b _ h9⟩
    have hr3 : Hid (RowL (wr.drew.setCell ⟨sB, 0, none⟩ (.string (s.extract (i + 1) s.size))) sB 9 [.string (s.extract (i + 1) s.size)]) := (hr.out.call (Below.refl _ _).drew).set 0 _;generalize hW3 : wr.drew.setCell ⟨sB, 0, none⟩ (.string (s.extract (i + 1) s.size)) = W3 at hj3 hr3;obtain ⟨fn, tmps, assign, body, hy, hR⟩ := hY.out _ pre (s.extract 0 (i + 1)) W3 hj3.out hYl (by have := hnl.out.less.2; omega);replace hR := hR;replace hW3 := hidR hW3

    gi_wp2_with fail
    have hS0 : wr.drew.cell? ⟨sB, 0, none⟩ = some (.string s) := c0;have hF0 : wr.drew.frozen? ⟨sB, 0, none⟩ = false := f0;have hiA : IntKind.i64.wrap ((i : Int) + 1) = ((i + 1 : Nat) : Int) := by rw [IntKind.wrap_i64]; omega
    refine region_wide (S := fun _ => True) (by omega) (by kernel_rfl) (qd3 (by kernel_rfl)) (fun ⟨_, _, h⟩ => by obtain ⟨⟨v, hv⟩, _⟩ := h; cases hv) trivial (fun hH => ?_);clear hH;refine tkd 1 13 (.int .i64 (i : Int)) trivial ?_;refine tkd 2 14 (.int .i64 ((i + 1 : Nat) : Int)) trivial ?_;refine tkd 5 17 (.int .i64 (i : Int)) trivial ?_;refine tkd 6 18 (.int .i64 ((i + 1 : Nat) : Int)) trivial ?_;refine wpAnyH_ready (rs := [0, 4]) (by kernel_rfl) (by simp) ?_;refine (AllReadyH.cons rfl (fun K9 hK => ?_) (AllReadyH.cons rfl (fun K9 hK => ?_) AllReadyH.nil))
    ·go_simp;refine hK.out _ _ trivial (fun _ => ?_);clear hK K9;try simp only [tK]
     refine tkd 3 15 (.string (s.extract 0 (i + 1))) trivial ?_ (hy := Or.inl ⟨by rfl, by intro wv hSv; go_simp; intro h9; exact absurd (h9 (by omega)) (by omega)⟩);refine tkd 8 3 (.string (s.extract 0 (i + 1))) trivial ?_;refine wpAnyH_ready (rs := [4]) (by kernel_rfl) (by simp) ?_;refine AllReadyH.cons rfl (fun K9 hK => ?_) AllReadyH.nil;go_simp;refine hK.out _ _ trivial (fun _ => ?_);clear hK K9;try simp only [tK]
     refine tkd 7 19 (.string (s.extract (i + 1) s.size)) trivial ?_ (hy := Or.inl ⟨by rfl, by intro wv hSv; go_simp; intro h9; exact absurd (h9 (by omega)) (by omega)⟩);refine wpAnyH_ready (rs := [9]) (by kernel_rfl) (by simp) ?_;refine AllReadyH.cons rfl (fun K9 hK => ?_) AllReadyH.nil;go_simp;refine hK.out _ _ trivial (fun _ => ?_);clear hK K9;try simp only [tK]
     rw [show (wr.setCell ⟨sB, 0, none⟩ (.string (s.extract (i + 1) s.size))).drew = W3 from hW3.out];refine wpAnyH_done (by kernel_rfl) ?_ _
     gi_wp2_with fail
     refine ⟨fun _ => by omega, ?_⟩;refine hR.mono ?_;rintro e W4 (⟨rfl, hJ3, hk3⟩ | ⟨rfl, hJx3⟩)
     ·have hr4 : RowL W4 sB 9 [.string (s.extract (i + 1) s.size)] := World.rowIs.of_block hr3.out (hk3.block sB (.inl (.inl ho.out)) hr3.out.lt)
      have hnew : Hid (LnI s0 sB J W4) := ⟨pre ++ [s.extract 0 (i + 1)], s.extract (i + 1) s.size, _, hJ3, .inl ho.out, hr4, by
       rw [← hl.out, hnl.out.lines, List.map_append, List.append_assoc];rfl, by
       have h1 := hnl.out.less;simp only [List.length_append, List.length_cons, List.length_nil];omega⟩
      have hcell : W4.cell? ⟨sB, 0, none⟩ = some (.string (s.extract (i + 1) s.size)) := hr4.cell 0 rfl;have hless := hidR hnl.out.less.1;clear hJ3 hk3 hr4 hy hR hr3 hj3 hnl hYl
      gi_wp2
      go_roundw;case rel => exact hnew
      case measure =>
       rw [hcell, c0];exact hless.out
     ·have hpre : Hid (∃ post, (pre ++ [s.extract 0 (i + 1)]).map trimNL ++ post = qa9 s0 ∧ pre ++ [s.extract 0 (i + 1)] ≠ []) := ⟨qa9 (s.extract (i + 1) s.size), by
       rw [← hl.out, hnl.out.lines, List.map_append, List.append_assoc];rfl, by simp⟩
      have hJx3' := hidR hJx3;clear hJx3 hy hR hr3 hj3 hnl hYl
      gi_wp2
      refine bodyPost_ret (results_none rfl _ _ _) rfl ?_;refine ⟨⟨_, rfl⟩, .inr ⟨pre ++ [s.extract 0 (i + 1)], ?_⟩⟩;first | exact ⟨_, hpre.out, hJx3'.out⟩ | exact ⟨hpre.out, _, hJx3'.out⟩


    ·go_simp;refine hK.out _ _ trivial (fun _ => ?_);clear hK K9;try simp only [tK]
     refine tkd 7 19 (.string (s.extract (i + 1) s.size)) trivial ?_ (hy := Or.inl ⟨by rfl, by intro wv hSv; go_simp; intro h9; exact absurd (h9 (by omega)) (by omega)⟩);refine wpAnyH_ready (rs := [0]) (by kernel_rfl) (by simp) ?_;refine AllReadyH.cons rfl (fun K9 hK => ?_) AllReadyH.nil;go_simp;refine hK.out _ _ trivial (fun _ => ?_);clear hK K9;try simp only [tK]
     refine tkd 3 15 (.string (s.extract 0 (i + 1))) trivial ?_ (hy := Or.inl ⟨by rfl, by intro wv hSv; go_simp; intro h9; exact absurd (h9 (by omega)) (by omega)⟩);refine tkd 8 3 (.string (s.extract 0 (i + 1))) trivial ?_;refine wpAnyH_ready (rs := [9]) (by kernel_rfl) (by simp) ?_;refine AllReadyH.cons rfl (fun K9 hK => ?_) AllReadyH.nil;go_simp;refine hK.out _ _ trivial (fun _ => ?_);clear hK K9;try simp only [tK]
     rw [show (wr.setCell ⟨sB, 0, none⟩ (.string (s.extract (i + 1) s.size))).drew = W3 from hW3.out];refine wpAnyH_done (by kernel_rfl) ?_ _
     gi_wp2_with fail
     refine ⟨fun _ => by omega, ?_⟩;refine hR.mono ?_;rintro e W4 (⟨rfl, hJ3, hk3⟩ | ⟨rfl, hJx3⟩)
     ·have hr4 : RowL W4 sB 9 [.string (s.extract (i + 1) s.size)] := World.rowIs.of_block hr3.out (hk3.block sB (.inl (.inl ho.out)) hr3.out.lt)
      have hnew : Hid (LnI s0 sB J W4) := ⟨pre ++ [s.extract 0 (i + 1)], s.extract (i + 1) s.size, _, hJ3, .inl ho.out, hr4, by
       rw [← hl.out, hnl.out.lines, List.map_append, List.append_assoc];rfl, by
       have h1 := hnl.out.less;simp only [List.length_append, List.length_cons, List.length_nil];omega⟩
      have hcell : W4.cell? ⟨sB, 0, none⟩ = some (.string (s.extract (i + 1) s.size)) := hr4.cell 0 rfl;have hless := hidR hnl.out.less.1;clear hJ3 hk3 hr4 hy hR hr3 hj3 hnl hYl
      gi_wp2
      go_roundw;case rel => exact hnew
      case measure =>
       rw [hcell, c0];exact hless.out
     ·have hpre : Hid (∃ post, (pre ++ [s.extract 0 (i + 1)]).map trimNL ++ post = qa9 s0 ∧ pre ++ [s.extract 0 (i + 1)] ≠ []) := ⟨qa9 (s.extract (i + 1) s.size), by
       rw [← hl.out, hnl.out.lines, List.map_append, List.append_assoc];rfl, by simp⟩
      have hJx3' := hidR hJx3;clear hJx3 hy hR hr3 hj3 hnl hYl
      gi_wp2
      refine bodyPost_ret (results_none rfl _ _ _) rfl ?_;refine ⟨⟨_, rfl⟩, .inr ⟨pre ++ [s.extract 0 (i + 1)], ?_⟩⟩;first | exact ⟨_, hpre.out, hJx3'.out⟩ | exact ⟨hpre.out, _, hJx3'.out⟩
end Go.Proofs.YtplijnfaiofckaaGreatDoor

import Derived.Test.YtnhanccjnhgjoaaGreatDoorGk
import Derived.RangeFuncNested
import Derived.RangeFuncBound
import Derived.RangeFuncCalls
import Derived.RangeFuncLeaves
import Derived.Shelf.Abstract
import Derived.Shelf.RegionOpen
import Derived.WalkKit
import Derived.OwnWalkIn
import Derived.TacticsInMore
import Derived.LoopNIn
import Derived.LoopIn
import Derived.Deep.RegionHeld3
import Derived.Deep.AppendLies
namespace Go.Proofs.YtnhanccjnhgjoaaGreatDoor
open Go.RowKit
set_option linter.unusedVariables false
set_option linter.unusedSimpArgs false
set_option maxRecDepth 100000
set_option maxHeartbeats 9000000

def EndsFrom (K : Nat → Int) (n m : Nat) (g : Nat → Value) : Prop := ∀ j, m ≤ j → j < n → ∃ (e h : Nat), g j = .int .i64 (e : Int) ∧ Fo K n 1 j e h

def EndsIs (K : Nat → Int) (n B : Nat) (w : World) (v : Value) : Prop :=
 (v = .slice none 0 0 ∧ ∀ h, ¬ Fo K n 1 0 n h) ∨
 (∃ E : Nat → Nat, 0 < n ∧ v = .slice (some ⟨B, 0, none⟩) n n ∧ w.rowIs B 3 n (fun j => .int .i64 (E j : Int)) ∧ (∀ i, i < n → ∃ h, Fo K n 1 i (E i) h) ∧ E 0 = n)

theorem EndsFrom.store {K : Nat → Int} {n i e h : Nat} {g : Nat → Value} (hg : EndsFrom K n (i + 1) g) (t : Fo K n 1 i e h) : EndsFrom K n i (fun j => if j = i then .int .i64 (e : Int) else g j) := by
 intro j hj hn;by_cases hji : j = i
 ·subst hji;exact ⟨e, h, by simp, t⟩
 ·obtain ⟨e', h', he, t'⟩ := hg j (by omega) hn;exact ⟨e', h', by simp [hji, he], t'⟩
theorem no_tree_neg {K : Nat → Int} {n i : Nat} (hi : i < n) (hk : K i < 0) : ∀ h, ¬ Fo K n 1 0 n h := fun h t => by
 obtain ⟨e, g, u⟩ := t.within i (by omega) hi;obtain ⟨_, _, _, h0, _⟩ := u.one;omega
theorem no_tree_end {K : Nat → Int} {n i k h : Nat} (hi : i < n) (hk : (k : Int) < K i) (t : Fo K n k (i + 1) n h) : ∀ h, ¬ Fo K n 1 0 n h := fun h' t0 => by
 obtain ⟨e, g, u⟩ := t0.within i (by omega) hi;obtain ⟨_, _, _, h0, u'⟩ := u.one;obtain ⟨d, hd⟩ : ∃ d, (K i).toNat = k + (1 + d) := ⟨(K i).toNat - k - 1, by omega⟩;rw [hd] at u';obtain ⟨m, g1, g2, u1, u2, _⟩ := Fo.split k (1 + d) u';obtain ⟨rfl, _⟩ := t.det u1;obtain ⟨m', g3, g4, u3, u4, _⟩ := Fo.split 1 d u2;obtain ⟨_, _, hlt, _, _⟩ := u3.one;omega

theorem EndsIs.made {K : Nat → Int} {n B : Nat} {w : World} {g : Nat → Value} (hn : 0 < n) (hr : w.rowIs B 3 n g) (hg : EndsFrom K n 0 g) (h0 : g 0 = .int .i64 (n : Int)) : EndsIs K n B w (.slice (some ⟨B, 0, none⟩) n n) := by
 refine .inr ⟨fun j => (intOf (g j)).toNat, hn, rfl, hr.congr fun i hi => ?_, fun i hi => ?_, ?_⟩
 ·obtain ⟨e, h, he, _⟩ := hg i (by omega) hi;simp [he, intOf]
 ·obtain ⟨e, h, he, t⟩ := hg i (by omega) hi;refine ⟨h, ?_⟩
  simpa [he, intOf] using t
 ·simp [h0, intOf]
theorem no_tree_first {K : Nat → Int} {n : Nat} {g : Nat → Value} {e : Int} (hn : 0 < n) (hg : EndsFrom K n 0 g) (he : g 0 = .int .i64 e) (hne : e ≠ (n : Int)) : ∀ h, ¬ Fo K n 1 0 n h := fun h t => by
 obtain ⟨e', h', he', t'⟩ := hg 0 (by omega) hn;rw [he] at he';have := (t.det t').1;simp only [Value.int.injEq, true_and] at he';omega

theorem treeEnds_in (ao : Option Addr) (n cap : Nat) (K : Nat → Int) (w : World) (hn : n ≤ 200)
  (hc : 0 < n → ∃ b o, ao = some ⟨b, o, none⟩ ∧ b < w.heap.size ∧ ∀ i, i < n → w.cell? ⟨b, o + i * 10 + 6, none⟩ = some (.int .i64 (K i))) :
  Calls Tryz.prog 49 #[.slice ao n cap] w fun e w' => (∃ v, e = .returned v ∧ EndsIs K n w.heap.size w' v) ∧ Below w.heap.size w w' := by
 have hmk := run_make_rows 45 3 (.int .i64 0) 1 8 Tryz.underlying45 (by kernel_rfl) n (by omega) (by omega);have hc' : Hid (0 < n → ∃ b o, ao = some ⟨b, o, none⟩ ∧ b < w.heap.size ∧ ∀ i, i < n → w.cell? ⟨b, o + i * 10 + 6, none⟩ = some (.int .i64 (K i))) := hc;clear hc;go_enter Tryz.func49, Tryz.ntmps49;go_wp2_with fail;obtain ⟨g0, hg0⟩ := rowIs_madeW w (.int .i64 0) n 1 3;have bw0 := below_madeW w (.int .i64 0) n 1 3;generalize madeW w (.int .i64 0) n 1 3 = w0 at hg0 bw0 ⊢;rw [Nat.mul_one] at hg0;clear hmk;go_loopw [4] (fun i wr => ∃ (m : Nat) (g : Nat → Value), i = .int .i64 ((m : Int) - 1) ∧ m ≤ n ∧ Below w.heap.size w wr ∧ Hid (wr.rowIs w.heap.size 3 n g ∧ EndsFrom K n m g)) (fun i _ => (intOf i + 1).toNat);case atStart => exact ⟨n, g0, rfl, by omega, bw0, hg0, fun j h1 h2 => by omega⟩
 case round =>
  obtain ⟨m, g, rfl, q1, q2, q3⟩ := hrel;by_cases hm : m = 0
  ·subst hm;by_cases hn0 : n = 0
   ·have hno : Hid (∀ h, ¬ Fo K n 1 0 n h) := fun h t => by have := t.le.1; omega
    have hn0' : (n : Int) = 0 := by omega
    go_wp2_with fail;go_ret;exact ⟨⟨_, rfl, .inl ⟨rfl, hno.out⟩⟩, q2⟩
   ·have d0 := q3.out.1.cell (show 0 < n by omega);obtain ⟨e, h, he, t⟩ := q3.out.2 0 (by omega) (by omega);rw [he] at d0;have hn0' : ¬ (n : Int) = 0 := by omega
    by_cases hen : (e : Int) = (n : Int)
    ·have hfin : Hid (EndsIs K n w.heap.size wr (.slice (some ⟨w.heap.size, 0, none⟩) n n)) := EndsIs.made (by omega) q3.out.1 q3.out.2 (by rw [he, hen]);clear t he q3;go_wp2_with fail;go_ret;exact ⟨⟨_, rfl, hfin.out⟩, q2⟩
    ·have hno : Hid (∀ h, ¬ Fo K n 1 0 n h) := no_tree_first (by omega) q3.out.2 he hen;have hne : ((e : Int) != (n : Int)) = true := by simpa using hen
     clear t he q3;go_wp2_with fail;go_ret;exact ⟨⟨_, rfl, .inl ⟨rfl, hno.out⟩⟩, q2⟩
  ·obtain ⟨i, rfl⟩ : ∃ i, m = i + 1 := ⟨m - 1, by omega⟩;have hei : (((i + 1 : Nat) : Int) - 1) = (i : Int) := by omega
   rw [hei];obtain ⟨b, o, rfl, hb, hcc⟩ := hc'.out (by omega);have c6 := hcc i (by omega);rw [← q2.cell (p := ⟨b, _, none⟩) hb] at c6;have hin : (i : Int) < (n : Int) := by omega
   clear hcc hei;by_cases hk : K i < 0
   ·have hno : Hid (∀ h, ¬ Fo K n 1 0 n h) := no_tree_neg (by omega) hk;go_wp2_with fail;go_ret;exact ⟨⟨_, rfl, .inl ⟨rfl, hno.out⟩⟩, q2⟩
   ·go_wp2_with fail;go_loopw [5, 29] (fun v k ws => ∃ (e k' : Nat), v = .int .i64 (e : Int) ∧ k = .int .i64 (k' : Int) ∧ wr = ws ∧ (k' : Int) ≤ K i ∧ e ≤ n ∧ i + 1 ≤ e ∧ k' ≤ n ∧ Hid (∃ h, Fo K n k' (i + 1) e h)) (fun _ k _ => n - (intOf k).toNat);case atStart => exact ⟨i + 1, 0, by simp, rfl, rfl, by omega, by omega, by omega, by omega, ⟨0, .nil⟩⟩
    case round =>
     obtain ⟨e, k, rfl, rfl, rfl, r1, r2, r3, r4, r5⟩ := hrel;by_cases hkk : (k : Int) < K i
     ·by_cases hen : e = n
      ·have hno : Hid (∀ h, ¬ Fo K n 1 0 n h) := by
        obtain ⟨h, t⟩ := r5.out;subst hen;exact no_tree_end (by omega) hkk t
       have hen' : (e : Int) = (n : Int) := by omega
       clear r5 q3;go_wp2_with fail;go_ret;exact ⟨⟨_, rfl, .inl ⟨rfl, hno.out⟩⟩, q2⟩
      ·have hen' : ¬ (e : Int) = (n : Int) := by omega
       have hel : (e : Int) < (n : Int) := by omega
       have d0 := q3.out.1.cell (show e < n by omega);obtain ⟨e2, h2, he2, t2⟩ := q3.out.2 e (by omega) (by omega);rw [he2] at d0
       have hnew : Hid (∃ h, Fo K n (k + 1) (i + 1) e2 h) := by
        obtain ⟨h, t⟩ := r5.out;exact ⟨_, t.join t2⟩
       have le2 := t2.le
       have hkn : k + 1 ≤ n := by
        obtain ⟨h, t⟩ := r5.out;have := t.le.1;omega
       clear r5 he2 t2;go_wp2_with fail;go_roundw;case rel => exact ⟨e2, k + 1, rfl, rfl, by first | trivial | rfl, by omega, by omega, by omega, by omega, hnew⟩
       case measure => simp [intOf]; omega
     ·have d0 := q3.out.1.cell (show i < n by omega);have f0 := q3.out.1.frozen i
      have q6 : Hid ((wr.setCell ⟨w.heap.size, i, none⟩ (.int .i64 (e : Int))).rowIs w.heap.size 3 n (fun j => if j = i then .int .i64 (e : Int) else g j) ∧ EndsFrom K n i (fun j => if j = i then .int .i64 (e : Int) else g j)) := by
       obtain ⟨h, t⟩ := r5.out;refine ⟨q3.out.1.set i _, q3.out.2.store (Fo.mk1 (by omega) (by omega) (g := h) ?_)⟩
       rwa [show (K i).toNat = k by omega]
      have q7 : Below w.heap.size w (wr.setCell ⟨w.heap.size, i, none⟩ (.int .i64 (e : Int))) := q2.setCell (p := ⟨w.heap.size, i, none⟩) (Nat.le_refl _) _;generalize g i = gi at d0;clear r5 q3;go_wp2_with fail;go_roundw;case rel => exact ⟨i, _, rfl, by omega, q7, q6⟩
      case measure => simp [intOf]
end Go.Proofs.YtnhanccjnhgjoaaGreatDoor
namespace Go.Proofs.YtnhanccjnhgjoaaGreatDoor
open Go.RowKit Go.Shelf
set_option linter.unusedVariables false
set_option linter.unusedSimpArgs false

structure Keep (lo B : Nat) (W W' : World) : Prop where
 size : W.heap.size ≤ W'.heap.size
 block : ∀ b, b < lo ∨ B ≤ b → b < W.heap.size → W'.heap[b]? = W.heap[b]?
theorem Keep.refl (lo B : Nat) (W : World) : Keep lo B W W := ⟨Nat.le_refl _, fun _ _ _ => rfl⟩
theorem Keep.trans {lo B : Nat} {W W' W'' : World} (h : Keep lo B W W') (k : Keep lo B W' W'') : Keep lo B W W'' :=
 ⟨Nat.le_trans h.size k.size, fun b hb hl => (k.block b hb (Nat.lt_of_lt_of_le hl h.size)).trans (h.block b hb hl)⟩
theorem Keep.of_below {lo B : Nat} {W W' : World} (h : Below W.heap.size W W') : Keep lo B W W' := ⟨h.size, fun b _ hl => h.block b hl⟩
theorem Keep.setCell {lo B : Nat} (W : World) {a : Addr} (h1 : lo ≤ a.block) (h2 : a.block < B) (u : Value) : Keep lo B W (W.setCell a u) :=
 ⟨by rw [World.size_setCell]; exact Nat.le_refl _, fun b hb _ => Below.heap_setCell W a u b (by omega)⟩
theorem Keep.putObj {lo B : Nat} (W : World) {l : Nat} (h1 : lo ≤ l) (h2 : l < B) (o : Obj) : Keep lo B W (W.putObj l o) :=
 ⟨by simp, fun b hb _ => World.putObj_heap_other (by omega)⟩
theorem Keep.wider {lo B B' : Nat} {W W' : World} (h : Keep lo B W W') (hB : B ≤ B') : Keep lo B' W W' :=
 ⟨h.size, fun b hb hl => h.block b (by omega) hl⟩

def Stable {β : Type} (B : Nat) (I : β → World → Prop) : Prop := ∀ s A C, I s A → Below B A C → I s C
theorem below_putObj {B : Nat} (W : World) {l : Nat} (h : B ≤ l) (hl : l < W.heap.size) (o : Obj) : Below B W (W.putObj l o) :=
 (Below.refl B W).grown (grownBy_putObj' W l o) (by omega) (fun k e => by cases e; exact h)

def RoundEnd {α : Type} (lo B : Nat) (I : List α → World → Prop) (Ix : Code → List α → World → Prop) (xs : List α) (W : World) : Exit → Act → World → Prop
 | .normal, _, W' => Keep lo B W W' ∧ I xs W'
 | .ret, _, W' => Keep lo B W W' ∧ Ix .ret xs W'
 | .exit id, _, W' => Keep lo B W W' ∧ Ix (.exit id) xs W'
 | .goto t, _, W' => Keep lo B W W' ∧ Ix (.goto t) xs W'
 | .panic _, _, _ => False
 | .outgrown, _, _ => False

def SeqB {α : Type} (m : Nat) (P : Program) (gf : Nat) (lb : Array Value) (encs : α → Array Value) (lo l : Nat) (S Sp : List α → Prop) (N : Nat) (W : World) : Prop :=
 ∀ (J Jx : List α → World → Prop), Stable W.heap.size J → Stable W.heap.size Jx →
  (∀ pre x W1, J pre W1 → pre.length < N → YieldAt Fence.wide (m - 1) P l (encs x) W1 fun e W' =>
   (e = .returned (.bool true) ∧ J (pre ++ [x]) W' ∧ Keep lo W.heap.size W1 W') ∨ (e = .returned (.bool false) ∧ Jx (pre ++ [x]) W')) →
  J [] W →
  CallsIn Fence.wide m P gf (#[.func (.yield l) #[] #[]] ++ lb) W fun e W' => (∃ v, e = .returned v) ∧ ((∃ xs, S xs ∧ J xs W') ∨ (∃ pre, Sp pre ∧ Jx pre W'))

theorem range_law {α : Type} {P : Program} {m : Nat} {g : Operand} {ps : Array Tmp} {assign body : Code} {Q : Exit → Act → World → Prop} {a : Act} {w : World}
  {gf : Nat} {lb : Array Value} (hg : a.eval g = .func (.func gf) #[] lb) (eg : ∀ args w, (callFunc gf args).run P w = .ok (.enter gf args) w) (h1 : 1 ≤ m)
  {encs : α → Array Value} (hps : ∀ x, (encs x).size = ps.size) {lo N : Nat} (hlo : lo ≤ w.heap.size) {S Sp : List α → Prop}
  (I : List α → World → Prop) (Ix : Code → List α → World → Prop) (hI : Stable w.heap.size I) (hIx : ∀ c, Stable w.heap.size (Ix c)) (h0 : I [] w)
  (hseq : ∀ W, W.heap.size = w.heap.size + 2 → Below w.heap.size w W → SeqB (m - 1) P gf lb encs lo (w.heap.size + 1) S Sp N W)
  (Ax : α → Act → World → Prop) (hAx : ∀ x a' W o, Ax x a' W → Ax x a' (W.putObj (w.heap.size + 1) o))
  (hassign : ∀ (l : Nat) (pre : List α) (x : α) (W : World) (K : Act → World → Prop), w.heap.size + 2 ≤ W.heap.size → I pre W →
   (∀ a' W', Keep lo w.heap.size W W' → I pre W' → Ax x a' W' → K a' W') →
   assign.wpIn (Fence.wide.inRound l) (m - 1 - 1) P (Exit.then K (fun _ _ _ => False)) { tmps := (ps.zip (encs x)).foldl (fun t (p, v) => t.setIfInBounds p v) a.tmps, defers := [] } W)
  (hbody : ∀ (l : Nat) (pre : List α) (x : α) (a' : Act) (W : World), w.heap.size + 2 ≤ W.heap.size → I pre W → Ax x a' W → pre.length < N →
   body.wpIn (Fence.wide.inRound l) (m - 1 - 1) P (RoundEnd lo w.heap.size I Ix (pre ++ [x]) W) a' W)
  (hdone : ∀ (D : Nat) (xs : List α) (W : World), w.heap.size = D → S xs → I xs W → W.heap[D]? = some (.deferred (some [])) → Q .normal { a with defers := { target := .collected D, args := #[] } :: a.defers } W)
  (hstop : ∀ (D : Nat) (c : Code) (pre : List α) (W : World), w.heap.size = D → Sp pre → Ix c pre W → W.heap[D]? = some (.deferred (some [])) →
   c.wpIn Fence.wide m P Q { a with defers := { target := .collected D, args := #[] } :: a.defers } W) :
  (Code.rangeFunc g ps assign body).wpIn Fence.wide m P Q a w := by
 refine wpIn_rangeFunc fun fn hfn => ?_
 -- the record of the loop, in whatever state
 let R : LoopState → Option Code → Loop := fun st pe => { state := st, pending := pe, fn := fn, tmps := a.tmps, params := ps, assign := assign, body := body, defers := w.heap.size }
 let W0 : World := (w.alloc (.deferred (some []))).alloc (.loop (R .ready none))
 have sz0 : W0.heap.size = w.heap.size + 2 := by simp [W0]
 have bel0 : Below w.heap.size w W0 := ((Below.refl _ w).alloc (Nat.le_refl _) _).alloc (by simp) _;have hD0 : W0.heap[w.heap.size]? = some (.deferred (some [])) := (Below.heap_alloc _ _ _ (by simp)).trans (World.alloc_heap_new w _)
 have hL0 : W0.heap[w.heap.size + 1]? = some (.loop (R .ready none)) := by
  have := World.alloc_heap_new (w.alloc (.deferred (some []))) (.loop (R .ready none))
  rwa [World.size_alloc] at this
 refine ⟨w.heap.size + 1, [{ target := .collected w.heap.size, args := #[] }], W0, { target := .fn (.func gf) lb, args := #[.func (.yield (w.heap.size + 1)) #[] #[]] }, W0, gf,
  #[.func (.yield (w.heap.size + 1)) #[] #[]] ++ lb, W0, run_enterLoop_outer _ _ _ _ _, ?_, fun _ _ => trivial, ?_, fun _ => h1, ?_⟩
 ·simp only [resolve, hg];simp [go_sem]
 ·simp [invoke, go_sem, eg]
 have key := hseq W0 sz0 bel0
  (fun pre W => I pre W ∧ w.heap.size + 2 ≤ W.heap.size ∧ W.heap[w.heap.size + 1]? = some (.loop (R .ready none)) ∧ W.heap[w.heap.size]? = some (.deferred (some [])))
  (fun pre W => ∃ c, Ix c pre W ∧ w.heap.size + 2 ≤ W.heap.size ∧ W.heap[w.heap.size + 1]? = some (.loop (R .done (some c))) ∧ W.heap[w.heap.size]? = some (.deferred (some [])))
  (fun s A C hs hb => ⟨hI s A C hs.1 (hb.mono (by omega)), Nat.le_trans hs.2.1 hb.size, (hb.block _ (by omega)).trans hs.2.2.1, (hb.block _ (by omega)).trans hs.2.2.2⟩)
  (fun s A C hs hb => by
   obtain ⟨c, k1, k2, k3, k4⟩ := hs;exact ⟨c, hIx c s A C k1 (hb.mono (by omega)), Nat.le_trans k2 hb.size, (hb.block _ (by omega)).trans k3, (hb.block _ (by omega)).trans k4⟩)
  ?_ ⟨hI _ _ _ h0 bel0, by omega, hL0, hD0⟩
 ·refine key.mono ?_;rintro e W2 ⟨⟨v, rfl⟩, (⟨xs, hS, hi, hsz, hl, hk⟩ | ⟨pre, hSp, c, hi, hsz, hl, hk⟩)⟩
  ·refine ⟨none, _, run_endLoop (P := P) hl (by simp [R]), ?_⟩;exact hdone _ xs _ rfl hS (hI _ _ _ hi (below_putObj _ (by omega) (by omega) _)) ((World.putObj_heap_other (by omega)).trans hk)
  ·refine ⟨some c, _, run_endLoop (P := P) hl (by simp [R]), ?_⟩;exact hstop _ c pre _ rfl hSp (hIx c _ _ _ hi (below_putObj _ (by omega) (by omega) _)) ((World.putObj_heap_other (by omega)).trans hk)
 ·rintro pre x W ⟨hi, hsz, hl, hk⟩ hlen;refine ⟨fn, _, assign, body, run_yield (P := P) (args := encs x) hl (hps x), roundIn_of_wpIn hfn (hassign _ pre x W _ hsz hi ?_)⟩;intro a' Wa ka ia ax;have la := (ka.block _ (.inr (by omega)) (by omega)).trans hl;have da := (ka.block _ (.inr (by omega)) (by omega)).trans hk;have sa : w.heap.size + 2 ≤ Wa.heap.size := Nat.le_trans hsz ka.size;refine ⟨_, run_beginRound la rfl, ?_⟩;have kb := Keep.putObj (lo := lo) (B := w.heap.size + 2) Wa (l := w.heap.size + 1) (by omega) (by omega) (.loop { R .ready none with state := .busy });have lb' : (Wa.putObj (w.heap.size + 1) (.loop { R .ready none with state := .busy })).heap[w.heap.size + 1]? = some (.loop { R .ready none with state := .busy }) := World.putObj_heap_same (by omega);have db : (Wa.putObj (w.heap.size + 1) (.loop { R .ready none with state := .busy })).heap[w.heap.size]? = some (.deferred (some [])) := (World.putObj_heap_other (by omega)).trans da;have ib := hI _ _ _ ia (below_putObj Wa (l := w.heap.size + 1) (by omega) (by omega) (.loop { R .ready none with state := .busy }));refine wpIn_mono (hbody _ pre x a' _ (by simpa using sa) ib (hAx x a' Wa _ ax) hlen) ?_;intro e a3 W3 hp
  have fin : ∀ (jump : Option Code), Keep lo w.heap.size (Wa.putObj (w.heap.size + 1) (.loop { R .ready none with state := .busy })) W3 →
    ∃ W4, W4 = W3.putObj (w.heap.size + 1) (.loop (R (if jump.isNone then .ready else .done) jump)) ∧ (Instr.endRound (w.heap.size + 1) jump).run P W3 = .ok (.bool jump.isNone) W4 ∧ Below w.heap.size W3 W4 ∧ w.heap.size + 2 ≤ W4.heap.size ∧
     W4.heap[w.heap.size + 1]? = some (.loop (R (if jump.isNone then .ready else .done) jump)) ∧ W4.heap[w.heap.size]? = some (.deferred (some [])) ∧ Keep lo (w.heap.size + 2) W W4 := by
   intro jump k3
   have s3 : w.heap.size + 2 ≤ W3.heap.size := by
    have := k3.size;simp at this;omega
   have l3 := (k3.block _ (.inr (by omega)) (by simp; omega)).trans lb';have d3 := (k3.block _ (.inr (by omega)) (by simp; omega)).trans db;refine ⟨_, rfl, run_endRound (P := P) jump l3, below_putObj _ (by omega) (by omega) _, by simpa using s3, World.putObj_heap_same (by omega), (World.putObj_heap_other (by omega)).trans d3, ?_⟩;exact (((ka.wider (by omega)).trans kb).trans (k3.wider (by omega))).trans (Keep.putObj _ (by omega) (by omega) _)
  rw [sz0]
  cases e with
  | normal =>
   obtain ⟨k3, i3⟩ := hp;obtain ⟨W4, _, r4, b4, s4, l4, d4, k4⟩ := fin none k3;exact ⟨_, _, r4, .inl ⟨rfl, ⟨hI _ _ _ i3 b4, s4, l4, d4⟩, k4⟩⟩
  | ret =>
   obtain ⟨k3, i3⟩ := hp;obtain ⟨W4, _, r4, b4, s4, l4, d4, k4⟩ := fin (some .ret) k3;exact ⟨_, _, r4, .inr ⟨rfl, _, hIx _ _ _ _ i3 b4, s4, l4, d4⟩⟩
  | exit id =>
   obtain ⟨k3, i3⟩ := hp;obtain ⟨W4, _, r4, b4, s4, l4, d4, k4⟩ := fin (some (.exit id)) k3;exact ⟨_, _, r4, .inr ⟨rfl, _, hIx _ _ _ _ i3 b4, s4, l4, d4⟩⟩
  | goto t =>
   obtain ⟨k3, i3⟩ := hp;obtain ⟨W4, _, r4, b4, s4, l4, d4, k4⟩ := fin (some (.goto t)) k3;exact ⟨_, _, r4, .inr ⟨rfl, _, hIx _ _ _ _ i3 b4, s4, l4, d4⟩⟩
  | panic ch => exact hp.elim
  | outgrown => exact hp.elim
section
variable {P : Program} {ops : Array Oper} {Q : Exit → Act → World → Prop} {md : Region.Mode} {S : World → Prop} {l n : Nat}

theorem oper_round {o : Oper} {a : Act} {w : World} {K : Act → World → Prop} (hd : ∀ c, o.op ≠ .defer c) (h : o.wp P a w K Q) : o.wpIn (Fence.wide.inRound l) n P a w K Q := by
 refine ⟨fun _ _ => trivial, ?_⟩;rw [Oper.semAt_plain _ _ _ hd];unfold Oper.wp at h;generalize (execOp a.eval o).run P w = r at h ⊢
 cases r with
 | ok x w' =>
  cases x with
  | value v => exact h
  | skip => exact h
  | defer d => exact h
  | enter f args => exact ⟨fun hx => (by cases hx), CallsIn.inRound l (callsIn_wide.2 h)⟩
  | row row args => exact ⟨fun hx => (by cases hx), fun c cs _ => let ⟨v, w', q, s⟩ := h c cs; ⟨v, w', q, stepsIn_wide.2 s⟩⟩
  | _ => exact (h : False).elim
 | halt x w' =>
  cases x with
  | panic v => exact h
  | _ => exact (h : False).elim
theorem any_round (hd : ∀ (i : Nat) (o : Oper), ops[i]? = some o → ∀ c, o.op ≠ .defer c) (hL : ¬ LetsOut Q) :
  ∀ (fuel : Nat) (listed : Array Bool) (a : Act) (w : World), wpAny P md ops Q fuel listed a w → wpAnyIn (Fence.wide.inRound l) n P md ops Q fuel listed a w := by
 intro fuel
 induction fuel with
 | zero => intro listed a w h; exact h
 | succ fuel ih =>
  intro listed a w h;refine ⟨h.1, fun i hi => ?_⟩;have h2 := h.2 i hi;unfold wpOp at h2;unfold wpOpIn
  cases ho : ops[i]? with
  | none =>
   rw [ho] at h2;exact ih _ _ _ h2
  | some o =>
   rw [ho] at h2;dsimp only at h2 ⊢;split
   ·rename_i hw;rw [if_pos hw] at h2;rcases h2 with h2 | ⟨_, h2⟩
    ·exact Oper.wpIn_mono (fun a w h => ih _ a w h) (oper_round (hd i o ho) h2)
    ·exact absurd h2 hL
   ·rename_i hw;rw [if_neg hw] at h2;exact ⟨fun _ _ => trivial, ih _ _ _ h2⟩
theorem region_round {id : Nat} {a : Act} {w : World} (hm : P.follows .mixedOrders = true) (hd : ∀ (i : Nat) (o : Oper), ops[i]? = some o → ∀ c, o.op ≠ .defer c) (hL : ¬ LetsOut Q) (hS : S w.drew)
  (h : S w.drew → wpAnyH P .any ops Q S ops.size (Array.replicate ops.size false) a w.drew) : (Code.region id ops true).wpIn (Fence.wide.inRound l) n P Q a w :=
 wpIn_region_any hm (any_round hd hL _ _ _ _ (wpAny_of_held _ _ _ _ (h hS)))
end
structure StepO (O : Nat → Prop) (A C : World) : Prop where
 os : C.os = A.os
 tape : C.tape = A.tape
 output : C.output = A.output
 size : A.heap.size ≤ C.heap.size
 block : ∀ b, b < A.heap.size → ¬ O b → C.heap[b]? = A.heap[b]?
theorem StepO.of_below {O : Nat → Prop} {A C : World} (h : Below A.heap.size A C) : StepO O A C := ⟨h.os, h.tape, h.output, h.size, fun b hb _ => h.block b hb⟩
structure KeepO (O : Nat → Prop) (lo : Nat) (W W' : World) : Prop where
 size : W.heap.size ≤ W'.heap.size
 block : ∀ b, O b ∨ b < lo → b < W.heap.size → W'.heap[b]? = W.heap[b]?
def moreO (O : Nat → Prop) (A C : World) : Nat → Prop := fun b => O b ∨ (A.heap.size ≤ b ∧ b < C.heap.size)
def AbideO {β : Type} (J : (Nat → Prop) → β → World → Prop) : Prop := ∀ O s A C, J O s A → StepO O A C → J (moreO O A C) s C

def SeqO {α : Type} (m : Nat) (P : Program) (gf : Nat) (lb : Array Value) (encs : α → Array Value) (lo l : Nat) (S Sp : List α → Prop) (N : Nat) (W : World) : Prop :=
 ∀ (J Jx : (Nat → Prop) → List α → World → Prop), AbideO J → AbideO Jx →
  (∀ O pre x W1, J O pre W1 → pre.length < N → YieldAt Fence.wide (m - 1) P l (encs x) W1 fun e W' =>
   (e = .returned (.bool true) ∧ J O (pre ++ [x]) W' ∧ KeepO O lo W1 W') ∨ (e = .returned (.bool false) ∧ Jx O (pre ++ [x]) W')) →
  J (fun _ => False) [] W →
  CallsIn Fence.wide m P gf (#[.func (.yield l) #[] #[]] ++ lb) W fun e W' => (∃ v, e = .returned v) ∧ ((∃ xs O, S xs ∧ J O xs W') ∨ (∃ pre O, Sp pre ∧ Jx O pre W'))

structure GrowU (U U' : Nat → Prop) (W W' : World) : Prop where
 size : W.heap.size ≤ W'.heap.size
 block : ∀ b, b < W.heap.size → ¬ U b → W'.heap[b]? = W.heap[b]?
 foot : ∀ b, U' b → U b ∨ W.heap.size ≤ b
def FootU {β : Type} (lo : Nat) (I : β → (Nat → Prop) → World → Prop) : Prop :=
 ∀ s U A C, I s U A → C.os = A.os → C.tape = A.tape → C.output = A.output → A.heap.size ≤ C.heap.size → (∀ b, U b → C.heap[b]? = A.heap[b]?) → (∀ b, b < lo → C.heap[b]? = A.heap[b]?) → I s U C
def RoundU {α : Type} (I : List α → (Nat → Prop) → World → Prop) (Ix : Code → List α → (Nat → Prop) → World → Prop) (xs : List α) (U : Nat → Prop) (W : World) : Exit → Act → World → Prop
 | .normal, _, W' => ∃ U', GrowU U U' W W' ∧ I xs U' W'
 | .ret, _, W' => ∃ U', GrowU U U' W W' ∧ Ix .ret xs U' W'
 | .exit id, _, W' => ∃ U', GrowU U U' W W' ∧ Ix (.exit id) xs U' W'
 | .goto t, _, W' => ∃ U', GrowU U U' W W' ∧ Ix (.goto t) xs U' W'
 | .panic _, _, _ => False
 | .outgrown, _, _ => False

theorem range_lawO {α : Type} {P : Program} {m : Nat} {g : Operand} {ps : Array Tmp} {assign body : Code} {Q : Exit → Act → World → Prop} {a : Act} {w : World}
  {gf : Nat} {lb : Array Value} (hg : a.eval g = .func (.func gf) #[] lb) (eg : ∀ args w, (callFunc gf args).run P w = .ok (.enter gf args) w) (h1 : 1 ≤ m)
  {encs : α → Array Value} (hps : ∀ x, (encs x).size = ps.size) {lo N : Nat} (hlo : lo ≤ w.heap.size) {S Sp : List α → Prop}
  (I : List α → (Nat → Prop) → World → Prop) (Ix : Code → List α → (Nat → Prop) → World → Prop) (hI : FootU lo I) (hIx : ∀ c, FootU lo (Ix c))
  (hIu : ∀ s U A, I s U A → ∀ b, U b → lo ≤ b ∧ b < A.heap.size ∧ (b < w.heap.size ∨ w.heap.size + 2 ≤ b)) (hXu : ∀ c s U A, Ix c s U A → ∀ b, U b → b < A.heap.size ∧ (b < w.heap.size ∨ w.heap.size + 2 ≤ b))
  (h0 : ∃ U, I [] U w)
  (hseq : ∀ W, W.heap.size = w.heap.size + 2 → Below w.heap.size w W → SeqO (m - 1) P gf lb encs lo (w.heap.size + 1) S Sp N W)
  (Ax : α → Act → World → Prop) (hAx : ∀ x a' W o, Ax x a' W → Ax x a' (W.putObj (w.heap.size + 1) o))
  (hassign : ∀ (l : Nat) (pre : List α) (x : α) (W : World) (K : Act → World → Prop), w.heap.size + 2 ≤ W.heap.size →
   (∀ a' W', Below W.heap.size W W' → Ax x a' W' → K a' W') →
   assign.wpIn (Fence.wide.inRound l) (m - 1 - 1) P (Exit.then K (fun _ _ _ => False)) { tmps := (ps.zip (encs x)).foldl (fun t (p, v) => t.setIfInBounds p v) a.tmps, defers := [] } W)
  (hbody : ∀ (l : Nat) (pre : List α) (x : α) (a' : Act) (U : Nat → Prop) (W : World), w.heap.size + 2 ≤ W.heap.size → I pre U W → Ax x a' W → pre.length < N →
   body.wpIn (Fence.wide.inRound l) (m - 1 - 1) P (RoundU I Ix (pre ++ [x]) U W) a' W)
  (hdone : ∀ (D : Nat) (xs : List α) (U : Nat → Prop) (W : World), w.heap.size = D → S xs → I xs U W → W.heap[D]? = some (.deferred (some [])) → Q .normal { a with defers := { target := .collected D, args := #[] } :: a.defers } W)
  (hstop : ∀ (D : Nat) (c : Code) (pre : List α) (U : Nat → Prop) (W : World), w.heap.size = D → Sp pre → Ix c pre U W → W.heap[D]? = some (.deferred (some [])) →
   c.wpIn Fence.wide m P Q { a with defers := { target := .collected D, args := #[] } :: a.defers } W) :
  (Code.rangeFunc g ps assign body).wpIn Fence.wide m P Q a w := by
 refine wpIn_rangeFunc fun fn hfn => ?_
 let R : LoopState → Option Code → Loop := fun st pe => { state := st, pending := pe, fn := fn, tmps := a.tmps, params := ps, assign := assign, body := body, defers := w.heap.size }
 let W0 : World := (w.alloc (.deferred (some []))).alloc (.loop (R .ready none))
 have sz0 : W0.heap.size = w.heap.size + 2 := by simp [W0]
 have bel0 : Below w.heap.size w W0 := ((Below.refl _ w).alloc (Nat.le_refl _) _).alloc (by simp) _;have hD0 : W0.heap[w.heap.size]? = some (.deferred (some [])) := (Below.heap_alloc _ _ _ (by simp)).trans (World.alloc_heap_new w _)
 have hL0 : W0.heap[w.heap.size + 1]? = some (.loop (R .ready none)) := by
  have := World.alloc_heap_new (w.alloc (.deferred (some []))) (.loop (R .ready none))
  rwa [World.size_alloc] at this
 refine ⟨w.heap.size + 1, [{ target := .collected w.heap.size, args := #[] }], W0, { target := .fn (.func gf) lb, args := #[.func (.yield (w.heap.size + 1)) #[] #[]] }, W0, gf,
  #[.func (.yield (w.heap.size + 1)) #[] #[]] ++ lb, W0, run_enterLoop_outer _ _ _ _ _, ?_, fun _ _ => trivial, ?_, fun _ => h1, ?_⟩
 ·simp only [resolve, hg];simp [go_sem]
 ·simp [invoke, go_sem, eg]
 -- a turn of the loop's record leaves the caller's word alone
 have putI : ∀ {β : Type} {I' : β → (Nat → Prop) → World → Prop} (_ : FootU lo I') (s : β) (U : Nat → Prop) (A : World) (o : Obj), (∀ b, U b → b ≠ w.heap.size + 1) → w.heap.size + 1 < A.heap.size → I' s U A → I' s U (A.putObj (w.heap.size + 1) o) :=
  fun hI' s U A o hu hl hi => hI' s U A _ hi rfl rfl rfl (by simp) (fun b hb => World.putObj_heap_other (hu b hb)) (fun b hb => World.putObj_heap_other (by omega))
 have key := hseq W0 sz0 bel0
  (fun O pre W => ∃ U, I pre U W ∧ w.heap.size + 2 ≤ W.heap.size ∧ W.heap[w.heap.size + 1]? = some (.loop (R .ready none)) ∧ W.heap[w.heap.size]? = some (.deferred (some [])) ∧ (∀ b, O b → ¬ U b ∧ w.heap.size + 2 ≤ b ∧ b < W.heap.size))
  (fun O pre W => ∃ c U, Ix c pre U W ∧ w.heap.size + 2 ≤ W.heap.size ∧ W.heap[w.heap.size + 1]? = some (.loop (R .done (some c))) ∧ W.heap[w.heap.size]? = some (.deferred (some [])) ∧ (∀ b, O b → ¬ U b ∧ w.heap.size + 2 ≤ b ∧ b < W.heap.size))
  (fun O s A C hs hb => by
   obtain ⟨U, hi, h2, h3, h4, h5⟩ := hs;have hu := hIu s U A hi
   refine ⟨U, hI s U A C hi hb.os hb.tape hb.output hb.size (fun b hub => hb.block b (hu b hub).2.1 (fun ho => (h5 b ho).1 hub)) (fun b hlt => hb.block b (by omega) (fun ho => by have := (h5 b ho).2.1; omega)), Nat.le_trans h2 hb.size,
    (hb.block _ (by omega) (fun ho => by have := (h5 _ ho).2.1; omega)).trans h3, (hb.block _ (by omega) (fun ho => by have := (h5 _ ho).2.1; omega)).trans h4, fun b ho => ?_⟩
   rcases ho with ho | ho
   ·exact ⟨(h5 b ho).1, (h5 b ho).2.1, Nat.lt_of_lt_of_le (h5 b ho).2.2 hb.size⟩
   ·exact ⟨fun hub => by have := (hu b hub).2.1; omega, by omega, ho.2⟩)
  (fun O s A C hs hb => by
   obtain ⟨c, U, hi, h2, h3, h4, h5⟩ := hs;have hu := hXu c s U A hi
   refine ⟨c, U, hIx c s U A C hi hb.os hb.tape hb.output hb.size (fun b hub => hb.block b (hu b hub).1 (fun ho => (h5 b ho).1 hub)) (fun b hlt => hb.block b (by omega) (fun ho => by have := (h5 b ho).2.1; omega)), Nat.le_trans h2 hb.size,
    (hb.block _ (by omega) (fun ho => by have := (h5 _ ho).2.1; omega)).trans h3, (hb.block _ (by omega) (fun ho => by have := (h5 _ ho).2.1; omega)).trans h4, fun b ho => ?_⟩
   rcases ho with ho | ho
   ·exact ⟨(h5 b ho).1, (h5 b ho).2.1, Nat.lt_of_lt_of_le (h5 b ho).2.2 hb.size⟩
   ·exact ⟨fun hub => by have := (hu b hub).1; omega, by omega, ho.2⟩)
  ?_ ?_
 ·refine key.mono ?_;rintro e W2 ⟨⟨v, rfl⟩, (⟨xs, O, hS, U, hi, hsz, hl, hk, _⟩ | ⟨pre, O, hSp, c, U, hi, hsz, hl, hk, _⟩)⟩
  ·refine ⟨none, _, run_endLoop (P := P) hl (by simp [R]), ?_⟩;exact hdone _ xs U _ rfl hS (putI hI xs U W2 _ (fun b hb => by have := (hIu xs U W2 hi b hb).2.2; omega) (by omega) hi) ((World.putObj_heap_other (by omega)).trans hk)
  ·refine ⟨some c, _, run_endLoop (P := P) hl (by simp [R]), ?_⟩;exact hstop _ c pre U _ rfl hSp (putI (hIx c) pre U W2 _ (fun b hb => by have := (hXu c pre U W2 hi b hb).2; omega) (by omega) hi) ((World.putObj_heap_other (by omega)).trans hk)
 ·rintro O pre x W ⟨U, hi, hsz, hl, hk, hO⟩ hlen;refine ⟨fn, _, assign, body, run_yield (P := P) (args := encs x) hl (hps x), roundIn_of_wpIn hfn (hassign _ pre x W _ hsz ?_)⟩;intro a' Wa ba ax;have hu := hIu pre U W hi;have ia : I pre U Wa := hI pre U W Wa hi ba.os ba.tape ba.output ba.size (fun b hb => ba.block b (hu b hb).2.1) (fun b hb => ba.block b (by omega));have la := (ba.block _ (by omega)).trans hl;have da := (ba.block _ (by omega)).trans hk;have sa : w.heap.size + 2 ≤ Wa.heap.size := Nat.le_trans hsz ba.size;refine ⟨_, run_beginRound la rfl, ?_⟩;have hub : ∀ b, U b → b ≠ w.heap.size + 1 := fun b hb => by have := (hu b hb).2.2; omega
  have lb' : (Wa.putObj (w.heap.size + 1) (.loop { R .ready none with state := .busy })).heap[w.heap.size + 1]? = some (.loop { R .ready none with state := .busy }) := World.putObj_heap_same (by omega);have db : (Wa.putObj (w.heap.size + 1) (.loop { R .ready none with state := .busy })).heap[w.heap.size]? = some (.deferred (some [])) := (World.putObj_heap_other (by omega)).trans da;have ib := putI hI pre U Wa (.loop { R .ready none with state := .busy }) hub (by omega) ia;have szb : (Wa.putObj (w.heap.size + 1) (.loop { R .ready none with state := .busy })).heap.size = Wa.heap.size := by simp
  refine wpIn_mono (hbody _ pre x a' U _ (by simpa using sa) ib (hAx x a' Wa _ ax) hlen) ?_;intro e a3 W3 hp
  have fin : ∀ (jump : Option Code) (U' : Nat → Prop), GrowU U U' (Wa.putObj (w.heap.size + 1) (.loop { R .ready none with state := .busy })) W3 → (∀ b, U' b → b < W3.heap.size ∧ (b < w.heap.size ∨ w.heap.size + 2 ≤ b)) →
    ∃ W4, W4 = W3.putObj (w.heap.size + 1) (.loop (R (if jump.isNone then .ready else .done) jump)) ∧ (Instr.endRound (w.heap.size + 1) jump).run P W3 = .ok (.bool jump.isNone) W4 ∧ w.heap.size + 2 ≤ W4.heap.size ∧
     W4.heap[w.heap.size + 1]? = some (.loop (R (if jump.isNone then .ready else .done) jump)) ∧ W4.heap[w.heap.size]? = some (.deferred (some [])) ∧ (∀ b, O b → ¬ U' b ∧ w.heap.size + 2 ≤ b ∧ b < W4.heap.size) ∧ KeepO O lo W W4 := by
   intro jump U' k3 hu';have s3 : Wa.heap.size ≤ W3.heap.size := by have := k3.size; omega
   have hrec : ∀ b, b < Wa.heap.size → ¬ U b → b ≠ w.heap.size + 1 → W3.heap[b]? = Wa.heap[b]? := fun b h1 h2 h3 => (k3.block b (by omega) h2).trans (World.putObj_heap_other h3);have l3 := (k3.block (w.heap.size + 1) (by omega) (fun hb => hub _ hb rfl)).trans lb';have d3 := (k3.block w.heap.size (by omega) (fun hb => by have := (hu _ hb).2.2; omega)).trans db;have s4 : (W3.putObj (w.heap.size + 1) (.loop (R (if jump.isNone then .ready else .done) jump))).heap.size = W3.heap.size := by simp
   refine ⟨_, rfl, run_endRound (P := P) jump l3, by omega, World.putObj_heap_same (by omega), (World.putObj_heap_other (by omega)).trans d3, fun b hb => ?_, ⟨?_, fun b hb hlt => ?_⟩⟩
   ·have h := hO b hb;refine ⟨fun hub' => ?_, h.2.1, ?_⟩
    ·rcases k3.foot b hub' with h' | h'
     ·exact h.1 h'
     ·have := ba.size;omega
    ·have := ba.size;omega
   ·have := ba.size;omega
   ·have hnu : ¬ U b := fun hub' => by
     rcases hb with hb | hb
     ·exact (hO b hb).1 hub'
     ·have := (hu b hub').1;omega
    have hne : b ≠ w.heap.size + 1 := by
     rcases hb with hb | hb
     ·have := (hO b hb).2.1;omega
     ·omega
    rw [World.putObj_heap_other hne, hrec b (by have := ba.size; omega) hnu hne, ba.block b hlt]
  cases e with
  | normal =>
   obtain ⟨U', k3, i3⟩ := hp;obtain ⟨W4, rfl, r4, s4, l4, d4, o4, k4⟩ := fin none U' k3 (fun b hb => (hIu _ U' W3 i3 b hb).2);exact ⟨_, _, r4, .inl ⟨rfl, ⟨U', putI hI _ U' W3 _ (fun b hb => by have := (hIu _ U' W3 i3 b hb).2.2; omega) (by have h := s4; simp at h; omega) i3, s4, l4, d4, o4⟩, k4⟩⟩
  | ret =>
   obtain ⟨U', k3, i3⟩ := hp;obtain ⟨W4, rfl, r4, s4, l4, d4, o4, k4⟩ := fin (some .ret) U' k3 (fun b hb => hXu _ _ U' W3 i3 b hb);exact ⟨_, _, r4, .inr ⟨rfl, _, U', putI (hIx _) _ U' W3 _ (fun b hb => by have := (hXu _ _ U' W3 i3 b hb).2; omega) (by have h := s4; simp at h; omega) i3, s4, l4, d4, o4⟩⟩
  | exit id =>
   obtain ⟨U', k3, i3⟩ := hp;obtain ⟨W4, rfl, r4, s4, l4, d4, o4, k4⟩ := fin (some (.exit id)) U' k3 (fun b hb => hXu _ _ U' W3 i3 b hb);exact ⟨_, _, r4, .inr ⟨rfl, _, U', putI (hIx _) _ U' W3 _ (fun b hb => by have := (hXu _ _ U' W3 i3 b hb).2; omega) (by have h := s4; simp at h; omega) i3, s4, l4, d4, o4⟩⟩
  | goto t =>
   obtain ⟨U', k3, i3⟩ := hp;obtain ⟨W4, rfl, r4, s4, l4, d4, o4, k4⟩ := fin (some (.goto t)) U' k3 (fun b hb => hXu _ _ U' W3 i3 b hb);exact ⟨_, _, r4, .inr ⟨rfl, _, U', putI (hIx _) _ U' W3 _ (fun b hb => by have := (hXu _ _ U' W3 i3 b hb).2; omega) (by have h := s4; simp at h; omega) i3, s4, l4, d4, o4⟩⟩
  | panic ch => exact hp.elim
  | outgrown => exact hp.elim
 ·obtain ⟨U, hi⟩ := h0;have hu := hIu [] U w hi;exact ⟨U, hI [] U w W0 hi bel0.os bel0.tape bel0.output bel0.size (fun b hb => bel0.block b (hu b hb).2.1) (fun b hb => bel0.block b (by omega)), by omega, hL0, hD0, fun b hb => hb.elim⟩
end Go.Proofs.YtnhanccjnhgjoaaGreatDoor

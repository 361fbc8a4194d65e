import Derived.Test.YtckapapejfnojaaGreatDoorChKV
import Derived.RangeFuncNested
import Derived.RangeFuncBound
import Derived.RangeFuncCalls
import Derived.RangeFuncLeaves
import Derived.Shelf.Abstract
import Derived.Shelf.RegionOpen
import Derived.WalkKit
import Derived.OwnWalkIn
import Derived.TacticsInMore
import Derived.LoopNIn
import Derived.LoopIn
import Derived.Maps.AppendAt
namespace Go.Proofs.YtckapapejfnojaaGreatDoor
section
open Go.RowKit
set_option linter.unusedVariables false
set_option linter.unusedSimpArgs false

/-- the ends from number m on stand in the row. -/
def EndsFrom (K : Nat → Int) (n m : Nat) (g : Nat → Value) : Prop := ∀ j, m ≤ j → j < n → ∃ (e h : Nat), g j = .int .i64 (e : Int) ∧ Fo K n 1 j e h

/-- what treeEnds answers. -/
def EndsIs (K : Nat → Int) (n B : Nat) (w : World) (v : Value) : Prop :=
  (v = .slice none 0 0 ∧ ∀ h, ¬ Fo K n 1 0 n h) ∨
  (∃ E : Nat → Nat, 0 < n ∧ v = .slice (some ⟨B, 0, none⟩) n n ∧ w.rowIs B 3 n (fun j => .int .i64 (E j : Int)) ∧ (∀ i, i < n → ∃ h, Fo K n 1 i (E i) h) ∧ E 0 = n)

theorem EndsFrom.store {K : Nat → Int} {n i e h : Nat} {g : Nat → Value} (hg : EndsFrom K n (i + 1) g) (t : Fo K n 1 i e h) : EndsFrom K n i (fun j => if j = i then .int .i64 (e : Int) else g j) := by
  intro j hj hn
  by_cases hji : j = i
  · subst hji
    exact ⟨e, h, by simp, t⟩
  · obtain ⟨e', h', he, t'⟩ := hg j (by omega) hn
    exact ⟨e', h', by simp [hji, he], t'⟩

theorem no_tree_neg {K : Nat → Int} {n i : Nat} (hi : i < n) (hk : K i < 0) : ∀ h, ¬ Fo K n 1 0 n h := fun h t => by
  obtain ⟨e, g, u⟩ := t.within i (by omega) hi
  obtain ⟨_, _, _, h0, _⟩ := u.one
  omega
theorem no_tree_end {K : Nat → Int} {n i k h : Nat} (hi : i < n) (hk : (k : Int) < K i) (t : Fo K n k (i + 1) n h) : ∀ h, ¬ Fo K n 1 0 n h := fun h' t0 => by
  obtain ⟨e, g, u⟩ := t0.within i (by omega) hi
  obtain ⟨_, _, _, h0, u'⟩ := u.one
  obtain ⟨d, hd⟩ : ∃ d, (K i).toNat = k + (1 + d) := ⟨(K i).toNat - k - 1, by omega⟩
  rw [hd] at u'
  obtain ⟨m, g1, g2, u1, u2, _⟩ := Fo.split k (1 + d) u'
  obtain ⟨rfl, _⟩ := t.det u1
  obtain ⟨m', g3, g4, u3, u4, _⟩ := Fo.split 1 d u2
  obtain ⟨_, _, hlt, _, _⟩ := u3.one
  omega

theorem EndsIs.made {K : Nat → Int} {n B : Nat} {w : World} {g : Nat → Value} (hn : 0 < n) (hr : w.rowIs B 3 n g) (hg : EndsFrom K n 0 g) (h0 : g 0 = .int .i64 (n : Int)) : EndsIs K n B w (.slice (some ⟨B, 0, none⟩) n n) := by
  refine .inr ⟨fun j => (intOf (g j)).toNat, hn, rfl, hr.congr fun i hi => ?_, fun i hi => ?_, ?_⟩
  · obtain ⟨e, h, he, _⟩ := hg i (by omega) hi
    simp [he, intOf]
  · obtain ⟨e, h, he, t⟩ := hg i (by omega) hi
    refine ⟨h, ?_⟩
    simpa [he, intOf] using t
  · simp [h0, intOf]
theorem no_tree_first {K : Nat → Int} {n : Nat} {g : Nat → Value} {e : Int} (hn : 0 < n) (hg : EndsFrom K n 0 g) (he : g 0 = .int .i64 e) (hne : e ≠ (n : Int)) : ∀ h, ¬ Fo K n 1 0 n h := fun h t => by
  obtain ⟨e', h', he', t'⟩ := hg 0 (by omega) hn
  rw [he] at he'
  have := (t.det t').1
  simp only [Value.int.injEq, true_and] at he'
  omega

set_option maxRecDepth 100000 in
set_option maxHeartbeats 4000000 in
theorem treeEnds_in (ao : Option Addr) (n cap : Nat) (K : Nat → Int) (w : World) (hn : n ≤ 200)
    (hc : 0 < n → ∃ b o, ao = some ⟨b, o, none⟩ ∧ b < w.heap.size ∧ ∀ i, i < n → w.cell? ⟨b, o + i * 10 + 6, none⟩ = some (.int .i64 (K i))) :
    Calls Tryz.prog 41 #[.slice ao n cap] w fun e w' => (∃ v, e = .returned v ∧ EndsIs K n w.heap.size w' v) ∧ Below w.heap.size w w' := by
  have hmk := run_make_rows 34 3 (.int .i64 0) 1 8 Tryz.underlying34 (by kernel_rfl) n (by omega) (by omega)
  have hc' : Hid (0 < n → ∃ b o, ao = some ⟨b, o, none⟩ ∧ b < w.heap.size ∧ ∀ i, i < n → w.cell? ⟨b, o + i * 10 + 6, none⟩ = some (.int .i64 (K i))) := hc
  clear hc
  go_enter Tryz.func41, Tryz.ntmps41
  go_wp2_with fail
  obtain ⟨g0, hg0⟩ := rowIs_madeW w (.int .i64 0) n 1 3
  have bw0 := below_madeW w (.int .i64 0) n 1 3
  generalize madeW w (.int .i64 0) n 1 3 = w0 at hg0 bw0 ⊢
  rw [Nat.mul_one] at hg0
  clear hmk
  go_loopw [4] (fun i wr => ∃ (m : Nat) (g : Nat → Value), i = .int .i64 ((m : Int) - 1) ∧ m ≤ n ∧ Below w.heap.size w wr ∧ Hid (wr.rowIs w.heap.size 3 n g ∧ EndsFrom K n m g)) (fun i _ => (intOf i + 1).toNat)
  case atStart => exact ⟨n, g0, rfl, by omega, bw0, hg0, fun j h1 h2 => by omega⟩
  case round =>
    obtain ⟨m, g, rfl, q1, q2, q3⟩ := hrel
    by_cases hm : m = 0
    · subst hm
      by_cases hn0 : n = 0
      · have hno : Hid (∀ h, ¬ Fo K n 1 0 n h) := fun h t => by have := t.le.1; omega
        have hn0' : (n : Int) = 0 := by omega
        go_wp2_with fail
        go_ret
        exact ⟨⟨_, rfl, .inl ⟨rfl, hno.out⟩⟩, q2⟩
      · have d0 := q3.out.1.cell (show 0 < n by omega)
        obtain ⟨e, h, he, t⟩ := q3.out.2 0 (by omega) (by omega)
        rw [he] at d0
        have hn0' : ¬ (n : Int) = 0 := by omega
        by_cases hen : (e : Int) = (n : Int)
        · have hfin : Hid (EndsIs K n w.heap.size wr (.slice (some ⟨w.heap.size, 0, none⟩) n n)) := EndsIs.made (by omega) q3.out.1 q3.out.2 (by rw [he, hen])
          clear t he q3
          go_wp2_with fail
          go_ret
          exact ⟨⟨_, rfl, hfin.out⟩, q2⟩
        · have hno : Hid (∀ h, ¬ Fo K n 1 0 n h) := no_tree_first (by omega) q3.out.2 he hen
          have hne : ((e : Int) != (n : Int)) = true := by simpa using hen
          clear t he q3
          go_wp2_with fail
          go_ret
          exact ⟨⟨_, rfl, .inl ⟨rfl, hno.out⟩⟩, q2⟩
    · obtain ⟨i, rfl⟩ : ∃ i, m = i + 1 := ⟨m - 1, by omega⟩
      have hei : (((i + 1 : Nat) : Int) - 1) = (i : Int) := by omega
      rw [hei]
      obtain ⟨b, o, rfl, hb, hcc⟩ := hc'.out (by omega)
      have c6 := hcc i (by omega)
      rw [← q2.cell (p := ⟨b, _, none⟩) hb] at c6
      have hin : (i : Int) < (n : Int) := by omega
      clear hcc hei
      by_cases hk : K i < 0
      · have hno : Hid (∀ h, ¬ Fo K n 1 0 n h) := no_tree_neg (by omega) hk
        go_wp2_with fail
        go_ret
        exact ⟨⟨_, rfl, .inl ⟨rfl, hno.out⟩⟩, q2⟩
      · go_wp2_with fail
        go_loopw [5, 29] (fun v k ws => ∃ (e k' : Nat), v = .int .i64 (e : Int) ∧ k = .int .i64 (k' : Int) ∧ wr = ws ∧ (k' : Int) ≤ K i ∧ e ≤ n ∧ i + 1 ≤ e ∧ k' ≤ n ∧ Hid (∃ h, Fo K n k' (i + 1) e h)) (fun _ k _ => n - (intOf k).toNat)
        case atStart => exact ⟨i + 1, 0, by simp, rfl, rfl, by omega, by omega, by omega, by omega, ⟨0, .nil⟩⟩
        case round =>
          obtain ⟨e, k, rfl, rfl, rfl, r1, r2, r3, r4, r5⟩ := hrel
          by_cases hkk : (k : Int) < K i
          · by_cases hen : e = n
            · have hno : Hid (∀ h, ¬ Fo K n 1 0 n h) := by
                obtain ⟨h, t⟩ := r5.out
                subst hen
                exact no_tree_end (by omega) hkk t
              have hen' : (e : Int) = (n : Int) := by omega
              clear r5 q3
              go_wp2_with fail
              go_ret
              exact ⟨⟨_, rfl, .inl ⟨rfl, hno.out⟩⟩, q2⟩
            · have hen' : ¬ (e : Int) = (n : Int) := by omega
              have hel : (e : Int) < (n : Int) := by omega
              have d0 := q3.out.1.cell (show e < n by omega)
              obtain ⟨e2, h2, he2, t2⟩ := q3.out.2 e (by omega) (by omega)
              rw [he2] at d0
              have hnew : Hid (∃ h, Fo K n (k + 1) (i + 1) e2 h) := by
                obtain ⟨h, t⟩ := r5.out
                exact ⟨_, t.join t2⟩
              have le2 := t2.le
              have hkn : k + 1 ≤ n := by
                obtain ⟨h, t⟩ := r5.out
                have := t.le.1
                omega
              clear r5 he2 t2
              go_wp2_with fail
              go_roundw
              case rel => exact ⟨e2, k + 1, rfl, rfl, by first | trivial | rfl, by omega, by omega, by omega, by omega, hnew⟩
              case measure => simp [intOf]; omega
          · have d0 := q3.out.1.cell (show i < n by omega)
            have f0 := q3.out.1.frozen i
            have q6 : Hid ((wr.setCell ⟨w.heap.size, i, none⟩ (.int .i64 (e : Int))).rowIs w.heap.size 3 n (fun j => if j = i then .int .i64 (e : Int) else g j) ∧ EndsFrom K n i (fun j => if j = i then .int .i64 (e : Int) else g j)) := by
              obtain ⟨h, t⟩ := r5.out
              refine ⟨q3.out.1.set i _, q3.out.2.store (Fo.mk1 (by omega) (by omega) (g := h) ?_)⟩
              rwa [show (K i).toNat = k by omega]
            have q7 : Below w.heap.size w (wr.setCell ⟨w.heap.size, i, none⟩ (.int .i64 (e : Int))) := q2.setCell (p := ⟨w.heap.size, i, none⟩) (Nat.le_refl _) _
            generalize g i = gi at d0
            clear r5 q3
            go_wp2_with fail
            go_roundw
            case rel => exact ⟨i, _, rfl, by omega, q7, q6⟩
            case measure => simp [intOf]
end
section
open Go.RowKit Go.Shelf
set_option linter.unusedVariables false
set_option linter.unusedSimpArgs false

/-- all blocks but those from lo on and below B lie as they lay. -/
structure Keep (lo B : Nat) (W W' : World) : Prop where
  size : W.heap.size ≤ W'.heap.size
  block : ∀ b, b < lo ∨ B ≤ b → b < W.heap.size → W'.heap[b]? = W.heap[b]?
theorem Keep.refl (lo B : Nat) (W : World) : Keep lo B W W := ⟨Nat.le_refl _, fun _ _ _ => rfl⟩
theorem Keep.trans {lo B : Nat} {W W' W'' : World} (h : Keep lo B W W') (k : Keep lo B W' W'') : Keep lo B W W'' :=
  ⟨Nat.le_trans h.size k.size, fun b hb hl => (k.block b hb (Nat.lt_of_lt_of_le hl h.size)).trans (h.block b hb hl)⟩
theorem Keep.of_below {lo B : Nat} {W W' : World} (h : Below W.heap.size W W') : Keep lo B W W' := ⟨h.size, fun b _ hl => h.block b hl⟩
theorem Keep.setCell {lo B : Nat} (W : World) {a : Addr} (h1 : lo ≤ a.block) (h2 : a.block < B) (u : Value) : Keep lo B W (W.setCell a u) :=
  ⟨by rw [World.size_setCell]; exact Nat.le_refl _, fun b hb _ => Below.heap_setCell W a u b (by omega)⟩
theorem Keep.putObj {lo B : Nat} (W : World) {l : Nat} (h1 : lo ≤ l) (h2 : l < B) (o : Obj) : Keep lo B W (W.putObj l o) :=
  ⟨by simp, fun b hb _ => World.putObj_heap_other (by omega)⟩
theorem Keep.wider {lo B B' : Nat} {W W' : World} (h : Keep lo B W W') (hB : B ≤ B') : Keep lo B' W W' :=
  ⟨h.size, fun b hb hl => h.block b (by omega) hl⟩

/-- a word on the world that hangs on the blocks below B alone. -/
def Stable {β : Type} (B : Nat) (I : β → World → Prop) : Prop := ∀ s A C, I s A → Below B A C → I s C
theorem below_putObj {B : Nat} (W : World) {l : Nat} (h : B ≤ l) (hl : l < W.heap.size) (o : Obj) : Below B W (W.putObj l o) :=
  (Below.refl B W).grown (grownBy_putObj' W l o) (by omega) (fun k e => by cases e; exact h)

/-- how a round may end. -/
def RoundEnd {α : Type} (lo B : Nat) (I : List α → World → Prop) (Ix : Code → List α → World → Prop) (xs : List α) (W : World) : Exit → Act → World → Prop
  | .normal, _, W' => Keep lo B W W' ∧ I xs W'
  | .ret, _, W' => Keep lo B W W' ∧ Ix .ret xs W'
  | .exit id, _, W' => Keep lo B W W' ∧ Ix (.exit id) xs W'
  | .goto t, _, W' => Keep lo B W W' ∧ Ix (.goto t) xs W'
  | .panic _, _, _ => False
  | .outgrown, _, _ => False

/-- what an iterator that keeps cells of its own promises: it turns no block that lay when it began; of a round it asks that the blocks outside [lo, B) stay. -/
def SeqB {α : Type} (m : Nat) (P : Program) (gf : Nat) (lb : Array Value) (encs : α → Array Value) (lo l : Nat) (S Sp : List α → Prop) (N : Nat) (W : World) : Prop :=
  ∀ (J Jx : List α → World → Prop), Stable W.heap.size J → Stable W.heap.size Jx →
    (∀ pre x W1, J pre W1 → pre.length < N → YieldAt Fence.wide (m - 1) P l (encs x) W1 fun e W' =>
      (e = .returned (.bool true) ∧ J (pre ++ [x]) W' ∧ Keep lo W.heap.size W1 W') ∨ (e = .returned (.bool false) ∧ Jx (pre ++ [x]) W')) →
    J [] W →
    CallsIn Fence.wide m P gf (#[.func (.yield l) #[] #[]] ++ lb) W fun e W' => (∃ v, e = .returned v) ∧ ((∃ xs, S xs ∧ J xs W') ∨ (∃ pre, Sp pre ∧ Jx pre W'))

theorem range_law {α : Type} {P : Program} {m : Nat} {g : Operand} {ps : Array Tmp} {assign body : Code} {Q : Exit → Act → World → Prop} {a : Act} {w : World}
    {gf : Nat} {lb : Array Value} (hg : a.eval g = .func (.func gf) #[] lb) (eg : ∀ args w, (callFunc gf args).run P w = .ok (.enter gf args) w) (h1 : 1 ≤ m)
    {encs : α → Array Value} (hps : ∀ x, (encs x).size = ps.size) {lo N : Nat} (hlo : lo ≤ w.heap.size) {S Sp : List α → Prop}
    (I : List α → World → Prop) (Ix : Code → List α → World → Prop) (hI : Stable w.heap.size I) (hIx : ∀ c, Stable w.heap.size (Ix c)) (h0 : I [] w)
    (hseq : ∀ W, W.heap.size = w.heap.size + 2 → Below w.heap.size w W → SeqB (m - 1) P gf lb encs lo (w.heap.size + 1) S Sp N W)
    (Ax : α → Act → World → Prop) (hAx : ∀ x a' W o, Ax x a' W → Ax x a' (W.putObj (w.heap.size + 1) o))
    (hassign : ∀ (l : Nat) (pre : List α) (x : α) (W : World) (K : Act → World → Prop), w.heap.size + 2 ≤ W.heap.size → I pre W →
      (∀ a' W', Keep lo w.heap.size W W' → I pre W' → Ax x a' W' → K a' W') →
      assign.wpIn (Fence.wide.inRound l) (m - 1 - 1) P (Exit.then K (fun _ _ _ => False)) { tmps := (ps.zip (encs x)).foldl (fun t (p, v) => t.setIfInBounds p v) a.tmps, defers := [] } W)
    (hbody : ∀ (l : Nat) (pre : List α) (x : α) (a' : Act) (W : World), w.heap.size + 2 ≤ W.heap.size → I pre W → Ax x a' W → pre.length < N →
      body.wpIn (Fence.wide.inRound l) (m - 1 - 1) P (RoundEnd lo w.heap.size I Ix (pre ++ [x]) W) a' W)
    (hdone : ∀ (D : Nat) (xs : List α) (W : World), w.heap.size = D → S xs → I xs W → W.heap[D]? = some (.deferred (some [])) → Q .normal { a with defers := { target := .collected D, args := #[] } :: a.defers } W)
    (hstop : ∀ (D : Nat) (c : Code) (pre : List α) (W : World), w.heap.size = D → Sp pre → Ix c pre W → W.heap[D]? = some (.deferred (some [])) →
      c.wpIn Fence.wide m P Q { a with defers := { target := .collected D, args := #[] } :: a.defers } W) :
    (Code.rangeFunc g ps assign body).wpIn Fence.wide m P Q a w := by
  refine wpIn_rangeFunc fun fn hfn => ?_
  -- the record of the loop, in whatever state
  let R : LoopState → Option Code → Loop := fun st pe => { state := st, pending := pe, fn := fn, tmps := a.tmps, params := ps, assign := assign, body := body, defers := w.heap.size }
  let W0 : World := (w.alloc (.deferred (some []))).alloc (.loop (R .ready none))
  have sz0 : W0.heap.size = w.heap.size + 2 := by simp [W0]
  have bel0 : Below w.heap.size w W0 := ((Below.refl _ w).alloc (Nat.le_refl _) _).alloc (by simp) _
  have hD0 : W0.heap[w.heap.size]? = some (.deferred (some [])) := (Below.heap_alloc _ _ _ (by simp)).trans (World.alloc_heap_new w _)
  have hL0 : W0.heap[w.heap.size + 1]? = some (.loop (R .ready none)) := by
    have := World.alloc_heap_new (w.alloc (.deferred (some []))) (.loop (R .ready none))
    rwa [World.size_alloc] at this
  refine ⟨w.heap.size + 1, [{ target := .collected w.heap.size, args := #[] }], W0, { target := .fn (.func gf) lb, args := #[.func (.yield (w.heap.size + 1)) #[] #[]] }, W0, gf,
    #[.func (.yield (w.heap.size + 1)) #[] #[]] ++ lb, W0, run_enterLoop_outer _ _ _ _ _, ?_, fun _ _ => trivial, ?_, fun _ => h1, ?_⟩
  · simp only [resolve, hg]
    simp [go_sem]
  · simp [invoke, go_sem, eg]
  have key := hseq W0 sz0 bel0
    (fun pre W => I pre W ∧ w.heap.size + 2 ≤ W.heap.size ∧ W.heap[w.heap.size + 1]? = some (.loop (R .ready none)) ∧ W.heap[w.heap.size]? = some (.deferred (some [])))
    (fun pre W => ∃ c, Ix c pre W ∧ w.heap.size + 2 ≤ W.heap.size ∧ W.heap[w.heap.size + 1]? = some (.loop (R .done (some c))) ∧ W.heap[w.heap.size]? = some (.deferred (some [])))
    (fun s A C hs hb => ⟨hI s A C hs.1 (hb.mono (by omega)), Nat.le_trans hs.2.1 hb.size, (hb.block _ (by omega)).trans hs.2.2.1, (hb.block _ (by omega)).trans hs.2.2.2⟩)
    (fun s A C hs hb => by
      obtain ⟨c, k1, k2, k3, k4⟩ := hs
      exact ⟨c, hIx c s A C k1 (hb.mono (by omega)), Nat.le_trans k2 hb.size, (hb.block _ (by omega)).trans k3, (hb.block _ (by omega)).trans k4⟩)
    ?_ ⟨hI _ _ _ h0 bel0, by omega, hL0, hD0⟩
  · refine key.mono ?_
    rintro e W2 ⟨⟨v, rfl⟩, (⟨xs, hS, hi, hsz, hl, hk⟩ | ⟨pre, hSp, c, hi, hsz, hl, hk⟩)⟩
    · refine ⟨none, _, run_endLoop (P := P) hl (by simp [R]), ?_⟩
      exact hdone _ xs _ rfl hS (hI _ _ _ hi (below_putObj _ (by omega) (by omega) _)) ((World.putObj_heap_other (by omega)).trans hk)
    · refine ⟨some c, _, run_endLoop (P := P) hl (by simp [R]), ?_⟩
      exact hstop _ c pre _ rfl hSp (hIx c _ _ _ hi (below_putObj _ (by omega) (by omega) _)) ((World.putObj_heap_other (by omega)).trans hk)
  · rintro pre x W ⟨hi, hsz, hl, hk⟩ hlen
    refine ⟨fn, _, assign, body, run_yield (P := P) (args := encs x) hl (hps x), roundIn_of_wpIn hfn (hassign _ pre x W _ hsz hi ?_)⟩
    intro a' Wa ka ia ax
    have la := (ka.block _ (.inr (by omega)) (by omega)).trans hl
    have da := (ka.block _ (.inr (by omega)) (by omega)).trans hk
    have sa : w.heap.size + 2 ≤ Wa.heap.size := Nat.le_trans hsz ka.size
    refine ⟨_, run_beginRound la rfl, ?_⟩
    have kb := Keep.putObj (lo := lo) (B := w.heap.size + 2) Wa (l := w.heap.size + 1) (by omega) (by omega) (.loop { R .ready none with state := .busy })
    have lb' : (Wa.putObj (w.heap.size + 1) (.loop { R .ready none with state := .busy })).heap[w.heap.size + 1]? = some (.loop { R .ready none with state := .busy }) := World.putObj_heap_same (by omega)
    have db : (Wa.putObj (w.heap.size + 1) (.loop { R .ready none with state := .busy })).heap[w.heap.size]? = some (.deferred (some [])) := (World.putObj_heap_other (by omega)).trans da
    have ib := hI _ _ _ ia (below_putObj Wa (l := w.heap.size + 1) (by omega) (by omega) (.loop { R .ready none with state := .busy }))
    refine wpIn_mono (hbody _ pre x a' _ (by simpa using sa) ib (hAx x a' Wa _ ax) hlen) ?_
    intro e a3 W3 hp
    have fin : ∀ (jump : Option Code), Keep lo w.heap.size (Wa.putObj (w.heap.size + 1) (.loop { R .ready none with state := .busy })) W3 →
        ∃ W4, W4 = W3.putObj (w.heap.size + 1) (.loop (R (if jump.isNone then .ready else .done) jump)) ∧ (Instr.endRound (w.heap.size + 1) jump).run P W3 = .ok (.bool jump.isNone) W4 ∧ Below w.heap.size W3 W4 ∧ w.heap.size + 2 ≤ W4.heap.size ∧
          W4.heap[w.heap.size + 1]? = some (.loop (R (if jump.isNone then .ready else .done) jump)) ∧ W4.heap[w.heap.size]? = some (.deferred (some [])) ∧ Keep lo (w.heap.size + 2) W W4 := by
      intro jump k3
      have s3 : w.heap.size + 2 ≤ W3.heap.size := by
        have := k3.size
        simp at this
        omega
      have l3 := (k3.block _ (.inr (by omega)) (by simp; omega)).trans lb'
      have d3 := (k3.block _ (.inr (by omega)) (by simp; omega)).trans db
      refine ⟨_, rfl, run_endRound (P := P) jump l3, below_putObj _ (by omega) (by omega) _, by simpa using s3, World.putObj_heap_same (by omega), (World.putObj_heap_other (by omega)).trans d3, ?_⟩
      exact (((ka.wider (by omega)).trans kb).trans (k3.wider (by omega))).trans (Keep.putObj _ (by omega) (by omega) _)
    rw [sz0]
    cases e with
    | normal =>
      obtain ⟨k3, i3⟩ := hp
      obtain ⟨W4, _, r4, b4, s4, l4, d4, k4⟩ := fin none k3
      exact ⟨_, _, r4, .inl ⟨rfl, ⟨hI _ _ _ i3 b4, s4, l4, d4⟩, k4⟩⟩
    | ret =>
      obtain ⟨k3, i3⟩ := hp
      obtain ⟨W4, _, r4, b4, s4, l4, d4, k4⟩ := fin (some .ret) k3
      exact ⟨_, _, r4, .inr ⟨rfl, _, hIx _ _ _ _ i3 b4, s4, l4, d4⟩⟩
    | exit id =>
      obtain ⟨k3, i3⟩ := hp
      obtain ⟨W4, _, r4, b4, s4, l4, d4, k4⟩ := fin (some (.exit id)) k3
      exact ⟨_, _, r4, .inr ⟨rfl, _, hIx _ _ _ _ i3 b4, s4, l4, d4⟩⟩
    | goto t =>
      obtain ⟨k3, i3⟩ := hp
      obtain ⟨W4, _, r4, b4, s4, l4, d4, k4⟩ := fin (some (.goto t)) k3
      exact ⟨_, _, r4, .inr ⟨rfl, _, hIx _ _ _ _ i3 b4, s4, l4, d4⟩⟩
    | panic ch => exact hp.elim
    | outgrown => exact hp.elim
end
section
open Go.RowKit Go.Shelf
set_option linter.unusedVariables false
set_option linter.unusedSimpArgs false
attribute [local go_sem] Oper.semAt_some

open Classical in
/-- the end of number i, where it has one. -/
noncomputable def EE (K : Nat → Int) (n i : Nat) : Nat := if h : ∃ e g, Fo K n 1 i e g then h.choose else 0
theorem EE_eq {K : Nat → Int} {n i e g : Nat} (t : Fo K n 1 i e g) : EE K n i = e := by
  have hex : ∃ e g, Fo K n 1 i e g := ⟨e, g, t⟩
  unfold EE
  rw [dif_pos hex]
  obtain ⟨g', t'⟩ := hex.choose_spec
  exact (t'.det t).1
def Tree (K : Nat → Int) (n : Nat) : Prop := ∃ h, Fo K n 1 0 n h
open Classical in
/-- the numbers that are gone through. -/
noncomputable def nodeSeq (K : Nat → Int) (n : Nat) : List (Fin n) := if Tree K n then List.finRange n else []
noncomputable def nodeV (K : Nat → Int) (n : Nat) (x : Fin n) : Value := .agg #[.int .i64 (x.val : Int), .int .i64 (depth (EE K n) x.val : Int), .int .i64 (EE K n x.val : Int)]
theorem take_succ_fin {n k : Nat} (h : k < n) : (List.finRange n).take (k + 1) = (List.finRange n).take k ++ [⟨k, h⟩] := by
  rw [List.take_add_one]
  congr 1
  simp [h]
theorem st_depth (E : Nat → Nat) (k : Nat) : (st E (k + 1)) = E k :: pop k (st E k) := rfl

def iv (x : Nat) : Value := .int .i64 (x : Int)
def lenOf : Value → Nat | .slice _ n _ => n | _ => 0

theorem ownsRow_shorter {w : World} {base : Nat} {g cap n : Nat} {xs : List Value} {y : Value} (h : w.ownsRow base 3 1 (.slice (some ⟨g, 0, none⟩) (n + 1) cap) (n + 1) (xs ++ [y])) (hx : xs.length = n) :
    w.ownsRow base 3 1 (.slice (some ⟨g, 0, none⟩) n cap) n xs := by
  obtain ⟨_, h2⟩ := h
  refine ⟨by simpa using hx, ?_⟩
  rcases h2 with ⟨h, _⟩ | ⟨g', cap', cur, he, hb, hc, h3, h4, h5, h6⟩
  · cases h
  · simp only [Value.slice.injEq, Option.some.injEq, Addr.mk.injEq] at he
    obtain ⟨⟨rfl, _⟩, _, rfl⟩ := he
    refine .inr ⟨g, cap, cur, rfl, hb, hc, by omega, h4, h5, ?_⟩
    have e1 : List.take n (xs ++ [y]) = xs := by rw [← hx]; simp
    have e2 : List.take n (List.take ((n + 1) * 1) cur.toList) = List.take n cur.toList := by
      rw [List.take_take, Nat.mul_one, Nat.min_eq_left (by omega)]
    rw [Nat.mul_one, ← e2, h6]
    exact e1

theorem pop_le (i : Nat) : ∀ s : List Nat, (pop i s).length ≤ s.length
  | [] => by simp [pop]
  | x :: s => by
    rw [pop]
    split
    · have := pop_le i s
      simp
      omega
    · simp
theorem st_le (E : Nat → Nat) : ∀ k, (st E k).length ≤ k
  | 0 => by simp [st]
  | k + 1 => by
    have h1 := st_le E k
    have h2 := pop_le k (st E k)
    simp [st]
    omega
theorem depth_le (E : Nat → Nat) (k : Nat) : depth E k ≤ k := Nat.le_trans (pop_le _ _) (st_le E k)
theorem ownsRow_cap {w : World} {base g n cap : Nat} {xs : List Value} (h : w.ownsRow base 3 1 (.slice (some ⟨g, 0, none⟩) n cap) n xs) : n ≤ cap ∧ cap ≤ 9223372036854775807 := by
  rcases h.2 with ⟨h, _⟩ | ⟨g', cap', cur, he, _, _, hle, hm, _⟩
  · cases h
  · simp only [Value.slice.injEq] at he
    obtain ⟨_, _, rfl⟩ := he
    exact ⟨hle, by simpa [maxLen] using hm⟩
theorem appended {n k L B : Nat} {E : Nat → Nat} {s : List Nat} {J : List (Fin n) → World → Prop} {W3 w4 : World} {v' : Value} {ao : Option Addr} {cap : Nat} {o : Obj} (hst : st E (k + 1) = E k :: s) (hL : s.length = L)
    (hown' : w4.ownsRow (B + 1) 3 1 v' (L + 1) (s.reverse.map iv ++ [.int .i64 (E k : Int)])) (hgrow : (W3.alloc o).grownBy w4 (Value.slice ao L cap).ownBlock) (hs3 : B < W3.heap.size) (hJ : Stable B J)
    (hJ3 : J (List.take (k + 1) (List.finRange n)) W3) (hrow : W3.rowIs B 3 n (fun j => .int .i64 (E j : Int))) (hao : ∀ a, ao = some a → B + 1 ≤ a.block) :
    ∃ a4 c4, v' = .slice a4 (st E (k + 1)).length c4 ∧ Hid (J (List.take (k + 1) (List.finRange n)) w4 ∧ w4.ownsRow (B + 1) 3 1 (.slice a4 (st E (k + 1)).length c4) (st E (k + 1)).length ((st E (k + 1)).reverse.map iv) ∧ w4.rowIs B 3 n (fun j => .int .i64 (E j : Int))) := by
  obtain ⟨g, c, rfl⟩ := ownsRow_succ hown'
  have hlen : (st E (k + 1)).length = L + 1 := by rw [hst]; simp [hL]
  have hb : Below (B + 1) W3 w4 := ((Below.refl _ W3).alloc hs3 o).grown hgrow (by simp; omega) (fun r e => by
    cases ao with
    | none => simp [Value.ownBlock] at e
    | some a =>
      simp [Value.ownBlock] at e
      have := hao a rfl
      omega)
  refine ⟨some ⟨g, 0, none⟩, c, by rw [hlen], ?_, ?_, ?_⟩
  · exact hJ _ _ _ hJ3 (hb.mono (by omega))
  · rw [hlen, hst]
    simpa [iv] using hown'
  · exact hrow.of_block (hb.block _ (by omega))
theorem ownsRow_keepP {w w' : World} {base : Nat} {v : Value} {n : Nat} {xs : List Value} (h : w.ownsRow base 3 1 v n xs) (hk : ∀ b, base ≤ b → b < w.heap.size → w'.heap[b]? = w.heap[b]?) : w'.ownsRow base 3 1 v n xs := by
  obtain ⟨h1, h2⟩ := h
  refine ⟨h1, ?_⟩
  rcases h2 with h | ⟨g, cap, cur, he, hb, hc, h3⟩
  · exact .inl h
  · exact .inr ⟨g, cap, cur, he, hb, (hk g hb (Array.getElem?_eq_some_iff.1 hc).1).trans hc, h3⟩
set_option maxRecDepth 100000 in
set_option maxHeartbeats 4000000 in
theorem nodes1_in (m : Nat) (K : Nat → Int) (n cap : Nat) (ao : Option Addr) (lo l Bn : Nat) (W : World) (hm : 2 ≤ m) (hn : n ≤ 200) (hlo : lo ≤ W.heap.size) (hBn : W.cell? ⟨Bn, 0, none⟩ = some (.slice ao n cap))
    (hc : 0 < n → ∃ b o, ao = some ⟨b, o, none⟩ ∧ b < lo ∧ ∀ i, i < n → W.cell? ⟨b, o + i * 10 + 6, none⟩ = some (.int .i64 (K i))) :
    SeqB m Tryz.prog 149 #[.pointer (some ⟨Bn, 0, none⟩)] (fun x : Fin n => #[nodeV K n x]) lo l (fun ys => ys = nodeSeq K n) (fun pre => pre <+: nodeSeq K n ∧ pre ≠ []) n W := by
  intro J Jx hJ hJx hY h0
  have hte := treeEnds_in ao n cap K W hn (fun hp => by obtain ⟨b, o, e, hb, hcc⟩ := hc hp; exact ⟨b, o, e, by omega, hcc⟩)
  refine callsIn_of_wp Tryz.func149 rfl trivial ?_ rfl
  simp only [Tryz.ntmps149, List.size_toArray, List.length_cons, List.length_nil, Nat.reduceAdd, Nat.reduceSub, Array.replicate_succ, Array.replicate_zero, List.push_toArray, List.append_toArray, List.nil_append, List.cons_append]
  gi_wp2_with fail
  refine ⟨trivial, fun _ => by omega, ?_⟩
  refine (callsIn_wide.2 hte).mono ?_
  rintro e w1 ⟨⟨v, rfl, hv⟩, b1⟩
  rcases hv with ⟨rfl, hno⟩ | ⟨E, hpos, rfl, hrow, hE, hE0⟩
  · have hseq : nodeSeq K n = [] := by unfold nodeSeq; exact if_neg (fun ⟨h, t⟩ => hno h t)
    have hJ1 : Hid (J [] w1) := hJ _ _ _ h0 b1
    clear hno hte hY hc
    gi_wp2
    refine wpIn_loop_rounds 1 ?_
    rw [roundsIn_succ]
    gi_wp2
    go_end0
    exact ⟨⟨_, rfl⟩, .inl ⟨[], hseq.symm, hJ1.out⟩⟩
  · have hEE : ∀ i, i < n → EE K n i = E i := fun i hi => by obtain ⟨h, t⟩ := hE i hi; exact EE_eq t
    have hseq : nodeSeq K n = List.finRange n := by
      unfold nodeSeq
      refine if_pos ?_
      obtain ⟨h, t⟩ := hE 0 hpos
      rw [hE0] at t
      exact ⟨h, t⟩
    have hrow' : w1.rowIs W.heap.size 3 n (fun j => .int .i64 (EE K n j : Int)) := hrow.congr fun i hi => by rw [hEE i hi]
    have hJ1 : J [] w1 := hJ _ _ _ h0 b1
    have hsz1 : W.heap.size < w1.heap.size := hrow'.lt
    have hinv : Hid (J ((List.finRange n).take 0) w1 ∧ w1.ownsRow (W.heap.size + 1) 3 1 (.slice none 0 0) 0 ((st (EE K n) 0).reverse.map iv) ∧ w1.rowIs W.heap.size 3 n (fun j => .int .i64 (EE K n j : Int))) :=
      ⟨by simpa using hJ1, World.ownsRow_nil _ _ _ _, hrow'⟩
    clear hrow hE hE0 hEE hrow' hJ1 hte hc h0 hBn
    obtain ⟨i0, hi, hz0, hz1, hz2⟩ := info_parts (show (Tryz.prog.info? 3).map (fun i => (i.zero, i.size, i.bytes)) = some (some (.int .i64 0), 1, 8) by kernel_rfl)
    gi_wp2
    gi_loopw [3, 9] (fun a i wr => ∃ (k cap' : Nat) (ao' : Option Addr), a = .slice ao' (st (EE K n) k).length cap' ∧ i = .int .i64 (k : Int) ∧ k ≤ n ∧
      Hid (J ((List.finRange n).take k) wr ∧ wr.ownsRow (W.heap.size + 1) 3 1 (.slice ao' (st (EE K n) k).length cap') (st (EE K n) k).length ((st (EE K n) k).reverse.map iv) ∧ wr.rowIs W.heap.size 3 n (fun j => .int .i64 (EE K n j : Int))))
      (fun _ i _ => n - (intOf i).toNat)
    case atStart => exact ⟨0, 0, none, rfl, rfl, by omega, hinv⟩
    case round =>
      clear hinv
      obtain ⟨k, cap', ao', rfl, rfl, hkn, hH⟩ := hrel
      by_cases hk : k < n
      · have hki : (k : Int) < (n : Int) := by omega
        have d0 := hH.out.2.2.cell hk
        gi_wp2
        gi_loopw [3] (fun a ws => ∃ (s : List Nat), a = .slice ao' s.length cap' ∧ wr = ws ∧ s.length ≤ n ∧ Hid (pop k s = pop k (st (EE K n) k) ∧ wr.ownsRow (W.heap.size + 1) 3 1 (.slice ao' s.length cap') s.length (s.reverse.map iv))) (fun a _ => lenOf a)
        case atStart => exact ⟨st (EE K n) k, rfl, rfl, Nat.le_trans (st_le _ _) hkn, rfl, hH.out.2.1⟩
        case round =>
          obtain ⟨s, rfl, rfl, hsn, hP⟩ := hrel
          cases s with
          | nil =>
            have hps : pop k ([] : List Nat) = [] := rfl
            simp only [List.length_nil]
            have hd : depth (EE K n) k = 0 := by rw [depth, ← hP.out.1, hps]; rfl
            have hR0 : 0 ≤ k := by rw [← hd]; exact depth_le _ _
            obtain ⟨fn, tmps, assign, body, hy, hR⟩ := hY _ ⟨k, hk⟩ wr hH.out.1 (by simp; omega)
            rw [← take_succ_fin hk] at hR
            simp [nodeV, hd] at hy
            have hown : Hid (wr.ownsRow (W.heap.size + 1) 3 1 (.slice ao' (0) cap') (0) (([] : List Nat).reverse.map iv)) := hP.out.2
            have hrw : Hid (wr.rowIs W.heap.size 3 n (fun j => .int .i64 (EE K n j : Int))) := hH.out.2.2
            have hst : Hid (st (EE K n) (k + 1) = EE K n k :: ([] : List Nat)) := by
              show st (EE K n) (k + 1) = EE K n k :: ([] : List Nat)
              rw [st_depth, ← hP.out.1, hps]
            clear hP hH hps hd
            gi_wp2
            refine ⟨fun _ => by omega, ?_⟩
            refine hR.mono ?_
            rintro e W3 (⟨rfl, hJ3, hk3⟩ | ⟨rfl, hJx3⟩)
            · have hown3 := ownsRow_keepP (w' := W3) hown.out (fun b h1 h2 => hk3.block b (.inr (by omega)) h2)
              have hrw3 := hrw.out.of_block (w' := W3) (hk3.block _ (.inr (Nat.le_refl _)) hrw.out.lt)
              have hs3 : W.heap.size < W3.heap.size := hrw3.lt
              have hJ3' : Hid (J (List.take (k + 1) (List.finRange n)) W3) := hJ3
              have hrw3' : Hid (W3.rowIs W.heap.size 3 n (fun j => .int .i64 (EE K n j : Int))) := hrw3
              have hown3' : Hid (W3.ownsRow (W.heap.size + 1) 3 1 (.slice ao' (0) cap') (0) (([] : List Nat).reverse.map iv)) := hown3
              clear hJ3 hrw3 hown hrw hown3 hk3 hy hR
              gi_wp2_with (gi_at_builtin; refine wpListIn_append_own _ rfl _ _ 34 rfl (W.heap.size + 1) 3 i0 (.int .i64 0) 1 8 Tryz.underlying34 hi hz0 hz1 hz2 rfl (by decide) _ _ _ rfl (hown3'.out.alloc _) ⟨W3.heap.size, 0, none⟩ 1 1 [.int .i64 (EE K n k : Int)] rfl rfl (cell_one_new _ _ _) (by simp [Value.oneCell']) (by simp only [maxLen]; omega) (by omega) (by simp; omega) ?_; intro v' w4 hown' hgrow _; have hnew := appended hst.out (by simp) hown' hgrow hs3 hJ hJ3'.out hrw3'.out (fun a e => (hown3'.out.lt a.block (by rw [e]; rfl)).1); obtain ⟨a4, c4, rfl, hnew⟩ := hnew)
              go_roundw
              case rel => exact ⟨k + 1, c4, a4, rfl, rfl, by omega, hnew⟩
              case measure => simp [intOf]; omega
            · have hpre : Hid (List.take (k + 1) (List.finRange n) <+: nodeSeq K n ∧ List.take (k + 1) (List.finRange n) ≠ []) := by
                refine ⟨by rw [hseq]; exact List.take_prefix _ _, fun h => ?_⟩
                have := congrArg List.length h
                simp at this
                omega
              have hJx3' : Hid (Jx (List.take (k + 1) (List.finRange n)) W3) := hJx3
              clear hJx3 hown hrw hst hy hR
              gi_wp2
              refine bodyPost_ret (results_none rfl _ _ _) rfl ?_
              exact ⟨⟨_, rfl⟩, .inr ⟨_, hpre.out, hJx3'.out⟩⟩
          | cons x s =>
            obtain ⟨L, hL⟩ : ∃ L, s.length = L := ⟨_, rfl⟩
            obtain ⟨g, cap2, he⟩ := ownsRow_succ (k := s.length) hP.out.2
            simp only [List.length_cons, Value.slice.injEq] at he
            obtain ⟨rfl, _, rfl⟩ := he
            have hcell : wr.cell? ⟨g, L, none⟩ = some (.int .i64 (x : Int)) := by
              have := hP.out.2.cellAt L (by simp [hL])
              rw [this]
              simp [← hL, iv]
            have hcap := ownsRow_cap hP.out.2
            rw [List.length_cons, hL] at hsn hcap
            obtain ⟨hcap, hcap2⟩ := hcap
            simp only [List.length_cons, hL]
            by_cases hx : x ≤ k
            · have hxi : (x : Int) ≤ (k : Int) := by omega
              have hnext : Hid (pop k s = pop k (st (EE K n) k) ∧ wr.ownsRow (W.heap.size + 1) 3 1 (.slice (some ⟨g, 0, none⟩) s.length cap') s.length (s.reverse.map iv)) := by
                refine ⟨?_, ?_⟩
                · rw [← hP.out.1, pop, if_pos hx]
                · have := hP.out.2
                  simp only [List.length_cons, List.reverse_cons, List.map_append, List.map_cons, List.map_nil] at this
                  exact ownsRow_shorter this (by simp)
              clear hP
              gi_wp2
              go_roundw
              case rel => exact ⟨s, by rw [hL], by first | trivial | rfl, by omega, hnext⟩
              case measure => simp [lenOf]
            · have hxi : ¬ (x : Int) ≤ (k : Int) := by omega
              have hps : pop k (x :: s) = x :: s := by rw [pop, if_neg hx]
              have hd : depth (EE K n) k = L + 1 := by rw [depth, ← hP.out.1, hps]; simp [hL]
              have hR0 : L + 1 ≤ k := by rw [← hd]; exact depth_le _ _
              obtain ⟨fn, tmps, assign, body, hy, hR⟩ := hY _ ⟨k, hk⟩ wr hH.out.1 (by simp; omega)
              rw [← take_succ_fin hk] at hR
              simp [nodeV, hd] at hy
              have hown : Hid (wr.ownsRow (W.heap.size + 1) 3 1 (.slice (some ⟨g, 0, none⟩) (L + 1) cap') (L + 1) ((x :: s).reverse.map iv)) := (by have h := hP.out.2; rw [List.length_cons, hL] at h; exact h)
              have hrw : Hid (wr.rowIs W.heap.size 3 n (fun j => .int .i64 (EE K n j : Int))) := hH.out.2.2
              have hst : Hid (st (EE K n) (k + 1) = EE K n k :: (x :: s)) := by
                show st (EE K n) (k + 1) = EE K n k :: (x :: s)
                rw [st_depth, ← hP.out.1, hps]
              clear hP hH hps hd
              gi_wp2
              refine ⟨fun _ => by omega, ?_⟩
              refine hR.mono ?_
              rintro e W3 (⟨rfl, hJ3, hk3⟩ | ⟨rfl, hJx3⟩)
              · have hown3 := ownsRow_keepP (w' := W3) hown.out (fun b h1 h2 => hk3.block b (.inr (by omega)) h2)
                have hrw3 := hrw.out.of_block (w' := W3) (hk3.block _ (.inr (Nat.le_refl _)) hrw.out.lt)
                have hs3 : W.heap.size < W3.heap.size := hrw3.lt
                have hJ3' : Hid (J (List.take (k + 1) (List.finRange n)) W3) := hJ3
                have hrw3' : Hid (W3.rowIs W.heap.size 3 n (fun j => .int .i64 (EE K n j : Int))) := hrw3
                have hown3' : Hid (W3.ownsRow (W.heap.size + 1) 3 1 (.slice (some ⟨g, 0, none⟩) (L + 1) cap') (L + 1) ((x :: s).reverse.map iv)) := hown3
                clear hJ3 hrw3 hown hrw hown3 hk3 hy hR
                gi_wp2_with (gi_at_builtin; refine wpListIn_append_own _ rfl _ _ 34 rfl (W.heap.size + 1) 3 i0 (.int .i64 0) 1 8 Tryz.underlying34 hi hz0 hz1 hz2 rfl (by decide) _ _ _ rfl (hown3'.out.alloc _) ⟨W3.heap.size, 0, none⟩ 1 1 [.int .i64 (EE K n k : Int)] rfl rfl (cell_one_new _ _ _) (by simp [Value.oneCell']) (by simp only [maxLen]; omega) (by omega) (by simp; omega) ?_; intro v' w4 hown' hgrow _; have hnew := appended hst.out (by simp [hL]) hown' hgrow hs3 hJ hJ3'.out hrw3'.out (fun a e => (hown3'.out.lt a.block (by rw [e]; rfl)).1); obtain ⟨a4, c4, rfl, hnew⟩ := hnew)
                go_roundw
                case rel => exact ⟨k + 1, c4, a4, rfl, rfl, by omega, hnew⟩
                case measure => simp [intOf]; omega
              · have hpre : Hid (List.take (k + 1) (List.finRange n) <+: nodeSeq K n ∧ List.take (k + 1) (List.finRange n) ≠ []) := by
                  refine ⟨by rw [hseq]; exact List.take_prefix _ _, fun h => ?_⟩
                  have := congrArg List.length h
                  simp at this
                  omega
                have hJx3' : Hid (Jx (List.take (k + 1) (List.finRange n)) W3) := hJx3
                clear hJx3 hown hrw hst hy hR
                gi_wp2
                refine bodyPost_ret (results_none rfl _ _ _) rfl ?_
                exact ⟨⟨_, rfl⟩, .inr ⟨_, hpre.out, hJx3'.out⟩⟩
      · obtain rfl : k = n := by omega
        have hJn : Hid (J (List.finRange k) wr) := by
          have := hH.out.1
          rwa [List.take_of_length_le (by simp)] at this
        clear hH
        gi_wp2
        go_end0
        exact ⟨⟨_, rfl⟩, .inl ⟨_, hseq.symm, hJn.out⟩⟩
end
end Go.Proofs.YtckapapejfnojaaGreatDoor

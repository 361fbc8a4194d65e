import Derived.Test.YtckapapejfnojaaGreatDoorUxEV
import Derived.Test.YtckapapejfnojaaGreatDoorGAV
import Derived.Maps.AppendAt
import Derived.Deep.AppendLies
namespace Go.Proofs.YtckapapejfnojaaGreatDoor
open Go.RowKit Go.Shelf
set_option linter.unusedVariables false
set_option linter.unusedSimpArgs false
def wkL (wk : List Nat) : List Value := wk.map fun t : Nat => Value.int .i64 (t : Int)
/-- between two rounds of topsOf: what lies where. -/
structure KS (w : World) (n : Nat) (tv : Nat → Int) (wv : Value) (wk : List Nat) (y : World) : Prop where
  row : y.rowIs w.heap.size 3 n (fun i => .int .i64 (tv i))
  own : y.ownsRow (w.heap.size + 1) 3 1 wv wk.length (wkL wk)
  bel : Below w.heap.size w y
section
variable {w : World} {n : Nat} {tv : Nat → Int} {wv : Value} {wk : List Nat} {y y' : World}
theorem ownsRow_call {lo e z m : Nat} {v : Value} {xs : List Value} (h : y.ownsRow lo e z v m xs) (hb : Below y.heap.size y y') : y'.ownsRow lo e z v m xs := ⟨h.1, by
  rcases h.2 with hn | ⟨g', cap, cur, hv, hbb, hg, rest⟩
  · exact .inl hn
  · exact .inr ⟨g', cap, cur, hv, hbb, (hb.block g' (Array.getElem?_eq_some_iff.1 hg).1).trans hg, rest⟩⟩
theorem KS.later (h : KS w n tv wv wk y) (hb : Below y.heap.size y y') : KS w n tv wv wk y' :=
  ⟨World.rowIs.of_block h.row (hb.block _ (World.rowIs.lt h.row)), ownsRow_call h.own hb, h.bel.trans (hb.mono h.bel.size)⟩
theorem KS.drew (h : KS w n tv wv wk y) : KS w n tv wv wk y.drew := h.later (Below.refl _ _).drew
theorem KS.set (h : KS w n tv wv wk y) (t : Nat) (v : Int) : KS w n (putT tv t v) wv wk (y.setCell ⟨w.heap.size, t, none⟩ (.int .i64 v)) := by
  refine ⟨(World.rowIs.set h.row t (.int .i64 v)).congr fun i hi => ?_, ⟨h.own.1, ?_⟩, h.bel.setCell (p := ⟨w.heap.size, t, none⟩) (Nat.le_refl _) _⟩
  · by_cases e : i = t
    · subst e; simp [putT_same]
    · simp [putT_other e, e]
  · rcases h.own.2 with hn | ⟨g', cap, cur, hv, hbb, hg, rest⟩
    · exact .inl hn
    · exact .inr ⟨g', cap, cur, hv, hbb, (Below.heap_setCell _ _ _ _ (by show g' ≠ w.heap.size; omega)).trans hg, rest⟩
/-- the work list was appended to. -/
theorem KS.grown (h : KS w n tv wv wk y) (hg : y.grownBy y' wv.ownBlock) {wv' : Value} {wk' : List Nat} (ho : y'.ownsRow (w.heap.size + 1) 3 1 wv' wk'.length (wkL wk')) : KS w n tv wv' wk' y' := by
  have hlo : ∀ k, wv.ownBlock = some k → w.heap.size + 1 ≤ k := fun k hk => (h.own.lt k hk).1
  exact ⟨World.rowIs.of_block h.row (hg.block _ (World.rowIs.lt h.row) fun e => by have := hlo _ e.symm; omega), ho, Below.grown h.bel hg h.bel.size fun k hk => by have := hlo k hk; omega⟩
/-- the last is taken away. -/
theorem KS.pop {g cp p : Nat} (h : KS w n tv (.slice (some ⟨g, 0, none⟩) (wk ++ [p]).length cp) (wk ++ [p]) y) : KS w n tv (.slice (some ⟨g, 0, none⟩) wk.length cp) wk y := by
  refine ⟨h.row, ⟨by simp [wkL], ?_⟩, h.bel⟩
  rcases h.own.2 with ⟨hn, h2⟩ | ⟨g', cap, cur, hv, hbb, hg, h1, h2, h3, h4⟩
  · simp at h2
  · simp only [Value.slice.injEq, Option.some.injEq, Addr.mk.injEq, and_true, true_and] at hv
    obtain ⟨rfl, rfl⟩ := hv
    refine .inr ⟨g, cp, cur, rfl, hbb, hg, ?_, h2, h3, ?_⟩
    · simp at h1; omega
    · have e := congrArg (List.take (wk.length * 1)) h4
      rw [List.take_take] at e
      simp only [List.length_append, List.length_singleton, Nat.mul_one, Nat.min_eq_left (Nat.le_succ wk.length)] at e
      rw [Nat.mul_one, e]
      simp [wkL, List.take_append]
theorem KS.form (h : KS w n tv wv wk y) (hp : 0 < wk.length) : ∃ g cp, wv = .slice (some ⟨g, 0, none⟩) wk.length cp ∧ w.heap.size + 1 ≤ g ∧ g < y.heap.size := by
  obtain ⟨g, cp, rfl, -, -⟩ := h.own.form hp
  have := h.own.lt g rfl
  exact ⟨g, cp, rfl, this.1, this.2⟩
theorem KS.cell (h : KS w n tv wv wk y) {t : Nat} (ht : t < n) : y.cell? ⟨w.heap.size, t, none⟩ = some (.int .i64 (tv t)) := h.row.cell ht
end
/-- how many places have not been come to, read off memory. -/
def cntM (w : World) (g : Nat) : Nat → Nat
  | 0 => 0
  | n + 1 => cntM w g n + (match w.cell? ⟨g, n, none⟩ with | some (.int _ x) => if x = -2 then 1 else 0 | _ => 0)
theorem KS.cnt {w : World} {n : Nat} {tv : Nat → Int} {wv : Value} {wk : List Nat} {y : World} (h : KS w n tv wv wk y) : ∀ m, m ≤ n → cntM y w.heap.size m = cnt2 tv m := by
  intro m
  induction m with
  | zero => intro _; rfl
  | succ m ih =>
    intro hm
    simp only [cntM, cnt2]
    rw [ih (by omega), h.cell (show m < n by omega)]
theorem cnt2_bound (tv : Nat → Int) : ∀ n, cnt2 tv n ≤ n := by
  intro n
  induction n with
  | zero => exact Nat.le_refl _
  | succ n ih =>
    simp only [cnt2]
    split <;> omega
theorem folO_len2 (pc z : Int) : (folW pc z).length ≤ 2 := by
  unfold folW
  repeat' split
  all_goals simp
def lenM : Value → Nat
  | .slice _ n _ => n
  | _ => 0
/-- in a round of topsOf: what lies where. -/
structure IM (w : World) (n : Nat) (tv : Nat → Int) (g cp : Nat) (wk : List Nat) (L : List Int) (BP NN : Nat) (bxl : List Value) (sv : Value) (y : World) : Prop where
  ks : KS w n tv (.slice (some ⟨g, 0, none⟩) wk.length cp) wk y
  far : g < BP ∨ NN ≤ g
  nn : NN ≤ y.heap.size
  bp : w.heap.size + 1 ≤ BP ∧ BP < NN
  box : RowL y BP 150 bxl
  lst : IsInts .i64 (fun b => BP + 1 ≤ b ∧ b < NN) y sv (slI L)
section
variable {w : World} {n : Nat} {tv : Nat → Int} {g cp : Nat} {wk : List Nat} {L : List Int} {BP NN : Nat} {bxl : List Value} {sv : Value} {y y' : World}
theorem IM.later (h : IM w n tv g cp wk L BP NN bxl sv y) (hb : Below y.heap.size y y') : IM w n tv g cp wk L BP NN bxl sv y' :=
  ⟨h.ks.later hb, h.far, Nat.le_trans h.nn hb.size, h.bp, h.box.call hb, IsArr.keep h.lst fun b hb' => hb.block b (by have := h.nn; omega)⟩
theorem IM.set (h : IM w n tv g cp wk L BP NN bxl sv y) (t : Nat) (v : Int) : IM w n (putT tv t v) g cp wk L BP NN bxl sv (y.setCell ⟨w.heap.size, t, none⟩ (.int .i64 v)) := by
  have hb := h.bp
  exact ⟨h.ks.set t v, h.far, by rw [World.size_setCell]; exact h.nn, h.bp, h.box.other (a := ⟨w.heap.size, t, none⟩) (by show BP ≠ w.heap.size; omega) _, IsArr.keep h.lst fun b hb' => Below.heap_setCell _ _ _ _ (by show b ≠ w.heap.size; omega)⟩
theorem IM.grown (h : IM w n tv g cp wk L BP NN bxl sv y) (hg : y.grownBy y' (some g)) {g' cp' : Nat} {wk' : List Nat} (ho : y'.ownsRow (w.heap.size + 1) 3 1 (.slice (some ⟨g', 0, none⟩) wk'.length cp') wk'.length (wkL wk')) (ha : g' = g ∨ NN ≤ g') : IM w n tv g' cp' wk' L BP NN bxl sv y' := by
  have hb := h.bp
  have hn := h.nn
  have hf := h.far
  have hblk : ∀ k, k < y.heap.size → k ≠ g → y'.heap[k]? = y.heap[k]? := fun k h1 h2 => hg.block k h1 fun e => h2 (by simpa using e)
  refine ⟨h.ks.grown hg ho, ?_, Nat.le_trans h.nn hg.size, h.bp, World.rowIs.of_block h.box (hblk _ h.box.lt (by omega)), IsArr.keep h.lst fun b hb' => hblk b (by omega) (by omega)⟩
  rcases ha with rfl | ha
  · exact hf
  · exact .inr ha
end
/-- a place in its box. -/
def PSt (BP pb po B uo : Nat) (q z : Int) (y : World) : Prop := y.cell? ⟨BP, 0, none⟩ = some (.pointer (some ⟨pb, po, none⟩)) ∧ y.cell? ⟨BP, 1, none⟩ = some (.pointer (some ⟨B, uo + (opW z).toNat * 10, none⟩)) ∧ y.cell? ⟨BP, 2, none⟩ = some (.int .i64 q) ∧ y.cell? ⟨BP, 3, none⟩ = some (.int .i64 (opW z)) ∧ y.cell? ⟨BP, 4, none⟩ = some (.int .i64 (aW z)) ∧ y.cell? ⟨BP, 5, none⟩ = some (.int .i64 (bW z)) ∧ y.cell? ⟨BP, 6, none⟩ = some (.int .i64 (cW z)) ∧ y.cell? ⟨BP, 7, none⟩ = some (.int .i64 (sW z))
abbrev plL (pb po B uo : Nat) (q z : Int) : List Value := [.pointer (some ⟨pb, po, none⟩), .pointer (some ⟨B, uo + (opW z).toNat * 10, none⟩), .int .i64 q, .int .i64 (opW z), .int .i64 (aW z), .int .i64 (bW z), .int .i64 (cW z), .int .i64 (sW z)]
theorem PSt.of {BP pb po B uo : Nat} {q z : Int} {y : World} {t : TypeId} (h : RowL y BP t (plL pb po B uo q z)) : PSt BP pb po B uo q z y :=
  ⟨h.cell 0 rfl, h.cell 1 rfl, h.cell 2 rfl, h.cell 3 rfl, h.cell 4 rfl, h.cell 5 rfl, h.cell 6 rfl, h.cell 7 rfl⟩
/-- the last of a list. -/
theorem list_last {α : Type} (l : List α) (h : 0 < l.length) : ∃ l' x, l = l' ++ [x] := by
  have hne : l ≠ [] := by intro e; subst e; simp at h
  exact ⟨l.dropLast, l.getLast hne, (List.dropLast_concat_getLast hne).symm⟩
end Go.Proofs.YtckapapejfnojaaGreatDoor

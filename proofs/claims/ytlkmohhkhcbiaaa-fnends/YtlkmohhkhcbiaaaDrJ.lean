import Derived.Test.YtlkmohhkhcbiaaaDrI
namespace Go.Proofs.Ytlkmohhkhcbiaaa
open Go.RowKit Go.Shelf
set_option linter.unusedVariables false
set_option linter.unusedSimpArgs false
/-- a list as a slice's content. -/
def slOf {α : Type} [Inhabited α] (L : List α) : Sl α := ⟨L.length, fun i => L.getD i default⟩
instance : Inhabited UD := ⟨⟨false, 0⟩⟩
instance : Inhabited VD := ⟨⟨0, 0, ⟨#[]⟩⟩⟩
instance : Inhabited PD := ⟨⟨0, false, 0, slOf [], slOf [], slOf [], 0, ⟨#[]⟩, slOf [], slOf []⟩⟩
/-- a prototype's data and its lists' values. -/
structure PV where
  p : PD
  a3 : Value
  a4 : Value
  a5 : Value
  a8 : Value
  a9 : Value
def PV.cells (x : PV) : List Value := [.int .i64 x.p.params, .bool x.p.vararg, .int .i64 x.p.regs, x.a3, x.a4, x.a5, .int .i64 x.p.kids, .string x.p.name, x.a8, x.a9]
def pvCells : List PV → List Value
  | [] => []
  | x :: xs => x.cells ++ pvCells xs
theorem pvCells_append (a b : List PV) : pvCells (a ++ b) = pvCells a ++ pvCells b := by
  induction a with
  | nil => rfl
  | cons u us ih => simp [pvCells, ih]
theorem pvCells_len (a : List PV) : (pvCells a).length = a.length * 10 := by
  induction a with
  | nil => rfl
  | cons u us ih => simp only [pvCells, List.length_append, List.length_cons, ih, PV.cells, List.length_nil]; omega
theorem pvCells_get : ∀ (L : List PV) (i : Nat) (x : PV), L[i]? = some x → ∀ j, j < 10 → (pvCells L)[i * 10 + j]? = x.cells[j]? := by
  intro L
  induction L with
  | nil => intro i x h; simp at h
  | cons u us ih =>
    intro i x h j hj
    cases i with
    | zero =>
      simp at h
      subst h
      rw [pvCells, Nat.zero_mul, Nat.zero_add, List.getElem?_append_left (by simp [PV.cells]; omega)]
    | succ i =>
      simp at h
      rw [pvCells, List.getElem?_append_right (by simp [PV.cells]; omega)]
      have := ih i x h j hj
      rw [← this]
      congr 1
      simp [PV.cells]
      omega
theorem upCells_get : ∀ (L : List UD) (i : Nat) (x : UD), L[i]? = some x → (upCells L)[i * 2]? = some (.bool x.stack) ∧ (upCells L)[i * 2 + 1]? = some (.int .i64 x.index) := by
  intro L
  induction L with
  | nil => intro i x h; simp at h
  | cons u us ih =>
    intro i x h
    cases i with
    | zero => simp at h; subst h; exact ⟨rfl, rfl⟩
    | succ i =>
      simp at h
      obtain ⟨h1, h2⟩ := ih i x h
      constructor
      · rw [show (i + 1) * 2 = i * 2 + 1 + 1 by omega]; simpa [upCells] using h1
      · rw [show (i + 1) * 2 + 1 = i * 2 + 1 + 1 + 1 by omega]; simpa [upCells] using h2
theorem arr_of_own {y : World} {lo : Nat} {e : TypeId} {z n : Nat} {v : Value} {xs : List Value} {C : Nat → Nat → Value} {av : Nat → Prop} (h : y.ownsRow lo e z v n xs) (hC : ∀ i, i < n → ∀ j, j < z → xs[i * z + j]? = some (C i j)) (hav : ∀ b, v.ownBlock = some b → av b) : IsArr av y v z n C := by
  rcases h.2 with ⟨rfl, rfl⟩ | ⟨g, cap, cur, rfl, hb, hg, h1, h2, h3, h4⟩
  · exact ⟨none, 0, rfl, by omega, fun h0 => absurd h0 (by omega)⟩
  · refine ⟨_, cap, rfl, by simp only [maxLen] at h2; omega, fun h0 => ⟨g, 0, rfl, hav g rfl, fun i hi j hj => ?_⟩⟩
    have hlt := lt_mul_of hi hj
    rw [Nat.add_assoc, Nat.zero_add, h.cellAt _ hlt]
    exact hC i hi j hj
theorem ints_of_own {y : World} {lo : Nat} {e : TypeId} {k : IntKind} {v : Value} {L : List Int} {av : Nat → Prop} (h : y.ownsRow lo e 1 v L.length (L.map (Value.int k))) (hav : ∀ b, v.ownBlock = some b → av b) : IsInts k av y v (slOf L) := by
  refine arr_of_own h (fun i hi j hj => ?_) hav
  obtain rfl : j = 0 := by omega
  have hi' : i < L.length := hi
  simp [iC, slOf, hi']
theorem strs_of_own {y : World} {lo : Nat} {e : TypeId} {v : Value} {L : List ByteArray} {av : Nat → Prop} (h : y.ownsRow lo e 1 v L.length (L.map Value.string)) (hav : ∀ b, v.ownBlock = some b → av b) (hs : ∀ s ∈ L, s.size ≤ 9223372036854775807) : IsStrs av y v (slOf L) := by
  refine ⟨arr_of_own h (fun i hi j hj => ?_) hav, fun i hi => ?_⟩
  · obtain rfl : j = 0 := by omega
    have hi' : i < L.length := hi
    simp [sC, slOf, hi']
  · have hi' : i < L.length := hi
    refine hs _ ?_
    show L.getD i default ∈ L
    rw [List.getD_eq_getElem?_getD, List.getElem?_eq_getElem hi']
    exact List.getElem_mem _
theorem ups_of_own {y : World} {lo : Nat} {e : TypeId} {v : Value} {L : List UD} {av : Nat → Prop} (h : y.ownsRow lo e 2 v L.length (upCells L)) (hav : ∀ b, v.ownBlock = some b → av b) : IsUps av y v (slOf L) := by
  refine arr_of_own h (fun i hi j hj => ?_) hav
  have hi' : i < L.length := hi
  obtain ⟨h1, h2⟩ := upCells_get L i L[i] (List.getElem?_eq_getElem hi')
  match j, hj with
  | 0, _ => simpa [uC, slOf, hi'] using h1
  | 1, _ => simpa [uC, slOf, hi'] using h2
/-- what l4Kids is handed. -/
structure KIn (lo : Nat) (y : World) (vc vk vu : Value) (LC : List Int) (KD : List VD) (U : List UD) : Prop where
  code : IsInts .u32 (fun b => lo ≤ b ∧ b < y.heap.size ∧ vu.ownBlock ≠ some b) y vc (slOf LC)
  consts : IsVals (fun b => lo ≤ b ∧ b < y.heap.size ∧ vu.ownBlock ≠ some b) y vk (slOf KD)
  ups : y.ownsRow lo 59 2 vu U.length (upCells U)
theorem KIn.later {lo : Nat} {y y' : World} {vc vk vu : Value} {LC : List Int} {KD : List VD} {U : List UD} (h : KIn lo y vc vk vu LC KD U) (hb : Below y.heap.size y y') : KIn lo y' vc vk vu LC KD U :=
  ⟨(IsArr.keep h.code fun b hb' => hb.block b hb'.2.1).mono fun b hb' => ⟨hb'.1, Nat.lt_of_lt_of_le hb'.2.1 hb.size, hb'.2.2⟩,
   ⟨(IsArr.keep h.consts.1 fun b hb' => hb.block b hb'.2.1).mono fun b hb' => ⟨hb'.1, Nat.lt_of_lt_of_le hb'.2.1 hb.size, hb'.2.2⟩, h.consts.2⟩, own_below h.ups hb⟩
/-- the constants' data. -/
def kdL (c : Sl Int) (p : Nat) : List VD := [⟨2, tk c (p + 1) 12, ⟨#[]⟩⟩, ⟨2, tk c (p + 2) 6 - 2, ⟨#[]⟩⟩, ⟨2, tk c (p + 2) 6 + 1, ⟨#[]⟩⟩, ⟨2, 1, ⟨#[]⟩⟩, ⟨3, 0, ⟨#[115]⟩⟩, ⟨1, 1, ⟨#[]⟩⟩]
theorem QSt.kin {c : Sl Int} {p : Nat} {w0 : World} {Bq Bc : Nat} {pa : Int} {va : Bool} {kids : Int} {y : World} {vc : Value} {L : List Int} {vu : Value} {U : List UD} (h : QSt w0 Bq Bc pa va kids (kcL c p) y vc L vu U) :
    KIn w0.heap.size y vc (.slice (some ⟨Bc, 0, none⟩) 6 6) vu L (kdL c p) U := by
  refine ⟨ints_of_own h.code fun b hb => ?_, ⟨⟨_, _, rfl, by show 6 ≤ _; omega, fun _ => ⟨Bc, 0, rfl, ⟨h.hBc, h.cst.lt, own_ne_row h.ups h.cst (by decide)⟩, fun i hi j hj => ?_⟩⟩, fun i hi => ?_⟩, h.ups⟩
  · have := h.code.lt b hb
    exact ⟨this.1, this.2, fun e => own_ne_own h.code h.ups (by decide) b e hb⟩
  · have hi' : i < 6 := hi
    refine h.cst.cell _ ?_
    match i, hi' with
    | 0, _ => match j, hj with
      | 0, _ => rfl
      | 1, _ => rfl
      | 2, _ => rfl
    | 1, _ => match j, hj with
      | 0, _ => rfl
      | 1, _ => rfl
      | 2, _ => rfl
    | 2, _ => match j, hj with
      | 0, _ => rfl
      | 1, _ => rfl
      | 2, _ => rfl
    | 3, _ => match j, hj with
      | 0, _ => rfl
      | 1, _ => rfl
      | 2, _ => rfl
    | 4, _ => match j, hj with
      | 0, _ => rfl
      | 1, _ => rfl
      | 2, _ => rfl
    | 5, _ => match j, hj with
      | 0, _ => rfl
      | 1, _ => rfl
      | 2, _ => rfl
  · have hi' : i < 6 := hi
    match i, hi' with
    | 0, _ => (show 0 ≤ 9223372036854775807; omega)
    | 1, _ => (show 0 ≤ 9223372036854775807; omega)
    | 2, _ => (show 0 ≤ 9223372036854775807; omega)
    | 3, _ => (show 0 ≤ 9223372036854775807; omega)
    | 4, _ => (show 1 ≤ 9223372036854775807; omega)
    | 5, _ => (show 0 ≤ 9223372036854775807; omega)
/-- blocks of lists: new ones, but the list of prototypes itself and the first one's upvalues. -/
def Av (lo : Nat) (y : World) (v u : Value) (b : Nat) : Prop := lo ≤ b ∧ b < y.heap.size ∧ u.ownBlock ≠ some b ∧ v.ownBlock ≠ some b
/-- a tree that is being drawn. -/
structure TreeS (lo : Nat) (y : World) (v : Value) (x0 : PV) (U : List UD) (L : List PV) : Prop where
  row : y.ownsRow lo 35 10 v (L.length + 1) (pvCells (x0 :: L))
  ups : y.ownsRow lo 59 2 x0.a5 U.length (upCells U)
  pups : x0.p.ups = slOf U
  code : IsInts .u32 (Av lo y v x0.a5) y x0.a3 x0.p.code
  consts : IsVals (Av lo y v x0.a5) y x0.a4 x0.p.consts
  lines : IsInts .i64 (Av lo y v x0.a5) y x0.a8 x0.p.lines
  upNames : IsStrs (Av lo y v x0.a5) y x0.a9 x0.p.upNames
  name : x0.p.name.size ≤ 9223372036854775807
  rest : ∀ x ∈ L, IsProto (Av lo y v x0.a5) y x.a3 x.a4 x.a5 x.a8 x.a9 x.p
section
variable {lo : Nat} {y y' : World} {v v' : Value} {x0 : PV} {U : List UD} {L : List PV}
theorem TreeS.move (h : TreeS lo y v x0 U L) {L' : List PV} (hrow : y'.ownsRow lo 35 10 v' (L'.length + 1) (pvCells (x0 :: L')))
    (hk : ∀ b, b < y.heap.size → v.ownBlock ≠ some b → y'.heap[b]? = y.heap[b]?) (hs : y.heap.size ≤ y'.heap.size) (hv : ∀ b, b < y.heap.size → v.ownBlock ≠ some b → v'.ownBlock ≠ some b)
    (hrest : ∀ x ∈ L', x ∈ L ∨ IsProto (Av lo y v x0.a5) y x.a3 x.a4 x.a5 x.a8 x.a9 x.p) : TreeS lo y' v' x0 U L' := by
  have hk' : ∀ b, Av lo y v x0.a5 b → y'.heap[b]? = y.heap[b]? := fun b hb => hk b hb.2.1 hb.2.2.2
  have hm : ∀ b, Av lo y v x0.a5 b → Av lo y' v' x0.a5 b := fun b hb => ⟨hb.1, Nat.lt_of_lt_of_le hb.2.1 hs, hb.2.2.1, hv b hb.2.1 hb.2.2.2⟩
  have hu := own_ne_own h.row h.ups (by decide)
  refine ⟨hrow, own_keep h.ups fun k hk1 => hk k (h.ups.lt k hk1).2 (hu k hk1), h.pups, (IsArr.keep h.code hk').mono hm, ⟨(IsArr.keep h.consts.1 hk').mono hm, h.consts.2⟩, (IsArr.keep h.lines hk').mono hm, ⟨(IsArr.keep h.upNames.1 hk').mono hm, h.upNames.2⟩, h.name, fun x hx => ?_⟩
  rcases hrest x hx with h1 | h1
  · exact ((h.rest x h1).keep hk').mono hm
  · exact (h1.keep hk').mono hm
theorem TreeS.later (h : TreeS lo y v x0 U L) (hb : Below y.heap.size y y') : TreeS lo y' v x0 U L :=
  h.move (own_below h.row hb) (fun b hb1 _ => hb.block b hb1) hb.size (fun _ _ e => e) (fun x hx => .inl hx)
theorem TreeS.app (h : TreeS lo y v x0 U L) {x : PV} (hrow : y'.ownsRow lo 35 10 v' (L.length + 1 + 1) (pvCells (x0 :: L) ++ x.cells)) (hg : y.grownBy y' v.ownBlock) (hat : v'.ownBlock = v.ownBlock ∨ v'.ownBlock = some y.heap.size)
    (hx : IsProto (Av lo y v x0.a5) y x.a3 x.a4 x.a5 x.a8 x.a9 x.p) : TreeS lo y' v' x0 U (L ++ [x]) := by
  refine h.move ?_ (fun b hb hne => hg.block b hb fun e => hne e.symm) hg.size (fun b hb hne e => ?_) (fun x' hx' => ?_)
  · rw [List.length_append, ← List.cons_append, pvCells_append]
    simpa [pvCells] using hrow
  · rcases hat with h1 | h1
    · exact hne (h1 ▸ e)
    · rw [h1] at e
      simp at e
      omega
  · rcases List.mem_append.1 hx' with h1 | h1
    · exact .inl h1
    · simp at h1
      subst h1
      exact .inr hx
theorem TreeS.all (h : TreeS lo y v x0 U L) : ∀ x ∈ x0 :: L, IsProto (fun b => lo ≤ b ∧ b < y.heap.size) y x.a3 x.a4 x.a5 x.a8 x.a9 x.p := by
  intro x hx
  rcases List.mem_cons.1 hx with rfl | hx
  · exact ⟨IsArr.mono h.code fun b hb => ⟨hb.1, hb.2.1⟩, ⟨IsArr.mono h.consts.1 fun b hb => ⟨hb.1, hb.2.1⟩, h.consts.2⟩, h.pups ▸ ups_of_own h.ups h.ups.lt, IsArr.mono h.lines fun b hb => ⟨hb.1, hb.2.1⟩, ⟨IsArr.mono h.upNames.1 fun b hb => ⟨hb.1, hb.2.1⟩, h.upNames.2⟩, h.name⟩
  · exact (h.rest x hx).mono fun b hb => ⟨hb.1, hb.2.1⟩
end
theorem protos_of_row {lo : Nat} {y : World} {v : Value} {X : List PV} {av : Nat → Prop} (hrow : y.ownsRow lo 35 10 v X.length (pvCells X)) (hv : ∀ b, v.ownBlock = some b → av b) (hall : ∀ x ∈ X, IsProto av y x.a3 x.a4 x.a5 x.a8 x.a9 x.p) : IsProtos av y v (slOf (X.map PV.p)) := by
  have hd : ∀ i (hi : i < X.length), (X.map PV.p).getD i default = X[i].p := fun i hi => by simp [hi]
  refine ⟨fun i => (X[i]?.map PV.a3).getD undef, fun i => (X[i]?.map PV.a4).getD undef, fun i => (X[i]?.map PV.a5).getD undef, fun i => (X[i]?.map PV.a8).getD undef, fun i => (X[i]?.map PV.a9).getD undef, ?_, fun i hi => ?_⟩
  · have e : (slOf (X.map PV.p)).n = X.length := by simp [slOf]
    rw [e]
    refine arr_of_own hrow (fun i hi j hj => ?_) hv
    rw [pvCells_get X i X[i] (List.getElem?_eq_getElem hi) j hj]
    have e1 : (slOf (X.map PV.p)).f i = X[i].p := hd i hi
    match j, hj with
    | 0, _ => simp [PV.cells, pC, e1]
    | 1, _ => simp [PV.cells, pC, e1]
    | 2, _ => simp [PV.cells, pC, e1]
    | 3, _ => simp [PV.cells, pC, hi]
    | 4, _ => simp [PV.cells, pC, hi]
    | 5, _ => simp [PV.cells, pC, hi]
    | 6, _ => simp [PV.cells, pC, e1]
    | 7, _ => simp [PV.cells, pC, e1]
    | 8, _ => simp [PV.cells, pC, hi]
    | 9, _ => simp [PV.cells, pC, hi]
  · have hi' : i < X.length := by simpa [slOf] using hi
    have e1 : (slOf (X.map PV.p)).f i = X[i].p := hd i hi'
    rw [e1]
    simp only [List.getElem?_eq_getElem hi', Option.map_some, Option.getD_some]
    exact hall X[i] (List.getElem_mem hi')
theorem TreeS.protos {lo : Nat} {y : World} {v : Value} {x0 : PV} {U : List UD} {L : List PV} (h : TreeS lo y v x0 U L) : IsProtos (fun b => lo ≤ b ∧ b < y.heap.size) y v (slOf ((x0 :: L).map PV.p)) :=
  protos_of_row (X := x0 :: L) h.row h.row.lt h.all
/-- a slice's content with one thing changed. -/
def slSet {α : Type} (s : Sl α) (i : Nat) (a : α) : Sl α := ⟨s.n, fun j => if j = i then a else s.f j⟩
theorem slOf_set {α : Type} [Inhabited α] (L : List α) (i : Nat) (a : α) (hi : i < L.length) : slOf (L.set i a) = slSet (slOf L) i a := by
  unfold slOf slSet
  simp only [List.length_set, Sl.mk.injEq, true_and]
  funext j
  by_cases e : j = i
  · subst e
    simp [hi]
  · simp [e, List.getElem?_set, Ne.symm e]
/-- the first upvalue of the first one is another one. -/
def fixU : List PD → Int → List PD
  | [], _ => []
  | x :: xs, n => { x with ups := slSet x.ups 0 ⟨false, n⟩ } :: xs
/-- the prototype with its debug texts. -/
def qD (pa : Int) (va : Bool) (kids : Int) (LC : List Int) (KD : List VD) (U : List UD) (a : Int) : PD :=
  { params := pa, vararg := va, regs := 12, code := slOf LC, consts := slOf KD, ups := slOf U, kids := kids, name := if a < 3 then strOfNums [102, 97 + a] else ⟨#[]⟩, lines := if a = 2 then slOf ((List.range LC.length).map fun (i : Nat) => (i : Int) * 37) else slOf [], upNames := if a = 2 then slOf (List.replicate U.length ⟨#[117]⟩) else slOf [] }
/-- the children one after the other: what has been drawn, and how far. -/
def kSeq (c : Sl Int) (T : Nat → Int → List PD × Nat) (q : PD) (nu : Nat) (p0 : Nat) : Nat → List PD × Nat
  | 0 => ([q], p0)
  | i + 1 => ((kSeq c T q nu p0 i).1 ++ (if 0 < nu ∧ 0 < tk c (kSeq c T q nu p0 i).2 3 ∧ i = 0 then fixU (T ((kSeq c T q nu p0 i).2 + 1) (tk c (kSeq c T q nu p0 i).2 3)).1 ((nu : Int) - 1) else (T ((kSeq c T q nu p0 i).2 + 1) (tk c (kSeq c T q nu p0 i).2 3)).1),
      (T ((kSeq c T q nu p0 i).2 + 1) (tk c (kSeq c T q nu p0 i).2 3)).2)
/-- what drawing a tree answers. -/
def TreeA (c : Sl Int) (level : Int) (p : Nat) (ups : Int) (t : List PD × Nat) : Prop :=
  t.2 ≤ p + 2000 ∧ t.1.length ≤ 100 ∧ ∀ w v, IsCode w v c → Calls Try.prog 14 #[v, .int .i64 p, .int .i64 level, .int .i64 ups] w fun e w' => ∃ u, e = .returned (.tuple #[u, .int .i64 (t.2 : Nat)]) ∧ Below w.heap.size w w' ∧ ∃ x0 U L, TreeS w.heap.size w' u x0 U L ∧ (U.length : Int) = ups ∧ (x0 :: L).map PV.p = t.1
end Go.Proofs.Ytlkmohhkhcbiaaa

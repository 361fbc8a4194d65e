import Derived.Test.YtlkmohhkhcbiaaaDrG
import Derived.Test.YtlkmohhkhcbiaaaRowA
import Derived.Test.YtlkmohhkhcbiaaaTak
namespace Go.Proofs.Ytlkmohhkhcbiaaa
open Go.RowKit Go.Shelf
set_option linter.unusedVariables false
set_option linter.unusedSimpArgs false
/-- how many blocks are drawn. -/
def cnt (c : Sl Int) : Nat := if 2 + c.n / 10 > 7 then 7 else 2 + c.n / 10
theorem cnt_le (c : Sl Int) : cnt c ≤ 7 := by unfold cnt; split <;> omega
set_option maxRecDepth 100000 in
set_option maxHeartbeats 400000 in
theorem l1Count_in (c : Sl Int) (ao : Option Addr) (cap : Nat) (w : World) (hc : c.n ≤ 1048576) :
    Calls Try.prog 23 #[.slice ao c.n cap, .int .i64 10, .int .i64 2, .int .i64 7] w fun e w' => e = .returned (.int .i64 (cnt c : Nat)) ∧ w = w' := by
  by_cases h : 2 + c.n / 10 > 7
  · have e : cnt c = 7 := if_pos h
    rw [e]
    go_enter Try.func23, Try.ntmps23
    go_wp2_with fail
    go_ret
    exact ⟨rfl, rfl⟩
  · have e : cnt c = 2 + c.n / 10 := if_neg h
    rw [e]
    go_enter Try.func23, Try.ntmps23
    go_wp2_with fail
    go_ret
    exact ⟨by simp, rfl⟩
theorem RowL.lt {w : World} {b : Nat} {t : TypeId} {L : List Value} (h : RowL w b t L) : b < w.heap.size := World.rowIs.lt h
/-- rows of other types lie in other blocks. -/
theorem own_ne_row {y : World} {base : Nat} {e t : TypeId} {z n b : Nat} {v : Value} {xs L : List Value} (h : y.ownsRow base e z v n xs) (k : RowL y b t L) (he : e ≠ t) : v.ownBlock ≠ some b := fun e1 => by
  rcases h.2 with ⟨rfl, _⟩ | ⟨g, cap, cur, rfl, _, hg, _⟩
  · simp [Value.ownBlock] at e1
  · simp only [Value.ownBlock, Option.some.injEq] at e1
    subst e1
    obtain ⟨cur', h2, _⟩ := k
    rw [hg] at h2
    simp only [Option.some.injEq, Obj.cells.injEq] at h2
    exact he h2.2.1
theorem own_ne_own {y : World} {base base' : Nat} {e t : TypeId} {z z' n n' : Nat} {v u : Value} {xs ys : List Value} (h : y.ownsRow base e z v n xs) (k : y.ownsRow base' t z' u n' ys) (he : e ≠ t) : ∀ b, u.ownBlock = some b → v.ownBlock ≠ some b := fun b hb e1 => by
  rcases h.2 with ⟨rfl, _⟩ | ⟨g, cap, cur, rfl, _, hg, _⟩
  · simp [Value.ownBlock] at e1
  · rcases k.2 with ⟨rfl, _⟩ | ⟨g', cap', cur', rfl, _, hg', _⟩
    · simp [Value.ownBlock] at hb
    · simp only [Value.ownBlock, Option.some.injEq] at e1 hb
      subst e1 hb
      rw [hg] at hg'
      simp only [Option.some.injEq, Obj.cells.injEq] at hg'
      exact he hg'.2.1
theorem own_keep {base : Nat} {e : TypeId} {z n : Nat} {y y' : World} {v : Value} {xs : List Value} (h : y.ownsRow base e z v n xs) (hk : ∀ k, v.ownBlock = some k → y'.heap[k]? = y.heap[k]?) : y'.ownsRow base e z v n xs := by
  refine ⟨h.1, ?_⟩
  rcases h.2 with hn | ⟨g, cap, cur, hv, hbb, hg, rest⟩
  · exact .inl hn
  · exact .inr ⟨g, cap, cur, hv, hbb, (hk g (by rw [hv]; rfl)).trans hg, rest⟩
def upCells : List UD → List Value
  | [] => []
  | u :: us => .bool u.stack :: .int .i64 u.index :: upCells us
theorem upCells_append (a b : List UD) : upCells (a ++ b) = upCells a ++ upCells b := by
  induction a with
  | nil => rfl
  | cons u us ih => simp [upCells, ih]
theorem upCells_len (a : List UD) : (upCells a).length = a.length * 2 := by
  induction a with
  | nil => rfl
  | cons u us ih => simp only [upCells, List.length_cons, ih]; omega
/-- a prototype that is being drawn, in its box. -/
structure QSt (w0 : World) (Bq Bc : Nat) (pa : Int) (va : Bool) (kids : Int) (KC : List Value) (y : World) (vc : Value) (L : List Int) (vu : Value) (U : List UD) : Prop where
  box : RowL y Bq 35 [.int .i64 pa, .bool va, .int .i64 12, vc, .slice (some ⟨Bc, 0, none⟩) 6 6, vu, .int .i64 kids, .string ⟨#[]⟩, .slice none 0 0, .slice none 0 0]
  cst : RowL y Bc 57 KC
  code : y.ownsRow w0.heap.size 51 1 vc L.length (L.map (Value.int .u32))
  ups : y.ownsRow w0.heap.size 59 2 vu U.length (upCells U)
  bel : Below w0.heap.size w0 y
  hBq : w0.heap.size ≤ Bq
  hBc : w0.heap.size ≤ Bc
section
variable {w0 : World} {Bq Bc : Nat} {pa : Int} {va : Bool} {kids : Int} {KC : List Value} {y : World} {vc : Value} {L : List Int} {vu : Value} {U : List UD}
theorem QSt.later (h : QSt w0 Bq Bc pa va kids KC y vc L vu U) {y' : World} (hb : Below y.heap.size y y') : QSt w0 Bq Bc pa va kids KC y' vc L vu U :=
  ⟨h.box.call hb, h.cst.call hb, own_below h.code hb, own_below h.ups hb, h.bel.trans (hb.mono h.bel.size), h.hBq, h.hBc⟩
theorem QSt.drew (h : QSt w0 Bq Bc pa va kids KC y vc L vu U) : QSt w0 Bq Bc pa va kids KC y.drew vc L vu U := h.later (Below.refl _ _).drew
/-- words appended to its code, and the new list stored. -/
theorem QSt.app (h : QSt w0 Bq Bc pa va kids KC y vc L vu U) {w' : World} {v' : Value} {N : List Int} (hrow : w'.ownsRow w0.heap.size 51 1 v' (L ++ N).length ((L ++ N).map (Value.int .u32))) (hg : y.grownBy w' vc.ownBlock) :
    QSt w0 Bq Bc pa va kids KC (w'.setCell ⟨Bq, 3, none⟩ v') v' (L ++ N) vu U ∧ RowL w' Bq 35 [.int .i64 pa, .bool va, .int .i64 12, vc, .slice (some ⟨Bc, 0, none⟩) 6 6, vu, .int .i64 kids, .string ⟨#[]⟩, .slice none 0 0, .slice none 0 0] := by
  have n1 := own_ne_row h.code h.box (by decide)
  have n2 := own_ne_row h.code h.cst (by decide)
  have n3 := own_ne_own h.code h.ups (by decide)
  have b1 : RowL w' Bq 35 _ := World.rowIs.of_block h.box (hg.block Bq h.box.lt fun e => n1 e.symm)
  have b2 : RowL w' Bc 57 KC := World.rowIs.of_block h.cst (hg.block Bc h.cst.lt fun e => n2 e.symm)
  have hu : w'.ownsRow w0.heap.size 59 2 vu U.length (upCells U) := World.ownsRow.kept h.ups hg (by
    cases e : vu.ownBlock with
    | none => exact .inl rfl
    | some q => exact .inr fun e2 => n3 q e e2.symm)
  have n4 := own_ne_row hrow b1 (by decide)
  have n5 := own_ne_row hu b1 (by decide)
  have hne : Bq ≠ Bc := by
    rintro rfl
    obtain ⟨c1, e1, _⟩ := b1
    obtain ⟨c2, e2, _⟩ := b2
    rw [e1] at e2
    simp at e2
  refine ⟨⟨b1.set 3 v', b2.other (a := ⟨Bq, 3, none⟩) (Ne.symm hne) v', ?_, ?_, ?_, h.hBq, h.hBc⟩, b1⟩
  · exact own_keep hrow fun k hk => Below.heap_setCell _ _ _ _ (by rintro rfl; exact n4 hk)
  · exact own_keep hu fun k hk => Below.heap_setCell _ _ _ _ (by rintro rfl; exact n5 hk)
  · exact (Below.grown h.bel hg h.bel.size (fun q hq => (h.code.lt q hq).1)).setCell (p := ⟨Bq, 3, none⟩) h.hBq _
end
end Go.Proofs.Ytlkmohhkhcbiaaa

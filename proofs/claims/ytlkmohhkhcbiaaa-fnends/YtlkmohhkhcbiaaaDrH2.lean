import Derived.Test.YtlkmohhkhcbiaaaDrH
namespace Go.Proofs.Ytlkmohhkhcbiaaa
open Go.RowKit Go.Shelf
set_option linter.unusedVariables false
set_option linter.unusedSimpArgs false
section
variable {w0 : World} {Bq Bc : Nat} {pa : Int} {va : Bool} {kids : Int} {KC : List Value} {y : World} {vc : Value} {L : List Int} {vu : Value} {U : List UD}
/-- an upvalue appended, and the new list stored. -/
theorem QSt.appUp (h : QSt w0 Bq Bc pa va kids KC y vc L vu U) {w' : World} {v' : Value} {N : List UD} (hrow : w'.ownsRow w0.heap.size 59 2 v' (U ++ N).length (upCells (U ++ N))) (hg : y.grownBy w' vu.ownBlock) :
    QSt w0 Bq Bc pa va kids KC (w'.setCell ⟨Bq, 5, none⟩ v') vc L v' (U ++ N) ∧ RowL w' Bq 35 [.int .i64 pa, .bool va, .int .i64 12, vc, .slice (some ⟨Bc, 0, none⟩) 6 6, vu, .int .i64 kids, .string ⟨#[]⟩, .slice none 0 0, .slice none 0 0] := by
  have n1 := own_ne_row h.ups h.box (by decide)
  have n2 := own_ne_row h.ups h.cst (by decide)
  have n3 := own_ne_own h.ups h.code (by decide)
  have b1 : RowL w' Bq 35 _ := World.rowIs.of_block h.box (hg.block Bq h.box.lt fun e => n1 e.symm)
  have b2 : RowL w' Bc 57 KC := World.rowIs.of_block h.cst (hg.block Bc h.cst.lt fun e => n2 e.symm)
  have hu : w'.ownsRow w0.heap.size 51 1 vc L.length (L.map (Value.int .u32)) := World.ownsRow.kept h.code hg (by
    cases e : vc.ownBlock with
    | none => exact .inl rfl
    | some q => exact .inr fun e2 => n3 q e e2.symm)
  have n4 := own_ne_row hrow b1 (by decide)
  have n5 := own_ne_row hu b1 (by decide)
  have hne : Bq ≠ Bc := by
    rintro rfl
    obtain ⟨c1, e1, _⟩ := b1
    obtain ⟨c2, e2, _⟩ := b2
    rw [e1] at e2
    simp at e2
  refine ⟨⟨b1.set 5 v', b2.other (a := ⟨Bq, 5, none⟩) (Ne.symm hne) v', ?_, ?_, ?_, h.hBq, h.hBc⟩, b1⟩
  · exact own_keep hu fun k hk => Below.heap_setCell _ _ _ _ (by rintro rfl; exact n5 hk)
  · exact own_keep hrow fun k hk => Below.heap_setCell _ _ _ _ (by rintro rfl; exact n4 hk)
  · exact (Below.grown h.bel hg h.bel.size (fun q hq => (h.ups.lt q hq).1)).setCell (p := ⟨Bq, 5, none⟩) h.hBq _
end
theorem infoUp : (Try.prog.info? 59).map (fun i => (i.zero, i.size, i.bytes)) = some (some (.agg #[.bool false, .int .i64 0]), 2, 16) := by kernel_rfl
end Go.Proofs.Ytlkmohhkhcbiaaa

/-
  DERIVED. GIVEN WITH THE SEED: THE CARDS: each row of YtijdpklpopckfaaDoorRows.lean that lists a variable, with what it lists TIED to the program's text (the seventh form; the later family's looks); each row that meets fmt, with fmt's text TOLD by the authors' own Lean function (tested against real Go, not proved from fmt's source: count such statements apart). THE CARD IS WHAT COUNTS. Prove the row's statement (the work); the ties are given (YtijdpklpopckfaaDoorTie.lean); close each card by the builder's one call (the guide's Derived/Test/ToyasCard.lean, 'card_holds'). Laid BY PROGRAM, IN A SANDBOX (cutbox-door.mjs). By AI agents, Wed Nov 11 2026. No macro, syntax, notation, axiom, sorry.
-/
import Derived.Test.YtijdpklpopckfaaDoorRows
import GoSem.ClaimSeven
namespace Go.Proofs.YtijdpklpopckfaaDoor
namespace Rows

/-- THE TIED CARD OF 'laws.FnWire'. -/
def fnWireCard : Claim7 := { stood := { row := fnWireRow, standIns := [], harness := (true, "055d5085449b0b4e43d0c3a434d163ca1efcabebd542f51cd53205b356a6915b"), looks := false }, kinds := [], alts := [], laidByText := true, laidKinds := [.data], laidTests := true, laidLooks := .later }
def FnWireCardSaid : Prop := Claim7.holds Tryd.pinned (.plain (OpenSpec.ofChange fnWireSpec)) fnWireCard

/-- THE TIED CARD OF 'laws.FnExactWide'. -/
def fnExactWideCard : Claim7 := { stood := { row := fnExactWideRow, standIns := [], harness := (true, "055d5085449b0b4e43d0c3a434d163ca1efcabebd542f51cd53205b356a6915b"), looks := false }, kinds := [], alts := [], laidByText := true, laidKinds := [.data], laidTests := true, laidLooks := .later }
def FnExactWideCardSaid : Prop := Claim7.holds Tryd.pinned (.plain (OpenSpec.ofChange fnExactWideSpec)) fnExactWideCard

/-- THE SECOND FORM's CARD OF 'laws.FnWire'. -/
def fnWireUptoCard : Claim7 := { stood := { row := fnWireUptoRow, standIns := [], harness := (true, "055d5085449b0b4e43d0c3a434d163ca1efcabebd542f51cd53205b356a6915b"), looks := false }, kinds := [], alts := [], laidByText := true, laidKinds := [.data], laidTests := true, laidLooks := .later }
def FnWireUptoCardSaid : Prop := Claim7.holds Tryd.pinned (.plain (OpenSpec.upto fnWireSpec)) fnWireUptoCard

/-- THE SECOND FORM's CARD OF 'laws.FnExactWide'. -/
def fnExactWideUptoCard : Claim7 := { stood := { row := fnExactWideUptoRow, standIns := [], harness := (true, "055d5085449b0b4e43d0c3a434d163ca1efcabebd542f51cd53205b356a6915b"), looks := false }, kinds := [], alts := [], laidByText := true, laidKinds := [.data], laidTests := true, laidLooks := .later }
def FnExactWideUptoCardSaid : Prop := Claim7.holds Tryd.pinned (.plain (OpenSpec.upto fnExactWideSpec)) fnExactWideUptoCard
end Rows
end Go.Proofs.YtijdpklpopckfaaDoor

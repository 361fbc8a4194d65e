/-
  DERIVED. GIVEN WITH THE SEED: THE CARDS: each row of YtadhfoimoniajacDoorRows.lean that lists a variable, with what it lists TIED to the program's text (the seventh form; the later family's looks); each row that meets fmt, with fmt's text TOLD by the authors' own Lean function (tested against real Go, not proved from fmt's source: count such statements apart). THE CARD IS WHAT COUNTS. Prove the row's statement (the work); the ties are given (YtadhfoimoniajacDoorTie.lean); close each card by the builder's one call (the guide's Derived/Test/ToyasCard.lean, 'card_holds'). Laid BY PROGRAM, IN A SANDBOX (cutbox-door.mjs). By AI agents, Wed Nov 11 2026. No macro, syntax, notation, axiom, sorry.
-/
import Derived.Test.YtadhfoimoniajacDoorRows
import GoSem.ClaimSeven
namespace Go.Proofs.YtadhfoimoniajacDoor
namespace Rows

/-- THE TIED CARD OF 'laws.FnExactOpCode'. -/
def fnExactOpCodeCard : Claim7 := { stood := { row := fnExactOpCodeRow, standIns := [], harness := (true, "7017e19a38710c13296732f4359c498479f9757c8c5352440e79af9123bb5dbc"), looks := false }, kinds := [], alts := [], laidByText := true, laidKinds := [.data], laidTests := true, laidLooks := .later }
def FnExactOpCodeCardSaid : Prop := Claim7.holds Tryd.pinned (.plain (OpenSpec.ofChange fnExactOpCodeSpec)) fnExactOpCodeCard

/-- THE SECOND FORM's CARD OF 'laws.FnExactOpCode'. -/
def fnExactOpCodeUptoCard : Claim7 := { stood := { row := fnExactOpCodeUptoRow, standIns := [], harness := (true, "7017e19a38710c13296732f4359c498479f9757c8c5352440e79af9123bb5dbc"), looks := false }, kinds := [], alts := [], laidByText := true, laidKinds := [.data], laidTests := true, laidLooks := .later }
def FnExactOpCodeUptoCardSaid : Prop := Claim7.holds Tryd.pinned (.plain (OpenSpec.upto fnExactOpCodeSpec)) fnExactOpCodeUptoCard
end Rows
end Go.Proofs.YtadhfoimoniajacDoor

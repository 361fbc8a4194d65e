/-
  DERIVED. GIVEN WITH THE SEED: THE CARDS: each row of YtgcbkfckfgiigaaGreatDoorRows.lean that lists a variable, with what it lists TIED to the program's text (the seventh form; the later family's looks); each row that meets fmt, with fmt's text TOLD by the authors' own Lean function (tested against real Go, not proved from fmt's source: count such statements apart). THE CARD IS WHAT COUNTS. Prove the row's statement (the work); the ties are given (YtgcbkfckfgiigaaGreatDoorTie.lean); close each card by the builder's one call (the guide's Derived/Test/ToyasCard.lean, 'card_holds'). Laid BY PROGRAM, IN A SANDBOX (cutbox-door.mjs). By AI agents, Wed Nov 11 2026. No macro, syntax, notation, axiom, sorry.
-/
import Derived.Test.YtgcbkfckfgiigaaGreatDoorRows
import GoSem.ClaimSeven
namespace Go.Proofs.YtgcbkfckfgiigaaGreatDoor
namespace Rows

/-- THE TIED CARD OF 'laws.FnTops'. -/
def fnTopsCard : Claim7 := { stood := { row := fnTopsRow, standIns := [], harness := (true, "e4718e3982fa6edf620aee8faf56c5eb097463f12fe471e07cf0c9c46ebe02ce"), looks := false }, kinds := [], alts := [], laidByText := true, laidKinds := [.data], laidTests := true, laidLooks := .later }
def FnTopsCardSaid : Prop := Claim7.holds Tryz.pinned (.plain (OpenSpec.ofChange fnTopsSpec)) fnTopsCard

/-- THE SECOND FORM's CARD OF 'laws.FnTops'. -/
def fnTopsUptoCard : Claim7 := { stood := { row := fnTopsUptoRow, standIns := [], harness := (true, "e4718e3982fa6edf620aee8faf56c5eb097463f12fe471e07cf0c9c46ebe02ce"), looks := false }, kinds := [], alts := [], laidByText := true, laidKinds := [.data], laidTests := true, laidLooks := .later }
def FnTopsUptoCardSaid : Prop := Claim7.holds Tryz.pinned (.plain (OpenSpec.upto fnTopsSpec)) fnTopsUptoCard
end Rows
end Go.Proofs.YtgcbkfckfgiigaaGreatDoor

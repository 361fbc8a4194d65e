/-
  DERIVED. GIVEN WITH THE SEED: THE CARDS: each row of YtenonpajjlppjaaGreatDoorRows.lean that lists a variable, with what it lists TIED to the program's text (the seventh form; the later family's looks); each row that meets fmt, with fmt's text TOLD by the authors' own Lean function (tested against real Go, not proved from fmt's source: count such statements apart). THE CARD IS WHAT COUNTS. Prove the row's statement (the work); the ties are given (YtenonpajjlppjaaGreatDoorTie.lean); close each card by the builder's one call (the guide's Derived/Test/ToyasCard.lean, 'card_holds'). Laid BY PROGRAM, IN A SANDBOX (cutbox-door.mjs). By AI agents, Wed Nov 11 2026. No macro, syntax, notation, axiom, sorry.
-/
import Derived.Test.YtenonpajjlppjaaGreatDoorRows
import GoSem.ClaimSeven
namespace Go.Proofs.YtenonpajjlppjaaGreatDoor
namespace Rows

/-- THE TIED CARD OF 'laws.FnExactList'. -/
def fnExactListCard : Claim7 := { stood := { row := fnExactListRow, standIns := [], harness := (true, "a6d08dfb6c13bf151bb613f6238ea3e3c8630ef666634c786f35858688cd3e92"), looks := false }, kinds := [], alts := [], laidByText := true, laidKinds := [.data, .data, .data, .data, .data], laidTests := true, laidLooks := .later }
def FnExactListCardSaid : Prop := Claim7.holds Tryz.pinned (.plain (OpenSpec.ofChange fnExactListSpec)) fnExactListCard

/-- THE SECOND FORM's CARD OF 'laws.FnExactList'. -/
def fnExactListUptoCard : Claim7 := { stood := { row := fnExactListUptoRow, standIns := [], harness := (true, "a6d08dfb6c13bf151bb613f6238ea3e3c8630ef666634c786f35858688cd3e92"), looks := false }, kinds := [], alts := [], laidByText := true, laidKinds := [.data, .data, .data, .data, .data], laidTests := true, laidLooks := .later }
def FnExactListUptoCardSaid : Prop := Claim7.holds Tryz.pinned (.plain (OpenSpec.upto fnExactListSpec)) fnExactListUptoCard
end Rows
end Go.Proofs.YtenonpajjlppjaaGreatDoor

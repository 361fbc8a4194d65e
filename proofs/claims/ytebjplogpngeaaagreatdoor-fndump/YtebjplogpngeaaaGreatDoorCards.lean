/-
  DERIVED. GIVEN WITH THE SEED: THE CARDS: each row of YtebjplogpngeaaaGreatDoorRows.lean that lists a variable, with what it lists TIED to the program's text (the seventh form; the later family's looks); each row that meets fmt, with fmt's text TOLD by the authors' own Lean function (tested against real Go, not proved from fmt's source: count such statements apart). THE CARD IS WHAT COUNTS. Prove the row's statement (the work); the ties are given (YtebjplogpngeaaaGreatDoorTie.lean); close each card by the builder's one call (the guide's Derived/Test/ToyasCard.lean, 'card_holds'). Laid BY PROGRAM, IN A SANDBOX (cutbox-door.mjs). By AI agents, Wed Nov 11 2026. No macro, syntax, notation, axiom, sorry.
-/
import Derived.Test.YtebjplogpngeaaaGreatDoorRows
import GoSem.ClaimSeven
namespace Go.Proofs.YtebjplogpngeaaaGreatDoor
namespace Rows

/-- THE TIED CARD OF 'laws.FnDump'. -/
def fnDumpCard : Claim7 := { stood := { row := fnDumpRow, standIns := [], harness := (true, "eb678b09716d3ac235979f9cc5a932b454882f6e72397a8078384595ba5c54e0"), looks := true }, kinds := [], alts := [], laidByText := true, laidKinds := [.handle], laidTests := true, laidLooks := .later }
def FnDumpCardSaid : Prop := Claim7.holds Tryz.pinned (.plain (OpenSpec.ofChange fnDumpSpec)) fnDumpCard

/-- THE SECOND FORM's CARD OF 'laws.FnDump'. -/
def fnDumpUptoCard : Claim7 := { stood := { row := fnDumpUptoRow, standIns := [], harness := (true, "eb678b09716d3ac235979f9cc5a932b454882f6e72397a8078384595ba5c54e0"), looks := true }, kinds := [], alts := [], laidByText := true, laidKinds := [.handle], laidTests := true, laidLooks := .later }
def FnDumpUptoCardSaid : Prop := Claim7.holds Tryz.pinned (.plain (OpenSpec.upto fnDumpSpec)) fnDumpUptoCard
end Rows
end Go.Proofs.YtebjplogpngeaaaGreatDoor

/-
  DERIVED. GIVEN WITH THE SEED: THE CARDS: each row of YtplijnfaiofckaaGreatDoorRows.lean that lists a variable, with what it lists TIED to the program's text (the seventh form; the later family's looks); each row that meets fmt, with fmt's text TOLD by the authors' own Lean function (tested against real Go, not proved from fmt's source: count such statements apart). THE CARD IS WHAT COUNTS. Prove the row's statement (the work); the ties are given (YtplijnfaiofckaaGreatDoorTie.lean); close each card by the builder's one call (the guide's Derived/Test/ToyasCard.lean, 'card_holds'). Laid BY PROGRAM, IN A SANDBOX (cutbox-door.mjs). By AI agents, Wed Nov 11 2026. No macro, syntax, notation, axiom, sorry.
-/
import Derived.Test.YtplijnfaiofckaaGreatDoorRows
import GoSem.ClaimSeven
namespace Go.Proofs.YtplijnfaiofckaaGreatDoor
namespace Rows

/-- THE TIED CARD OF 'laws.FnList'. -/
def fnListCard : Claim7 := { stood := { row := fnListRow, standIns := [], harness := (true, "b6ce46d6c1b52561cfc9dd5b1538175a5c4c8ed1cabd3ba540be2b1985cfa479"), looks := true }, kinds := [], alts := [], laidByText := true, laidKinds := [.data, .data, .data, .data, .sentinel, .sentinel, .data, .data, .pinned], laidTests := true, laidLooks := .later }
def FnListCardSaid : Prop := Claim7.holds Tryz.pinned (.plain (OpenSpec.ofChange fnListSpec)) fnListCard

/-- THE SECOND FORM's CARD OF 'laws.FnList'. -/
def fnListUptoCard : Claim7 := { stood := { row := fnListUptoRow, standIns := [], harness := (true, "b6ce46d6c1b52561cfc9dd5b1538175a5c4c8ed1cabd3ba540be2b1985cfa479"), looks := true }, kinds := [], alts := [], laidByText := true, laidKinds := [.data, .data, .data, .data, .sentinel, .sentinel, .data, .data, .pinned], laidTests := true, laidLooks := .later }
def FnListUptoCardSaid : Prop := Claim7.holds Tryz.pinned (.plain (OpenSpec.upto fnListSpec)) fnListUptoCard
end Rows
end Go.Proofs.YtplijnfaiofckaaGreatDoor

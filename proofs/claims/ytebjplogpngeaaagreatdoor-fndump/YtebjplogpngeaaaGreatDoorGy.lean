import Derived.Test.YtebjplogpngeaaaGreatDoorRows
import Derived.Test.YtebjplogpngeaaaGreatDoorChecked
import Derived.Test.YtebjplogpngeaaaGreatDoorCards
import Derived.SevenTiedAt
import Derived.RowKit
import Derived.JoinedOf
namespace Go.Proofs.YtebjplogpngeaaaGreatDoor
open Go.RowKit
theorem vg0 : false = Rows.fnDumpRow.goesBy Tryz.prog := by kernel_rfl
theorem vg1 : true = Tryz.prog.looks [] := by kernel_rfl
theorem vg2 : Rows.fnDumpRow.wfByText (OpenSpec.ofChange Rows.fnDumpSpec) = true := by kernel_rfl
theorem vg3 : Tryz.prog.mainIs = some (true, "eb678b09716d3ac235979f9cc5a932b454882f6e72397a8078384595ba5c54e0".toList) := by kernel_rfl
theorem vg4 : Tryz.prog.funcNamed "loop.example/s02979/laws.FnDump" = some 3 := by kernel_rfl
theorem vg5 : ([22].all fun u => !Tryz.prog.wantsStandIn u) = true := by kernel_rfl
/-- a tied card without a companion, of a call. -/
theorem tied_goes (Lk : Looks) {p : Pinned} {s : OpenSpec} {c : OpenClaim} (kinds : List LaidKind) (tests : Bool) (har : Bool × String) (lk g : Bool)
    (hc : c.holds p s) (hw : c.wfByText s = true) (htie : c.laidByTextAt Lk p kinds tests)
    (hst : c.start = .entering) (hnb : c.noBlocks = false ∧ c.again = false) (hm : p.checked.prog.mainIs = some (har.1, har.2.toList)) (hn : (!har.1 && har.2.isEmpty && !lk) = false)
    (hl : ∀ f fn, p.checked.prog.funcNamed c.func = some f → p.checked.prog.funcs[f]? = some fn → lk = p.checked.prog.looks [] ∧ ∀ (j : Nat) t, fn.params[j]? = some t → p.checked.prog.wantsStandIn t = false)
    (hg : g = c.goesBy p.checked.prog) :
    Claim7.holds p (.plain s) { stood := { row := c, standIns := [], harness := har, looks := lk }, kinds := [], alts := [], goes := g, laidByText := true, laidKinds := kinds, laidTests := tests, laidLooks := Lk } := by
  have h6 : ∀ r : OpenClaim, Claim7.isSixth { stood := { row := r, standIns := [], harness := har, looks := lk }, kinds := [] } = false := fun r => by simpa [Claim7.isSixth] using hn
  exact ⟨Claim7.tied_new_at Lk kinds tests (Claim7.new_of_sixth hc har lk hst hnb hm (h6 c) hl) hw, (fun D hD => by cases hD), htie, (fun h => by cases h), hg⟩
end Go.Proofs.YtebjplogpngeaaaGreatDoor
namespace Go.Proofs.YtebjplogpngeaaaGreatDoor
open Go.RowKit
theorem vj0 : (Rows.fnDumpRow.inPlace == Tryz.prog.inPlace 3) = true := by kernel_rfl
theorem vj1 : (Rows.fnDumpRow.unfollowed == Tryz.prog.unfollowed 3) = true := by kernel_rfl
theorem vj2 : (Rows.fnDumpRow.recurses == Tryz.prog.recurses 3) = true := by kernel_rfl
theorem vj3 : (Rows.fnDumpRow.named == Tryz.prog.varsNamed 3) = true := by kernel_rfl
theorem vj4 : laidOutB Tryz.prog = true := by kernel_rfl
theorem vj5 : mapsRowed Tryz.prog = true := by kernel_rfl
theorem vj6 : Tryz.prog.stopsHeard = true := by kernel_rfl
theorem vj7 : Tryz.prog.mayEnter = true := by kernel_rfl
theorem vj8 : Rows.fnDumpRow.wf (OpenSpec.ofChange Rows.fnDumpSpec) = true := by kernel_rfl
theorem vf_joined : joinedFacts Tryz.prog 3 Tryz.f3 Rows.fnDumpSpec Rows.fnDumpRow = true := by
  unfold joinedFacts
  rw [vj0, vj1, vj2, vj3, vj4, vj5, vj6, vj7, vj8]
  kernel_rfl
end Go.Proofs.YtebjplogpngeaaaGreatDoor

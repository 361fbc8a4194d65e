import Derived.RowKit
import Derived.Test.YtplijnfaiofckaaGreatDoorCards
import Derived.SevenTiedAt
namespace Go.Proofs.YtplijnfaiofckaaGreatDoor
open Go.RowKit
theorem vj0 : (Rows.fnListRow.inPlace == Tryz.prog.inPlace 3) = true := by kernel_rfl
theorem vj1 : (Rows.fnListRow.unfollowed == Tryz.prog.unfollowed 3) = true := by kernel_rfl
theorem vj2 : (Rows.fnListRow.recurses == Tryz.prog.recurses 3) = true := by kernel_rfl
theorem vj3 : (Rows.fnListRow.named == Tryz.prog.varsNamed 3) = true := by kernel_rfl
theorem vj4 : laidOutB Tryz.prog = true := by kernel_rfl
theorem vj5 : mapsRowed Tryz.prog = true := by kernel_rfl
theorem vj6 : Tryz.prog.stopsHeard = true := by kernel_rfl
theorem vj7 : Tryz.prog.mayEnter = true := by kernel_rfl
theorem vj8 : Rows.fnListRow.wf (OpenSpec.ofChange Rows.fnListSpec) = true := by kernel_rfl
theorem vf_joined : joinedFacts Tryz.prog 3 Tryz.f3 Rows.fnListSpec Rows.fnListRow = true := by
 unfold joinedFacts;rw [vj0, vj1, vj2, vj3, vj4, vj5, vj6, vj7, vj8]
 kernel_rfl
theorem vg0 : false = Rows.fnListRow.goesBy Tryz.prog := by kernel_rfl
theorem vg1 : true = Tryz.prog.looks [] := by kernel_rfl
theorem vg2 : Rows.fnListRow.wfByText (OpenSpec.ofChange Rows.fnListSpec) = true := by kernel_rfl
theorem vg3 : Tryz.prog.mainIs = some (true, "b6ce46d6c1b52561cfc9dd5b1538175a5c4c8ed1cabd3ba540be2b1985cfa479".toList) := by kernel_rfl
theorem vg4 : Tryz.prog.funcNamed "loop.example/s02979/laws.FnList" = some 3 := by kernel_rfl
theorem vg5 : ([22].all fun u => !Tryz.prog.wantsStandIn u) = true := by kernel_rfl
theorem tied_goes (Lk : Looks) {p : Pinned} {s : OpenSpec} {c : OpenClaim} (kinds : List LaidKind) (tests : Bool) (har : Bool × String) (lk g : Bool)
  (hc : c.holds p s) (hw : c.wfByText s = true) (htie : c.laidByTextAt Lk p kinds tests)
  (hst : c.start = .entering) (hnb : c.noBlocks = false ∧ c.again = false) (hm : p.checked.prog.mainIs = some (har.1, har.2.toList)) (hn : (!har.1 && har.2.isEmpty && !lk) = false)
  (hl : ∀ f fn, p.checked.prog.funcNamed c.func = some f → p.checked.prog.funcs[f]? = some fn → lk = p.checked.prog.looks [] ∧ ∀ (j : Nat) t, fn.params[j]? = some t → p.checked.prog.wantsStandIn t = false)
  (hg : g = c.goesBy p.checked.prog) :
  Claim7.holds p (.plain s) { stood := { row := c, standIns := [], harness := har, looks := lk }, kinds := [], alts := [], goes := g, laidByText := true, laidKinds := kinds, laidTests := tests, laidLooks := Lk } := by
 have h6 : ∀ r : OpenClaim, Claim7.isSixth { stood := { row := r, standIns := [], harness := har, looks := lk }, kinds := [] } = false := fun r => by simpa [Claim7.isSixth] using hn
 exact ⟨Claim7.tied_new_at Lk kinds tests (Claim7.new_of_sixth hc har lk hst hnb hm (h6 c) hl) hw, (fun D hD => by cases hD), htie, (fun h => by cases h), hg⟩
end Go.Proofs.YtplijnfaiofckaaGreatDoor

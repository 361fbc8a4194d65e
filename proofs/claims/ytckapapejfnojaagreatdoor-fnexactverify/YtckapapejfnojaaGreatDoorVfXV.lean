import Derived.Test.YtckapapejfnojaaGreatDoorRows
import Derived.Test.YtckapapejfnojaaGreatDoorChecked
import Derived.Test.YtckapapejfnojaaGreatDoorCards
import Derived.SevenTiedAt
import Derived.RowKit
namespace Go.Proofs.YtckapapejfnojaaGreatDoor
open Go.RowKit
theorem vg0 : false = Rows.fnExactVerifyRow.goesBy Tryz.prog := by kernel_rfl
theorem vg1 : true = Tryz.prog.looks [] := by kernel_rfl
theorem vg2 : Rows.fnExactVerifyRow.wfByText (OpenSpec.ofChange Rows.fnExactVerifySpec) = true := by kernel_rfl
theorem vg3 : Tryz.prog.mainIs = some (true, "944e3a7583299f43ff5aba16047657a884690323c3b68f4d365019b322e0dfef".toList) := by kernel_rfl
theorem vg4 : Tryz.prog.funcNamed "loop.example/s02979/laws.FnExactVerify" = some 5 := by kernel_rfl
theorem vg5 : ([32].all fun u => !Tryz.prog.wantsStandIn u) = true := by kernel_rfl
/-- a tied card without a companion, of a call that can come to a go statement. -/
theorem tied_goes (Lk : Looks) {p : Pinned} {s : OpenSpec} {c : OpenClaim} (kinds : List LaidKind) (tests : Bool) (har : Bool × String) (lk g : Bool)
    (hc : c.holds p s) (hw : c.wfByText s = true) (htie : c.laidByTextAt Lk p kinds tests)
    (hst : c.start = .entering) (hnb : c.noBlocks = false ∧ c.again = false) (hm : p.checked.prog.mainIs = some (har.1, har.2.toList)) (hn : (!har.1 && har.2.isEmpty && !lk) = false)
    (hl : ∀ f fn, p.checked.prog.funcNamed c.func = some f → p.checked.prog.funcs[f]? = some fn → lk = p.checked.prog.looks [] ∧ ∀ (j : Nat) t, fn.params[j]? = some t → p.checked.prog.wantsStandIn t = false)
    (hg : g = c.goesBy p.checked.prog) :
    Claim7.holds p (.plain s) { stood := { row := c, standIns := [], harness := har, looks := lk }, kinds := [], alts := [], goes := g, laidByText := true, laidKinds := kinds, laidTests := tests, laidLooks := Lk } := by
  have h6 : ∀ r : OpenClaim, Claim7.isSixth { stood := { row := r, standIns := [], harness := har, looks := lk }, kinds := [] } = false := fun r => by simpa [Claim7.isSixth] using hn
  exact ⟨Claim7.tied_new_at Lk kinds tests (Claim7.new_of_sixth hc har lk hst hnb hm (h6 c) hl) hw, (fun D hD => by cases hD), htie, (fun h => by cases h), hg⟩
end Go.Proofs.YtckapapejfnojaaGreatDoor

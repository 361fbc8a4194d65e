import Derived.Test.YtckapapejfnojaaGreatDoorRows
import Derived.Test.YtckapapejfnojaaGreatDoorChecked
import Derived.JoinedOf
import Derived.RowKit
namespace Go.Proofs.YtckapapejfnojaaGreatDoor
open Go.RowKit
theorem vj0 : (Rows.fnExactVerifyRow.inPlace == Tryz.prog.inPlace 5) = true := by kernel_rfl
theorem vj1 : (Rows.fnExactVerifyRow.unfollowed == Tryz.prog.unfollowed 5) = true := by kernel_rfl
theorem vj2 : (Rows.fnExactVerifyRow.recurses == Tryz.prog.recurses 5) = true := by kernel_rfl
theorem vj3 : (Rows.fnExactVerifyRow.named == Tryz.prog.varsNamed 5) = true := by kernel_rfl
theorem vj4 : laidOutB Tryz.prog = true := by kernel_rfl
theorem vj5 : mapsRowed Tryz.prog = true := by kernel_rfl
theorem vj6 : Tryz.prog.stopsHeard = true := by kernel_rfl
theorem vj7 : Tryz.prog.mayEnter = true := by kernel_rfl
theorem vj8 : Rows.fnExactVerifyRow.wf (OpenSpec.ofChange Rows.fnExactVerifySpec) = true := by kernel_rfl
theorem vf_joined : joinedFacts Tryz.prog 5 Tryz.f5 Rows.fnExactVerifySpec Rows.fnExactVerifyRow = true := by
  unfold joinedFacts
  rw [vj0, vj1, vj2, vj3, vj4, vj5, vj6, vj7, vj8]
  kernel_rfl
end Go.Proofs.YtckapapejfnojaaGreatDoor

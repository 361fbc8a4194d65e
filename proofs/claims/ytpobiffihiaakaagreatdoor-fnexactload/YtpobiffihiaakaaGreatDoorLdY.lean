import Derived.Test.YtpobiffihiaakaaGreatDoorRows
import Derived.Test.YtpobiffihiaakaaGreatDoorChecked
import Derived.JoinedOf
import Derived.RowKit
namespace Go.Proofs.YtpobiffihiaakaaGreatDoor
open Go.RowKit
theorem vj0 : (Rows.fnExactLoadRow.inPlace == Tryz.prog.inPlace 3) = true := by kernel_rfl
theorem vj1 : (Rows.fnExactLoadRow.unfollowed == Tryz.prog.unfollowed 3) = true := by kernel_rfl
theorem vj2 : (Rows.fnExactLoadRow.recurses == Tryz.prog.recurses 3) = true := by kernel_rfl
theorem vj3 : (Rows.fnExactLoadRow.named == Tryz.prog.varsNamed 3) = true := by kernel_rfl
theorem vj4 : laidOutB Tryz.prog = true := by kernel_rfl
theorem vj5 : mapsRowed Tryz.prog = true := by kernel_rfl
theorem vj6 : Tryz.prog.stopsHeard = true := by kernel_rfl
theorem vj7 : Tryz.prog.mayEnter = true := by kernel_rfl
theorem vj8 : Rows.fnExactLoadRow.wf (OpenSpec.ofChange Rows.fnExactLoadSpec) = true := by kernel_rfl
theorem vf_joined : joinedFacts Tryz.prog 3 Tryz.f3 Rows.fnExactLoadSpec Rows.fnExactLoadRow = true := by
  unfold joinedFacts
  rw [vj0, vj1, vj2, vj3, vj4, vj5, vj6, vj7, vj8]
  kernel_rfl
end Go.Proofs.YtpobiffihiaakaaGreatDoor

import Derived.Test.YtkanjbopfflioaaGreatDoorRows
import Derived.Test.YtkanjbopfflioaaGreatDoorChecked
import Derived.JoinedOf
import Derived.RowKit
namespace Go.Proofs.YtkanjbopfflioaaGreatDoor
open Go.RowKit
theorem vj0 : (Rows.fnExactAssembleRow.inPlace == Tryz.prog.inPlace 3) = true := by kernel_rfl
theorem vj1 : (Rows.fnExactAssembleRow.unfollowed == Tryz.prog.unfollowed 3) = true := by kernel_rfl
theorem vj2 : (Rows.fnExactAssembleRow.recurses == Tryz.prog.recurses 3) = true := by kernel_rfl
theorem vj3 : (Rows.fnExactAssembleRow.named == Tryz.prog.varsNamed 3) = true := by kernel_rfl
theorem vj4 : laidOutB Tryz.prog = true := by kernel_rfl
theorem vj5 : mapsRowed Tryz.prog = true := by kernel_rfl
theorem vj6 : Tryz.prog.stopsHeard = true := by kernel_rfl
theorem vj7 : Tryz.prog.mayEnter = true := by kernel_rfl
theorem vj8 : Rows.fnExactAssembleRow.wf (OpenSpec.ofChange Rows.fnExactAssembleSpec) = true := by kernel_rfl
theorem vf_joined : joinedFacts Tryz.prog 3 Tryz.f3 Rows.fnExactAssembleSpec Rows.fnExactAssembleRow = true := by
  unfold joinedFacts
  rw [vj0, vj1, vj2, vj3, vj4, vj5, vj6, vj7, vj8]
  kernel_rfl
end Go.Proofs.YtkanjbopfflioaaGreatDoor

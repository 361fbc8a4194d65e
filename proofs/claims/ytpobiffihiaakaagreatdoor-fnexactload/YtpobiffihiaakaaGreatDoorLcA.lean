import Derived.Test.YtpobiffihiaakaaGreatDoorGC
import Derived.Test.YtpobiffihiaakaaGreatDoorShelf
namespace Go.Proofs.YtpobiffihiaakaaGreatDoor
open Go.RowKit
set_option linter.unusedVariables false
set_option maxRecDepth 100000
set_option maxHeartbeats 1000000
theorem clOk : ClOk := by
  intro t y ht
  have hc : ∀ z, Calls Tryz.prog 92 #[.string t] z fun e w' => e = .returned (.string t) ∧ Below z.heap.size z w' := fun z => Any.stringslite_Clone Tryz.lays316 t z (by omega)
  go_enter Tryz.func87, Tryz.ntmps87
  go_wp2_with (go_at_call 92; refine (hc _).mono ?_; rintro e w' ⟨rfl, hb⟩)
  go_ret
  exact ⟨rfl, hb⟩
end Go.Proofs.YtpobiffihiaakaaGreatDoor

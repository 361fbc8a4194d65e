import Derived.Test.YtckapapejfnojaaGreatDoorUsB0V
import Derived.Great.BuildSlice
import Derived.Deep.Cut
namespace Go.Proofs.YtckapapejfnojaaGreatDoor
open Go.RowKit Go.Great
set_option linter.unusedVariables false
set_option linter.unusedSimpArgs false
set_option maxRecDepth 100000 in
set_option maxHeartbeats 4000000 in
theorem allUsages_in (w : World) : Calls Tryz.prog 34 #[] w fun e w' => e = .returned (.agg usTab) ∧ Below w.heap.size w w' := by
  go_enter Tryz.func34, Tryz.ntmps34
  go_upto_region 7 with fail
  go_wp2_with (first | (refine wpList_buildTo rfl 80 _ rfl (some 47) rfl usTab (by as_aux_lemma => kernel_rfl) ?_) | (refine wpList_store_row rfl 80 _ _ rfl w.heap.size usTab rfl rfl 80 Tryz.zeroCells80 ?_ us_info us_zero us_one ?_))
  · exact (seven w _ _ _ _ _ _ _).1
  · exact us_fin rfl rfl
end Go.Proofs.YtckapapejfnojaaGreatDoor

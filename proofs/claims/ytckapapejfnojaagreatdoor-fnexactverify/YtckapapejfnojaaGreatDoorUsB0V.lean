import Derived.Test.YtckapapejfnojaaGreatDoorGBV
import Derived.Great.BuildSlice
import Derived.Deep.Cut
namespace Go.Proofs.YtckapapejfnojaaGreatDoor
open Go.RowKit Go.Great
set_option linter.unusedVariables false
set_option linter.unusedSimpArgs false
theorem us_one : usTab.all (·.oneCell') = true := by kernel_rfl
theorem us_info : (Tryz.prog.info? 80).map (·.size) = some usTab.size := by kernel_rfl
theorem us_zero : Tryz.zeroCells80.size = usTab.size := by kernel_rfl
theorem seven (w : World) (o0 o1 o2 o3 o4 o5 o6 : Obj) : (((((((w.alloc o0).alloc o1).alloc o2).alloc o3).alloc o4).alloc o5).alloc o6).heap[w.heap.size]? = some o0 ∧ Below w.heap.size w (((((((w.alloc o0).alloc o1).alloc o2).alloc o3).alloc o4).alloc o5).alloc o6) := by
  constructor
  · refine (heap_alloc_old _ _ (by simp only [World.size_alloc]; omega)).trans ?_
    refine (heap_alloc_old _ _ (by simp only [World.size_alloc]; omega)).trans ?_
    refine (heap_alloc_old _ _ (by simp only [World.size_alloc]; omega)).trans ?_
    refine (heap_alloc_old _ _ (by simp only [World.size_alloc]; omega)).trans ?_
    refine (heap_alloc_old _ _ (by simp only [World.size_alloc]; omega)).trans ?_
    refine (heap_alloc_old _ _ (by simp only [World.size_alloc]; omega)).trans ?_
    exact heap_alloc_new w o0
  · exact (((((((Below.refl _ _).alloc (Nat.le_refl _) _).alloc (by simp only [World.size_alloc]; omega) _).alloc (by simp only [World.size_alloc]; omega) _).alloc (by simp only [World.size_alloc]; omega) _).alloc (by simp only [World.size_alloc]; omega) _).alloc (by simp only [World.size_alloc]; omega) _).alloc (by simp only [World.size_alloc]; omega) _
set_option maxRecDepth 100000 in
theorem us_fin {w : World} {o1 o2 o3 o4 o5 o6 : Obj} {a : Act} (ha : a.tmps[0]? = some (.pointer (some ⟨w.heap.size, 0, none⟩))) (hd : a.defers = []) :
    bodyPost Tryz.prog Tryz.f34 (fun e w' => e = .returned (.agg usTab) ∧ Below w.heap.size w w') .ret a ((((((((w.alloc (.cells Tryz.zeroCells80 80)).alloc o1).alloc o2).alloc o3).alloc o4).alloc o5).alloc o6).setRow w.heap.size usTab) := by
  obtain ⟨h1, h2⟩ := seven w (.cells Tryz.zeroCells80 80) o1 o2 o3 o4 o5 o6
  have h3 := setRow_heap _ w.heap.size _ usTab _ _ h1
  have h4 : Below w.heap.size w ((((((((w.alloc (.cells Tryz.zeroCells80 80)).alloc o1).alloc o2).alloc o3).alloc o4).alloc o5).alloc o6).setRow w.heap.size usTab) := ⟨h2.os, h2.tape, h2.output, by rw [setRow_size]; exact h2.size, fun k hk => (setRow_other _ _ _ _ (by omega)).trans (h2.block k hk)⟩
  generalize ((((((((w.alloc (.cells Tryz.zeroCells80 80)).alloc o1).alloc o2).alloc o3).alloc o4).alloc o5).alloc o6).setRow w.heap.size usTab) = W at h3 h4 ⊢
  have hl := run_loadVar_row (P := Tryz.prog) W w.heap.size _ 80 usTab _ _ h3 Tryz.underlying80 rfl us_info
  refine bodyPost_ret (v := .agg usTab) ?_ hd ⟨rfl, h4⟩
  simp only [results, Tryz.results34]
  simp [ha, hl, asAddr]
end Go.Proofs.YtckapapejfnojaaGreatDoor

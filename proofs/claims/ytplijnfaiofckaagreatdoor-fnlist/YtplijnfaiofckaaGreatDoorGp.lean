import Derived.Test.YtplijnfaiofckaaGreatDoorGb
import Derived.Laws.EntriesVeiled
import Derived.Great.BuildSlice
import Derived.Deep.Cut
namespace Go.Proofs.YtplijnfaiofckaaGreatDoor
open Go.RowKit
set_option linter.unusedVariables false
set_option linter.unusedSimpArgs false
def usRow : Nat → List Value
 | 0 => [.int .i64 1, .int .i64 1, .int .i64 0, .int .i64 0, .bool false, .func (.func 31) #[] #[], .nilFunc, .nilFunc, .nilFunc, .nilFunc]
 | 1 => [.int .i64 1, .int .i64 0, .int .i64 0, .int .i64 3, .bool false, .func (.func 30) #[] #[], .nilFunc, .nilFunc, .nilFunc, .nilFunc]
 | 2 => [.int .i64 1, .int .i64 1, .int .i64 0, .int .i64 0, .bool false, .func (.func 39) #[] #[], .nilFunc, .nilFunc, .nilFunc, .nilFunc]
 | 3 => [.int .i64 1, .int .i64 2, .int .i64 0, .int .i64 0, .bool false, .func (.func 30) #[] #[], .nilFunc, .nilFunc, .nilFunc, .nilFunc]
 | 4 => [.int .i64 1, .int .i64 4, .int .i64 0, .int .i64 0, .bool false, .func (.func 30) #[] #[], .nilFunc, .nilFunc, .nilFunc, .nilFunc]
 | 5 => [.int .i64 1, .int .i64 4, .int .i64 0, .int .i64 0, .bool false, .func (.func 30) #[] #[], .nilFunc, .nilFunc, .nilFunc, .nilFunc]
 | 6 => [.int .i64 1, .int .i64 0, .int .i64 0, .int .i64 0, .bool false, .func (.func 30) #[] #[], .nilFunc, .nilFunc, .nilFunc, .nilFunc]
 | 7 => [.int .i64 1, .int .i64 1, .int .i64 1, .int .i64 0, .bool false, .func (.func 32) #[] #[], .nilFunc, .nilFunc, .nilFunc, .nilFunc]
 | 8 => [.int .i64 1, .int .i64 1, .int .i64 1, .int .i64 0, .bool false, .func (.func 32) #[] #[], .nilFunc, .nilFunc, .nilFunc, .nilFunc]
 | 9 => [.int .i64 1, .int .i64 1, .int .i64 1, .int .i64 0, .bool false, .func (.func 32) #[] #[], .nilFunc, .nilFunc, .nilFunc, .nilFunc]
 | 10 => [.int .i64 1, .int .i64 1, .int .i64 1, .int .i64 0, .bool false, .func (.func 32) #[] #[], .nilFunc, .nilFunc, .nilFunc, .nilFunc]
 | 11 => [.int .i64 1, .int .i64 1, .int .i64 1, .int .i64 0, .bool false, .func (.func 32) #[] #[], .nilFunc, .nilFunc, .nilFunc, .nilFunc]
 | 12 => [.int .i64 1, .int .i64 1, .int .i64 1, .int .i64 0, .bool false, .func (.func 32) #[] #[], .nilFunc, .nilFunc, .nilFunc, .nilFunc]
 | 13 => [.int .i64 1, .int .i64 1, .int .i64 1, .int .i64 0, .bool false, .func (.func 32) #[] #[], .nilFunc, .nilFunc, .nilFunc, .nilFunc]
 | 14 => [.int .i64 1, .int .i64 1, .int .i64 1, .int .i64 0, .bool false, .func (.func 32) #[] #[], .nilFunc, .nilFunc, .nilFunc, .nilFunc]
 | 15 => [.int .i64 1, .int .i64 1, .int .i64 0, .int .i64 0, .bool false, .func (.func 31) #[] #[], .nilFunc, .nilFunc, .nilFunc, .nilFunc]
 | 16 => [.int .i64 1, .int .i64 1, .int .i64 0, .int .i64 0, .bool false, .func (.func 31) #[] #[], .nilFunc, .nilFunc, .nilFunc, .nilFunc]
 | 17 => [.int .i64 1, .int .i64 1, .int .i64 0, .int .i64 0, .bool false, .func (.func 31) #[] #[], .nilFunc, .nilFunc, .nilFunc, .nilFunc]
 | 18 => [.int .i64 0, .int .i64 0, .int .i64 0, .int .i64 6, .bool false, .nilFunc, .func (.func 40) #[] #[], .nilFunc, .nilFunc, .nilFunc]
 | 19 => [.int .i64 2, .int .i64 1, .int .i64 1, .int .i64 0, .bool false, .func (.func 33) #[] #[], .func (.func 34) #[] #[], .nilFunc, .nilFunc, .func (.func 35) #[] #[]]
 | 20 => [.int .i64 2, .int .i64 1, .int .i64 1, .int .i64 0, .bool false, .func (.func 33) #[] #[], .func (.func 34) #[] #[], .nilFunc, .nilFunc, .func (.func 35) #[] #[]]
 | 21 => [.int .i64 1, .int .i64 0, .int .i64 2, .int .i64 0, .bool false, .func (.func 30) #[] #[], .func (.func 34) #[] #[], .nilFunc, .nilFunc, .func (.func 35) #[] #[]]
 | 22 => [.int .i64 1, .int .i64 1, .int .i64 1, .int .i64 0, .bool false, .func (.func 36) #[] #[], .nilFunc, .func (.func 37) #[] #[], .func (.func 38) #[] #[], .nilFunc]
 | 23 => [.int .i64 1, .int .i64 1, .int .i64 0, .int .i64 0, .bool false, .func (.func 41) #[] #[], .func (.func 42) #[] #[], .func (.func 43) #[] #[], .nilFunc, .nilFunc]
 | 24 => [.int .i64 1, .int .i64 1, .int .i64 0, .int .i64 0, .bool true, .func (.func 41) #[] #[], .nilFunc, .nilFunc, .func (.func 44) #[] #[], .nilFunc]
 | 25 => [.int .i64 1, .int .i64 0, .int .i64 0, .int .i64 5, .bool false, .func (.func 30) #[] #[], .nilFunc, .nilFunc, .nilFunc, .nilFunc]
 | 26 => [.int .i64 1, .int .i64 0, .int .i64 0, .int .i64 0, .bool false, .func (.func 30) #[] #[], .nilFunc, .nilFunc, .nilFunc, .nilFunc]
 | 27 => [.int .i64 1, .int .i64 0, .int .i64 0, .int .i64 6, .bool false, .func (.func 45) #[] #[], .func (.func 46) #[] #[], .nilFunc, .nilFunc, .func (.func 47) #[] #[]]
 | 28 => [.int .i64 1, .int .i64 0, .int .i64 0, .int .i64 6, .bool false, .func (.func 45) #[] #[], .func (.func 46) #[] #[], .nilFunc, .nilFunc, .nilFunc]
 | 29 => [.int .i64 1, .int .i64 1, .int .i64 0, .int .i64 0, .bool false, .func (.func 31) #[] #[], .nilFunc, .nilFunc, .nilFunc, .nilFunc]
 | 30 => [.int .i64 1, .int .i64 1, .int .i64 1, .int .i64 0, .bool false, .func (.func 36) #[] #[], .nilFunc, .func (.func 37) #[] #[], .func (.func 38) #[] #[], .nilFunc]
 | 31 => [.int .i64 1, .int .i64 1, .int .i64 1, .int .i64 0, .bool false, .func (.func 48) #[] #[], .nilFunc, .func (.func 43) #[] #[], .func (.func 38) #[] #[], .nilFunc]
 | 32 => [.int .i64 1, .int .i64 1, .int .i64 0, .int .i64 0, .bool false, .func (.func 31) #[] #[], .nilFunc, .nilFunc, .nilFunc, .nilFunc]
 | 33 => [.int .i64 1, .int .i64 0, .int .i64 0, .int .i64 0, .bool false, .func (.func 30) #[] #[], .func (.func 42) #[] #[], .nilFunc, .nilFunc, .nilFunc]
 | _ => [.int .i64 0, .int .i64 0, .int .i64 0, .int .i64 0, .bool false, .nilFunc, .nilFunc, .nilFunc, .nilFunc, .nilFunc]
def usC (n j : Nat) : Value := (usRow n).getD j .nilFunc
def usTab : Array Value := Array.ofFn fun i : Fin 640 => usC (i.val / 10) (i.val % 10)
theorem qe6 : usTab.size = 640 := Array.size_ofFn
theorem usTab_get {n j : Nat} (hn : n < 64) (hj : j < 10) : usTab[10 * n + j]? = some (usC n j) := by
 unfold usTab;rw [Array.getElem?_ofFn, dif_pos (by omega)];have e1 : (10 * n + j) / 10 = n := by omega
 have e2 : (10 * n + j) % 10 = j := by omega
 simp only [e1, e2]
end Go.Proofs.YtplijnfaiofckaaGreatDoor
namespace Go.Proofs.YtplijnfaiofckaaGreatDoor
open Go.RowKit Go.Great
set_option linter.unusedVariables false
set_option linter.unusedSimpArgs false
set_option maxRecDepth 100000
set_option maxHeartbeats 9000000
theorem us_one : usTab.all (·.oneCell') = true := by kernel_rfl
theorem us_info : (Tryz.prog.info? 44).map (·.size) = some usTab.size := by kernel_rfl
theorem us_zero : Tryz.zeroCells44.size = usTab.size := by kernel_rfl
theorem seven (w : World) (o0 o1 o2 o3 o4 o5 o6 : Obj) : (((((((w.alloc o0).alloc o1).alloc o2).alloc o3).alloc o4).alloc o5).alloc o6).heap[w.heap.size]? = some o0 ∧ Below w.heap.size w (((((((w.alloc o0).alloc o1).alloc o2).alloc o3).alloc o4).alloc o5).alloc o6) := by
 constructor
 ·refine (heap_alloc_old _ _ (by simp only [World.size_alloc]; omega)).trans ?_;refine (heap_alloc_old _ _ (by simp only [World.size_alloc]; omega)).trans ?_;refine (heap_alloc_old _ _ (by simp only [World.size_alloc]; omega)).trans ?_;refine (heap_alloc_old _ _ (by simp only [World.size_alloc]; omega)).trans ?_;refine (heap_alloc_old _ _ (by simp only [World.size_alloc]; omega)).trans ?_;refine (heap_alloc_old _ _ (by simp only [World.size_alloc]; omega)).trans ?_;exact heap_alloc_new w o0
 ·exact (((((((Below.refl _ _).alloc (Nat.le_refl _) _).alloc (by simp only [World.size_alloc]; omega) _).alloc (by simp only [World.size_alloc]; omega) _).alloc (by simp only [World.size_alloc]; omega) _).alloc (by simp only [World.size_alloc]; omega) _).alloc (by simp only [World.size_alloc]; omega) _).alloc (by simp only [World.size_alloc]; omega) _
theorem us_fin {w : World} {o1 o2 o3 o4 o5 o6 : Obj} {a : Act} (ha : a.tmps[0]? = some (.pointer (some ⟨w.heap.size, 0, none⟩))) (hd : a.defers = []) :
  bodyPost Tryz.prog Tryz.f12 (fun e w' => e = .returned (.agg usTab) ∧ Below w.heap.size w w') .ret a ((((((((w.alloc (.cells Tryz.zeroCells44 44)).alloc o1).alloc o2).alloc o3).alloc o4).alloc o5).alloc o6).setRow w.heap.size usTab) := by
 obtain ⟨h1, h2⟩ := seven w (.cells Tryz.zeroCells44 44) o1 o2 o3 o4 o5 o6;have h3 := setRow_heap _ w.heap.size _ usTab _ _ h1;have h4 : Below w.heap.size w ((((((((w.alloc (.cells Tryz.zeroCells44 44)).alloc o1).alloc o2).alloc o3).alloc o4).alloc o5).alloc o6).setRow w.heap.size usTab) := ⟨h2.os, h2.tape, h2.output, by rw [setRow_size]; exact h2.size, fun k hk => (setRow_other _ _ _ _ (by omega)).trans (h2.block k hk)⟩;generalize ((((((((w.alloc (.cells Tryz.zeroCells44 44)).alloc o1).alloc o2).alloc o3).alloc o4).alloc o5).alloc o6).setRow w.heap.size usTab) = W at h3 h4 ⊢;have hl := run_loadVar_row (P := Tryz.prog) W w.heap.size _ 44 usTab _ _ h3 Tryz.underlying44 rfl us_info;refine bodyPost_ret (v := .agg usTab) ?_ hd ⟨rfl, h4⟩;simp only [results, Tryz.results12];simp [ha, hl, asAddr]
theorem allUsages_in (w : World) : Calls Tryz.prog 12 #[] w fun e w' => e = .returned (.agg usTab) ∧ Below w.heap.size w w' := by
 go_enter Tryz.func12, Tryz.ntmps12;go_upto_region 7 with fail;go_wp2_with (first | (refine wpList_buildTo rfl 44 _ rfl (some 47) rfl usTab (by as_aux_lemma => kernel_rfl) ?_) | (refine wpList_store_row rfl 44 _ _ rfl w.heap.size usTab rfl rfl 44 Tryz.zeroCells44 ?_ us_info us_zero us_one ?_))
 ·exact (seven w _ _ _ _ _ _ _).1
 ·exact us_fin rfl rfl
end Go.Proofs.YtplijnfaiofckaaGreatDoor

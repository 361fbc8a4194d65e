import Derived.Test.YtijdpklpopckfaaDoorLaid
import Derived.WalkKit
import Derived.ProofKit
import Derived.Handy
import Derived.OpenShut
import Derived.WalkLawsBesides
import Derived.WalkSpells
import Derived.Laws.BitsAllLaws
import Derived.Deep.QuietTactic
import Derived.BigQuiet
namespace Go.Proofs.YtijdpklpopckfaaDoor
open Go.RowKit
set_option linter.unusedVariables false
set_option maxHeartbeats 1000000 in
theorem wide_yes (op a s : Int) (w : World) (hS : Spans w) (h1 : 0 ≤ op) (h2 : op ≤ 63) (h3 : 0 ≤ a) (h4 : a ≤ 255) (h5 : -131072 ≤ s) (h6 : s ≤ 131071) :
    Calls Tryd.prog 4 #[.int .i64 op, .int .i64 a, .int .i64 s] w fun e w' => e = .returned (.bool true) ∧ Below w.heap.size w w' := by
  obtain ⟨c0, c1, c2, c3, c4, c5, c6, c7, pos⟩ := hS
  go_enter Tryd.func4, Tryd.ntmps4
  go_wp2
  go_ret
  exact ⟨rfl, by go_grown⟩
set_option maxHeartbeats 1000000 in
theorem wide_no1 (op a s : Int) (w : World) (hS : Spans w) (h1 : op < 0) :
    Calls Tryd.prog 4 #[.int .i64 op, .int .i64 a, .int .i64 s] w fun e w' => e = .returned (.bool true) ∧ Below w.heap.size w w' := by
  obtain ⟨c0, c1, c2, c3, c4, c5, c6, c7, pos⟩ := hS
  go_enter Tryd.func4, Tryd.ntmps4
  go_wp2
  go_ret
  exact ⟨rfl, by go_grown⟩
set_option maxHeartbeats 1000000 in
theorem wide_no2 (op a s : Int) (w : World) (hS : Spans w) (h1 : 0 ≤ op) (h2 : 63 < op) :
    Calls Tryd.prog 4 #[.int .i64 op, .int .i64 a, .int .i64 s] w fun e w' => e = .returned (.bool true) ∧ Below w.heap.size w w' := by
  obtain ⟨c0, c1, c2, c3, c4, c5, c6, c7, pos⟩ := hS
  go_enter Tryd.func4, Tryd.ntmps4
  go_wp2
  go_ret
  exact ⟨rfl, by go_grown⟩
set_option maxHeartbeats 1000000 in
theorem wide_no3 (op a s : Int) (w : World) (hS : Spans w) (h1 : 0 ≤ op) (h2 : op ≤ 63) (h3 : a < 0) :
    Calls Tryd.prog 4 #[.int .i64 op, .int .i64 a, .int .i64 s] w fun e w' => e = .returned (.bool true) ∧ Below w.heap.size w w' := by
  obtain ⟨c0, c1, c2, c3, c4, c5, c6, c7, pos⟩ := hS
  go_enter Tryd.func4, Tryd.ntmps4
  go_wp2
  go_ret
  exact ⟨rfl, by go_grown⟩
set_option maxHeartbeats 1000000 in
theorem wide_no4 (op a s : Int) (w : World) (hS : Spans w) (h1 : 0 ≤ op) (h2 : op ≤ 63) (h3 : 0 ≤ a) (h4 : 255 < a) :
    Calls Tryd.prog 4 #[.int .i64 op, .int .i64 a, .int .i64 s] w fun e w' => e = .returned (.bool true) ∧ Below w.heap.size w w' := by
  obtain ⟨c0, c1, c2, c3, c4, c5, c6, c7, pos⟩ := hS
  go_enter Tryd.func4, Tryd.ntmps4
  go_wp2
  go_ret
  exact ⟨rfl, by go_grown⟩
set_option maxHeartbeats 1000000 in
theorem wide_no5 (op a s : Int) (w : World) (hS : Spans w) (h1 : 0 ≤ op) (h2 : op ≤ 63) (h3 : 0 ≤ a) (h4 : a ≤ 255) (h5 : s < -131072) :
    Calls Tryd.prog 4 #[.int .i64 op, .int .i64 a, .int .i64 s] w fun e w' => e = .returned (.bool true) ∧ Below w.heap.size w w' := by
  obtain ⟨c0, c1, c2, c3, c4, c5, c6, c7, pos⟩ := hS
  go_enter Tryd.func4, Tryd.ntmps4
  go_wp2
  go_ret
  exact ⟨rfl, by go_grown⟩
set_option maxHeartbeats 1000000 in
theorem wide_no6 (op a s : Int) (w : World) (hS : Spans w) (h1 : 0 ≤ op) (h2 : op ≤ 63) (h3 : 0 ≤ a) (h4 : a ≤ 255) (h5 : -131072 ≤ s) (h6 : 131071 < s) :
    Calls Tryd.prog 4 #[.int .i64 op, .int .i64 a, .int .i64 s] w fun e w' => e = .returned (.bool true) ∧ Below w.heap.size w w' := by
  obtain ⟨c0, c1, c2, c3, c4, c5, c6, c7, pos⟩ := hS
  have h6' : ¬ s ≤ 131071 := by omega
  go_enter Tryd.func4, Tryd.ntmps4
  go_wp2
  go_ret
  exact ⟨rfl, by go_grown⟩
theorem wide_law (op a s : Int) (w : World) (hS : Spans w) :
    Calls Tryd.prog 4 #[.int .i64 op, .int .i64 a, .int .i64 s] w fun e w' => e = .returned (.bool true) ∧ Below w.heap.size w w' := by
  by_cases h1 : 0 ≤ op
  · by_cases h2 : op ≤ 63
    · by_cases h3 : 0 ≤ a
      · by_cases h4 : a ≤ 255
        · by_cases h5 : -131072 ≤ s
          · by_cases h6 : s ≤ 131071
            · exact wide_yes op a s w hS h1 h2 h3 h4 h5 h6
            · exact wide_no6 op a s w hS h1 h2 h3 h4 h5 (by omega)
          · exact wide_no5 op a s w hS h1 h2 h3 h4 (by omega)
        · exact wide_no4 op a s w hS h1 h2 h3 (by omega)
      · exact wide_no3 op a s w hS h1 h2 (by omega)
    · exact wide_no2 op a s w hS h1 (by omega)
  · exact wide_no1 op a s w hS (by omega)
end Go.Proofs.YtijdpklpopckfaaDoor

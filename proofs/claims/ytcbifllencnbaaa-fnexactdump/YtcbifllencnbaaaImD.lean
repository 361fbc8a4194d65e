import Derived.Test.YtcbifllencnbaaaImC
import Derived.Test.YtcbifllencnbaaaChL
namespace Go.Proofs.Ytcbifllencnbaaa
open Go.RowKit Go.Lib Go.Shelf
set_option linter.unusedVariables false
set_option linter.unusedSimpArgs false
set_option maxRecDepth 100000 in
set_option maxHeartbeats 400000 in
theorem hasDebug_in (p : PD) (o3 o4 o5 o8 o9 : Option Addr) (c3 c4 c5 c8 c9 : Nat) (w : World) :
    Calls Try.prog 39 #[pAgg p (.slice o3 p.code.n c3) (.slice o4 p.consts.n c4) (.slice o5 p.ups.n c5) (.slice o8 p.lines.n c8) (.slice o9 p.upNames.n c9)] w fun e w' => (∃ r, e = .returned (.bool r) ∧ (r = true ↔ ¬ Bare p)) ∧ Below w.heap.size w w' := by
  unfold pAgg
  by_cases h1 : p.name = ⟨#[]⟩
  · have h1' : p.name.size = 0 := by rw [h1]; rfl
    by_cases h2 : p.lines.n = 0
    · by_cases h3 : p.upNames.n = 0
      · go_enter Try.func39, Try.ntmps39
        go_wp2_with fail
        go_ret
        exact ⟨⟨false, rfl, by simp [Bare, h1', h2, h3]⟩, by go_grown⟩
      · have h3' : 0 < p.upNames.n := by omega
        go_enter Try.func39, Try.ntmps39
        go_wp2_with fail
        go_ret
        exact ⟨⟨_, rfl, by simp [Bare, h1', h2, h3]; try omega⟩, by go_grown⟩
    · have h2' : 0 < p.lines.n := by omega
      go_enter Try.func39, Try.ntmps39
      go_wp2_with fail
      go_ret
      exact ⟨⟨_, rfl, by simp [Bare, h1', h2]; try omega⟩, by go_grown⟩
  · have h1' : p.name.size ≠ 0 := fun h => h1 (by
      apply ByteArray.ext
      exact Array.eq_empty_of_size_eq_zero h)
    have h2' := text_some p.name h1'
    go_enter Try.func39, Try.ntmps39
    go_wp2_with fail
    go_ret
    exact ⟨⟨_, rfl, by simp [Bare, h1, h1']⟩, by go_grown⟩
end Go.Proofs.Ytcbifllencnbaaa

import Derived.Test.YtcbifllencnbaaaSpA
import Derived.Test.YtcbifllencnbaaaDpA
namespace Go.Proofs.Ytcbifllencnbaaa
open Go.RowKit Go.Lib
set_option linter.unusedVariables false
set_option linter.unusedSimpArgs false
set_option maxRecDepth 100000 in
set_option maxHeartbeats 400000 in
theorem l3Flag_in (b : Bool) (w : World) :
    Calls Try.prog 21 #[.bool b] w fun e w' => e = .returned (.string (flagB b)) ∧ Below w.heap.size w w' := by
  obtain rfl | rfl : b = false ∨ b = true := by cases b <;> simp
  · go_enter Try.func21, Try.ntmps21
    go_wp2_with fail
    go_ret
    exact ⟨rfl, by go_grown⟩
  · go_enter Try.func21, Try.ntmps21
    go_wp2_with fail
    go_ret
    exact ⟨rfl, by go_grown⟩
set_option maxRecDepth 100000 in
set_option maxHeartbeats 400000 in
theorem l3Sized_in (s : ByteArray) (w : World) (hs : s.size ≤ 9223372036854775000) :
    Calls Try.prog 25 #[.string s] w fun e w' => e = .returned (.string (sizedB s)) ∧ Below w.heap.size w w' := by
  have hz := pvN_size s.size
  go_enter Try.func25, Try.ntmps25
  go_wp2_with fail
  refine (WPut.specPutVarint s.size _).mono ?_
  rintro e w1 ⟨rfl, b1⟩
  unfold pvN at hz
  go_wp2_with fail
  go_ret
  exact ⟨rfl, b1⟩
set_option maxRecDepth 100000 in
set_option maxHeartbeats 400000 in
theorem l3Bare_in (p : PD) (o3 o4 o5 o8 o9 : Option Addr) (c3 c4 c5 c8 c9 : Nat) (w : World) :
    Calls Try.prog 24 #[pAgg p (.slice o3 p.code.n c3) (.slice o4 p.consts.n c4) (.slice o5 p.ups.n c5) (.slice o8 p.lines.n c8) (.slice o9 p.upNames.n c9)] w fun e w' => (∃ r, e = .returned (.bool r) ∧ (r = true ↔ Bare p)) ∧ Below w.heap.size w w' := by
  unfold pAgg
  by_cases h1 : p.name.size = 0
  · by_cases h2 : p.lines.n = 0
    · by_cases h3 : p.upNames.n = 0
      · go_enter Try.func24, Try.ntmps24
        go_wp2_with fail
        go_ret
        exact ⟨⟨true, rfl, by simp [Bare, h1, h2, h3]⟩, by go_grown⟩
      · go_enter Try.func24, Try.ntmps24
        go_wp2_with fail
        go_ret
        exact ⟨⟨((p.upNames.n : Int) == 0), rfl, by simp [Bare, h1, h2, h3]⟩, by go_grown⟩
    · go_enter Try.func24, Try.ntmps24
      go_wp2_with fail
      go_ret
      exact ⟨⟨false, rfl, by simp [Bare, h1, h2]⟩, by go_grown⟩
  · go_enter Try.func24, Try.ntmps24
    go_wp2_with fail
    go_ret
    exact ⟨⟨false, rfl, by simp [Bare, h1]⟩, by go_grown⟩
end Go.Proofs.Ytcbifllencnbaaa

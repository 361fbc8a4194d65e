import Derived.Test.YtcbifllencnbaaaSpB
namespace Go.Proofs.Ytcbifllencnbaaa
open Go.RowKit Go.Lib
set_option linter.unusedVariables false
set_option linter.unusedSimpArgs false
/-- what a constant must be, to be written. -/
structure Cst (d : VD) : Prop where
  kind : d.kind = 0 ∨ (d.kind = 1 ∧ 0 ≤ d.num ∧ d.num ≤ 1) ∨ d.kind = 2 ∨ (d.kind = 3 ∧ d.text.size ≤ 1000)
  low : -9223372036854775808 ≤ d.num
  high : d.num ≤ 9223372036854775807
theorem u64i8 (z : Int) : strOfNums (WPut.leL 8 (IntKind.u64.wrap z)) = i8 z := by rw [IntKind.wrap_u64]; rfl
set_option maxRecDepth 100000 in
set_option maxHeartbeats 400000 in
theorem l3Const_in (d : VD) (w : World) (h : Cst d) :
    Calls Try.prog 23 #[.agg #[.int .i64 d.kind, .int .i64 d.num, .string d.text]] w fun e w' => e = .returned (.string (constB d)) ∧ Below w.heap.size w w' := by
  obtain ⟨hk, h1, h2⟩ := h
  rcases hk with hk | ⟨hk, hn1, hn2⟩ | hk | ⟨hk, ht⟩
  · have hc : constB d = by1 0 := by simp [constB, hk]
    rw [hc]
    go_enter Try.func23, Try.ntmps23
    go_wp2_with fail
    go_ret
    exact ⟨rfl, by go_grown⟩
  · have hc : constB d = by1 (1 + d.num) := by simp [constB, hk]
    rw [hc]
    go_enter Try.func23, Try.ntmps23
    go_wp2_with fail
    refine (WPut.l1Byte_any (1 + d.num) _ (by omega) (by omega)).mono ?_
    rintro e w1 ⟨rfl, b1⟩
    have b2 : Below w.heap.size w w1 := (show Below w.heap.size w _ by go_grown).trans (b1.mono (by simp))
    clear b1
    go_wp2_with fail
    go_ret
    exact ⟨rfl, b2⟩
  · have hc : constB d = by1 3 ++ i8 d.num := by simp [constB, hk]
    have hz := i8_size d.num
    rw [hc]
    go_enter Try.func23, Try.ntmps23
    go_wp2_with fail
    refine (WPut.specPutInt d.num _ h1 h2).mono ?_
    rintro e w1 ⟨rfl, b1⟩
    rw [u64i8]
    have b2 : Below w.heap.size w w1 := (show Below w.heap.size w _ by go_grown).trans (b1.mono (by simp))
    clear b1
    go_wp2_with fail
    go_ret
    exact ⟨rfl, b2⟩
  · have hc : constB d = by1 4 ++ sizedB d.text := by simp [constB, hk]
    have hz := sizedB_size d.text
    rw [hc]
    go_enter Try.func23, Try.ntmps23
    go_wp2_with fail
    refine (l3Sized_in d.text _ (by omega)).mono ?_
    rintro e w1 ⟨rfl, b1⟩
    have b2 : Below w.heap.size w w1 := (show Below w.heap.size w _ by go_grown).trans (b1.mono (by simp))
    clear b1
    go_wp2_with fail
    go_ret
    exact ⟨rfl, b2⟩
end Go.Proofs.Ytcbifllencnbaaa

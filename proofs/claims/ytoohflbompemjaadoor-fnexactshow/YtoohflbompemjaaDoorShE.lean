import Derived.Test.YtoohflbompemjaaDoorShD
namespace Go.Proofs.YtoohflbompemjaaDoor
open Go.RowKit
set_option linter.unusedVariables false
set_option linter.unusedSimpArgs false
set_option maxRecDepth 100000
set_option maxHeartbeats 1000000
abbrev PowTab (w : World) : Prop := Lib.TabIs Tryd.prog w "internal/strconv.uint64pow10" .u64 Lib.pow10Tab
/-- the two answers are one. -/
theorem show_both (d : VD) (h0 : -9223372036854775808 ≤ d.num) (h1 : d.num ≤ 9223372036854775807) : ∃ x : ByteArray,
    (∀ w, Calls Tryd.prog 5 #[vdV d] w fun e w' => e = .returned (.string x) ∧ Below w.heap.size w w') ∧
    (∀ w, PowTab w → Calls Tryd.prog 7 #[vdV d] w fun e w' => e = .returned (.string x) ∧ Below w.heap.size w w') := by
  by_cases h4 : d.kind = 4
  · obtain ⟨k, n, t⟩ := d
    obtain rfl : k = 4 := h4
    exact ⟨_, fun w => specShow_table n t w, fun w _ => implShow_table n t w⟩
  by_cases h5 : d.kind = 5
  · obtain ⟨k, n, t⟩ := d
    obtain rfl : k = 5 := h5
    exact ⟨_, fun w => specShow_closure n t w, fun w _ => implShow_closure n t w⟩
  by_cases h6 : d.kind = 6
  · obtain ⟨k, n, t⟩ := d
    obtain rfl : k = 6 := h6
    exact ⟨_, fun w => specShow_thread n t w, fun w _ => implShow_thread n t w⟩
  by_cases hp : Plain d
  · obtain ⟨k, n, t⟩ := d
    rcases hp with ⟨a, b, c⟩ | ⟨a, b, c⟩ | ⟨a, c⟩ | ⟨a, b, c⟩
    · obtain rfl : k = 0 := a
      obtain rfl : n = 0 := b
      obtain rfl := text_empty t c
      exact ⟨_, fun w => specShow_nil w, fun w _ => implShow_nil w⟩
    · obtain rfl : k = 1 := a
      obtain rfl := text_empty t c
      rcases b with b | b
      · obtain rfl : n = 0 := b
        exact ⟨_, fun w => specShow_false w, fun w _ => implShow_false w⟩
      · obtain rfl : n = 1 := b
        exact ⟨_, fun w => specShow_true w, fun w _ => implShow_true w⟩
    · obtain rfl : k = 2 := a
      obtain rfl := text_empty t c
      exact ⟨_, fun w => specShow_int n h0 h1 w, fun w ht => implShow_int n h0 h1 w ht⟩
    · obtain rfl : k = 3 := a
      obtain rfl : n = 0 := b
      exact ⟨_, fun w => specShow_text t c w, fun w _ => implShow_text t c w⟩
  · exact ⟨_, fun w => specShow_odd d h4 h5 h6 hp w, fun w _ => implShow_odd d h4 h5 h6 hp w⟩
theorem szValue_ok (d : VD) (h : (d.text.size : Int) ≤ 1048576) (w : World) :
    Calls Tryd.prog 4 #[vdV d, .int .i64 1048576] w fun e w' => e = .returned (.int .i64 (1048576 - (d.text.size : Int))) ∧ Below w.heap.size w w' := by
  obtain ⟨k, n, t⟩ := d
  unfold vdV
  dsimp only at h ⊢
  go_enter Tryd.func4, Tryd.ntmps4
  go_wp2_with fail
  go_ret
  exact ⟨rfl, by go_grown⟩
theorem szValue_no (d : VD) (h : 1048576 < (d.text.size : Int)) (hs : (d.text.size : Int) ≤ 9223372036854775807) (w : World) :
    Calls Tryd.prog 4 #[vdV d, .int .i64 1048576] w fun e w' => e = .returned (.int .i64 (-1)) ∧ Below w.heap.size w w' := by
  obtain ⟨k, n, t⟩ := d
  unfold vdV
  dsimp only at h hs ⊢
  go_enter Tryd.func4, Tryd.ntmps4
  go_wp2_with fail
  go_ret
  exact ⟨rfl, by go_grown⟩
theorem toValue_is (d : VD) (w : World) :
    Calls Tryd.prog 6 #[vdV d] w fun e w' => e = .returned (vdV d) ∧ Below w.heap.size w w' := by
  obtain ⟨k, n, t⟩ := d
  unfold vdV
  dsimp only
  go_enter Tryd.func6, Tryd.ntmps6
  go_wp2_with fail
  refine bodyPost_ret (v := .agg #[.int .i64 k, .int .i64 n, .string t]) ?_ rfl ⟨rfl, by go_grown⟩
  simp [results, Tryd.results6, go_sem]
theorem show_law_no (d : VD) (w : World) (h : 1048576 < (d.text.size : Int)) (hs : (d.text.size : Int) ≤ 9223372036854775807) :
    Calls Tryd.prog 3 #[vdV d] w fun e w' => e = .returned (.bool true) ∧ Below w.heap.size w w' := by
  have hz := szValue_no d h hs
  obtain ⟨k, n, t⟩ := d
  unfold vdV at hz ⊢
  dsimp only at h hs hz ⊢
  go_enter Tryd.func3, Tryd.ntmps3
  go_wp2_with (go_at_call 4; refine (hz _).mono ?_; rintro e w1 ⟨rfl, b1⟩; obtain ⟨⟨k0, k1, k2⟩, b2⟩ := kept3 b1; clear b1)
  go_ret
  exact ⟨rfl, b2⟩
theorem show_law_ok (d : VD) (w : World) (h0 : -9223372036854775808 ≤ d.num) (h1 : d.num ≤ 9223372036854775807) (h : (d.text.size : Int) ≤ 1048576) (htab : PowTab w) :
    Calls Tryd.prog 3 #[vdV d] w fun e w' => e = .returned (.bool true) ∧ Below w.heap.size w w' := by
  have hz := szValue_ok d h
  have htv := toValue_is d
  obtain ⟨x, hsp, him⟩ := show_both d h0 h1
  have ht := Lib.tabBelow_of_tabIs htab
  clear htab
  obtain ⟨k, n, t⟩ := d
  unfold vdV at hz htv hsp him ⊢
  dsimp only at h h0 h1 hz htv hsp him ⊢
  go_enter Tryd.func3, Tryd.ntmps3
  go_wp2_with (first
    | (go_at_call 4; refine (hz _).mono ?_; rintro e w1 ⟨rfl, b1⟩; obtain ⟨⟨k0, k1, k2⟩, b2⟩ := kept3 b1; clear b1)
    | fail)
  have hlt := World.block_lt_of_cell? _ _ k0
  refine (htv _).mono ?_
  rintro e w2 ⟨rfl, b3⟩
  go_wp2_with fail
  refine (hsp _).mono ?_
  rintro e w3 ⟨rfl, b4⟩
  replace b3 := b3.trans (b4.mono b3.size)
  have b5 := b2.trans (b3.mono b2.size)
  replace k0 := (b3.cell (p := ⟨w.heap.size, 0, none⟩) hlt).trans k0
  replace k1 := (b3.cell (p := ⟨w.heap.size, 1, none⟩) hlt).trans k1
  replace k2 := (b3.cell (p := ⟨w.heap.size, 2, none⟩) hlt).trans k2
  clear b2 b3 b4 hlt
  go_wp2_with fail
  refine (htv _).mono ?_
  rintro e w4 ⟨rfl, b6⟩
  replace b5 := b5.trans (b6.mono b5.size)
  clear k0 k1 k2 b6
  go_wp2_with fail
  refine (him _ (ht _ b5)).mono ?_
  rintro e w6 ⟨rfl, b6⟩
  replace b5 := b5.trans (b6.mono b5.size)
  clear ht b6
  go_wp2_with fail
  go_ret
  exact ⟨rfl, b5⟩
theorem show_law (d : VD) (w : World) (h0 : -9223372036854775808 ≤ d.num) (h1 : d.num ≤ 9223372036854775807) (hs : d.text.size ≤ 9223372036854775807) (htab : PowTab w) :
    Calls Tryd.prog 3 #[vdV d] w fun e w' => e = .returned (.bool true) ∧ Below w.heap.size w w' := by
  by_cases h : (d.text.size : Int) ≤ 1048576
  · exact show_law_ok d w h0 h1 h htab
  · exact show_law_no d w (by omega) (by omega)
end Go.Proofs.YtoohflbompemjaaDoor

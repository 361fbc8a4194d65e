import Derived.Test.YtoohflbompemjaaDoorShB
import Derived.Deep.QuietTactic
namespace Go.Proofs.YtoohflbompemjaaDoor
open Go.RowKit
set_option linter.unusedVariables false
set_option linter.unusedSimpArgs false
set_option maxRecDepth 100000
set_option maxHeartbeats 1000000
/-- a value. -/
structure VD where
  kind : Int
  num : Int
  text : ByteArray
/-- a call that answers whether P. -/
def Says (e : Ending) (P : Prop) : Prop := ∃ r, e = .returned (.bool r) ∧ (r = true ↔ P)
theorem Says.yes {P : Prop} {v : Value} (hv : v = .bool true) (h : P) : Says (.returned v) P := ⟨true, by rw [hv], by simp [h]⟩
theorem Says.no {P : Prop} {v : Value} (hv : v = .bool false) (h : ¬ P) : Says (.returned v) P := ⟨false, by rw [hv], by simp [h]⟩
theorem Says.of {P : Prop} {v : Value} {r : Bool} (hv : v = .bool r) (h : r = true ↔ P) : Says (.returned v) P := ⟨r, by rw [hv], h⟩

/-- a plain value. -/
def Plain (d : VD) : Prop :=
  (d.kind = 0 ∧ d.num = 0 ∧ d.text.size = 0) ∨ (d.kind = 1 ∧ (d.num = 0 ∨ d.num = 1) ∧ d.text.size = 0) ∨ (d.kind = 2 ∧ d.text.size = 0) ∨ (d.kind = 3 ∧ d.num = 0 ∧ d.text.size ≤ 1000)
theorem l2Plain_in (d : VD) (w : World) :
    Calls Tryd.prog 8 #[.agg #[.int .i64 d.kind, .int .i64 d.num, .string d.text]] w fun e w' => Says e (Plain d) ∧ Below w.heap.size w w' := by
  by_cases h3 : d.kind = 3
  · have h1 : d.kind ≠ 1 := by omega
    by_cases h2 : d.num = 0
    · by_cases h4 : d.text.size ≤ 1000
      · go_enter Tryd.func8, Tryd.ntmps8
        go_wp2_with fail
        go_ret
        exact ⟨Says.yes (by first | rfl | (simp; omega)) (by unfold Plain; omega), by go_grown⟩
      · go_enter Tryd.func8, Tryd.ntmps8
        go_wp2_with fail
        go_ret
        exact ⟨Says.no (by first | rfl | (simp; omega)) (by unfold Plain; omega), by go_grown⟩
    · go_enter Tryd.func8, Tryd.ntmps8
      go_wp2_with fail
      go_ret
      exact ⟨Says.no (by first | rfl | (simp; omega)) (by unfold Plain; omega), by go_grown⟩
  · by_cases ht : 0 < d.text.size
    · go_enter Tryd.func8, Tryd.ntmps8
      go_wp2_with fail
      go_ret
      exact ⟨Says.no (by first | rfl | (simp; omega)) (by unfold Plain; omega), by go_grown⟩
    · by_cases h1 : d.kind = 1
      · by_cases h2 : d.num = 0
        · go_enter Tryd.func8, Tryd.ntmps8
          go_wp2_with fail
          go_ret
          exact ⟨Says.yes (by first | rfl | (simp; omega)) (by unfold Plain; omega), by go_grown⟩
        · by_cases h4 : d.num = 1
          · go_enter Tryd.func8, Tryd.ntmps8
            go_wp2_with fail
            go_ret
            exact ⟨Says.yes (by first | rfl | (simp; omega)) (by unfold Plain; omega), by go_grown⟩
          · go_enter Tryd.func8, Tryd.ntmps8
            go_wp2_with fail
            go_ret
            exact ⟨Says.no (by first | rfl | (simp; omega)) (by unfold Plain; omega), by go_grown⟩
      · by_cases h2 : d.kind = 2
        · go_enter Tryd.func8, Tryd.ntmps8
          go_wp2_with fail
          go_ret
          exact ⟨Says.yes (by first | rfl | (simp; omega)) (by unfold Plain; omega), by go_grown⟩
        · by_cases h0 : d.kind = 0
          · by_cases h4 : d.num = 0
            · go_enter Tryd.func8, Tryd.ntmps8
              go_wp2_with fail
              go_ret
              exact ⟨Says.yes (by first | rfl | (simp; omega)) (by unfold Plain; omega), by go_grown⟩
            · go_enter Tryd.func8, Tryd.ntmps8
              go_wp2_with fail
              go_ret
              exact ⟨Says.no (by first | rfl | (simp; omega)) (by unfold Plain; omega), by go_grown⟩
          · go_enter Tryd.func8, Tryd.ntmps8
            go_wp2_with fail
            go_ret
            exact ⟨Says.no (by first | rfl | (simp; omega)) (by unfold Plain; omega), by go_grown⟩

theorem textFits_in (t : ByteArray) (w : World) : Calls Tryd.prog 14 #[.string t] w fun e w' => Says e (t.size ≤ 1000) ∧ w = w' := by
  by_cases h1 : t.size ≤ 1000
  · go_enter Tryd.func14, Tryd.ntmps14
    go_wp2_with fail
    go_ret
    exact ⟨Says.yes (by first | rfl | (simp; omega)) h1, rfl⟩
  · go_enter Tryd.func14, Tryd.ntmps14
    go_wp2_with fail
    go_ret
    exact ⟨Says.no (by first | rfl | (simp; omega)) h1, rfl⟩
theorem text_empty (t : ByteArray) (h : t.size = 0) : t = ⟨#[]⟩ := by
  cases t with
  | mk d => 
    have : d.size = 0 := h
    rw [Array.eq_empty_of_size_eq_zero this]
theorem text_some (t : ByteArray) (h : ¬ t.size = 0) : t.toList.isEmpty = false := by
  cases he : t.toList.isEmpty with
  | false => rfl
  | true =>
    exfalso
    apply h
    have h2 := decide_eq_emptyBytes t
    rw [he] at h2
    have : t = ByteArray.empty := of_decide_eq_true h2
    rw [this]
    rfl
theorem plain_in (d : VD) (w : World) :
    Calls Tryd.prog 10 #[.agg #[.int .i64 d.kind, .int .i64 d.num, .string d.text]] w fun e w' => Says e (Plain d) ∧ Below w.heap.size w w' := by
  obtain ⟨k, n, t⟩ := d
  dsimp only
  by_cases ht : t.size = 0
  · obtain rfl := text_empty t ht
    by_cases k0 : k = 0
    · subst k0
      by_cases n0 : n = 0
      · subst n0
        go_enter Tryd.func10, Tryd.ntmps10
        go_wp2_with fail
        go_ret
        exact ⟨Says.yes (by first | rfl | (simp; omega)) (by unfold Plain; dsimp only; omega), by go_grown⟩
      · go_enter Tryd.func10, Tryd.ntmps10
        go_wp2_with fail
        go_ret
        exact ⟨Says.no (by first | rfl | (simp; omega)) (by unfold Plain; dsimp only; omega), by go_grown⟩
    by_cases k1 : k = 1
    · subst k1
      by_cases n0 : n = 0
      · subst n0
        go_enter Tryd.func10, Tryd.ntmps10
        go_wp2_with fail
        go_ret
        exact ⟨Says.yes (by first | rfl | (simp; omega)) (by unfold Plain; dsimp only; omega), by go_grown⟩
      by_cases n1 : n = 1
      · subst n1
        go_enter Tryd.func10, Tryd.ntmps10
        go_wp2_with fail
        go_ret
        exact ⟨Says.yes (by first | rfl | (simp; omega)) (by unfold Plain; dsimp only; omega), by go_grown⟩
      · go_enter Tryd.func10, Tryd.ntmps10
        go_wp2_with fail
        go_ret
        exact ⟨Says.no (by first | rfl | (simp; omega)) (by unfold Plain; dsimp only; omega), by go_grown⟩
    by_cases k2 : k = 2
    · subst k2
      go_enter Tryd.func10, Tryd.ntmps10
      go_wp2_with fail
      go_ret
      exact ⟨Says.yes (by first | rfl | (simp; omega)) (by unfold Plain; dsimp only; omega), by go_grown⟩
    by_cases k3 : k = 3
    · subst k3
      by_cases n0 : n = 0
      · subst n0
        go_enter Tryd.func10, Tryd.ntmps10
        go_wp2_with fail
        refine (textFits_in _ _).mono ?_
        rintro e w1 ⟨⟨r, rfl, hr⟩, rfl⟩
        have hr' : Hid (r = true ↔ Plain ⟨3, 0, ⟨#[]⟩⟩) := hr.trans (by unfold Plain; dsimp only; omega)
        clear hr
        go_wp2_with fail
        go_ret
        exact ⟨Says.of rfl hr'.out, by go_grown⟩
      · go_enter Tryd.func10, Tryd.ntmps10
        go_wp2_with fail
        go_ret
        exact ⟨Says.no (by first | rfl | (simp; omega)) (by unfold Plain; dsimp only; omega), by go_grown⟩
    go_enter Tryd.func10, Tryd.ntmps10
    go_wp2_with fail
    go_ret
    exact ⟨Says.no (by first | rfl | (simp; omega)) (by unfold Plain; dsimp only; omega), by go_grown⟩
  · have hte := text_some t ht
    by_cases k0 : k = 0
    · subst k0
      by_cases n0 : n = 0
      · subst n0
        go_enter Tryd.func10, Tryd.ntmps10
        go_wp2_with fail
        go_ret
        exact ⟨Says.no (by first | rfl | (simp; omega)) (by unfold Plain; dsimp only; omega), by go_grown⟩
      · go_enter Tryd.func10, Tryd.ntmps10
        go_wp2_with fail
        go_ret
        exact ⟨Says.no (by first | rfl | (simp; omega)) (by unfold Plain; dsimp only; omega), by go_grown⟩
    by_cases k1 : k = 1
    · subst k1
      by_cases n0 : n = 0
      · subst n0
        go_enter Tryd.func10, Tryd.ntmps10
        go_wp2_with fail
        go_ret
        exact ⟨Says.no (by first | rfl | (simp; omega)) (by unfold Plain; dsimp only; omega), by go_grown⟩
      by_cases n1 : n = 1
      · subst n1
        go_enter Tryd.func10, Tryd.ntmps10
        go_wp2_with fail
        go_ret
        exact ⟨Says.no (by first | rfl | (simp; omega)) (by unfold Plain; dsimp only; omega), by go_grown⟩
      · go_enter Tryd.func10, Tryd.ntmps10
        go_wp2_with fail
        go_ret
        exact ⟨Says.no (by first | rfl | (simp; omega)) (by unfold Plain; dsimp only; omega), by go_grown⟩
    by_cases k2 : k = 2
    · subst k2
      go_enter Tryd.func10, Tryd.ntmps10
      go_wp2_with fail
      go_ret
      exact ⟨Says.no (by first | rfl | (simp; omega)) (by unfold Plain; dsimp only; omega), by go_grown⟩
    by_cases k3 : k = 3
    · subst k3
      by_cases n0 : n = 0
      · subst n0
        go_enter Tryd.func10, Tryd.ntmps10
        go_wp2_with fail
        refine (textFits_in _ _).mono ?_
        rintro e w1 ⟨⟨r, rfl, hr⟩, rfl⟩
        have hr' : Hid (r = true ↔ Plain ⟨3, 0, t⟩) := hr.trans (by unfold Plain; dsimp only; omega)
        clear hr
        go_wp2_with fail
        go_ret
        exact ⟨Says.of rfl hr'.out, by go_grown⟩
      · go_enter Tryd.func10, Tryd.ntmps10
        go_wp2_with fail
        go_ret
        exact ⟨Says.no (by first | rfl | (simp; omega)) (by unfold Plain; dsimp only; omega), by go_grown⟩
    go_enter Tryd.func10, Tryd.ntmps10
    go_wp2_with fail
    go_ret
    exact ⟨Says.no (by first | rfl | (simp; omega)) (by unfold Plain; dsimp only; omega), by go_grown⟩

end Go.Proofs.YtoohflbompemjaaDoor

import Derived.Test.YtckapapejfnojaaGreatDoorChKV
namespace Go.Proofs.YtckapapejfnojaaGreatDoor
open Go.RowKit
set_option linter.unusedVariables false
set_option linter.unusedSimpArgs false
theorem within_in (n a b : Int) (w : World) : Calls Tryz.prog 33 #[.int .i64 n, .int .i64 a, .int .i64 b] w fun e w' => Says e (a ≤ n ∧ n ≤ b) ∧ w = w' := by
  by_cases h1 : a ≤ n
  · by_cases h2 : n ≤ b
    · go_enter Tryz.func33, Tryz.ntmps33
      go_wp2_with fail
      go_ret
      exact ⟨Says.yes (by first | rfl | (simp; omega)) ⟨h1, h2⟩, rfl⟩
    · go_enter Tryz.func33, Tryz.ntmps33
      go_wp2_with fail
      go_ret
      exact ⟨Says.no (by first | rfl | (simp; omega)) (by omega), rfl⟩
  · go_enter Tryz.func33, Tryz.ntmps33
    go_wp2_with fail
    go_ret
    exact ⟨Says.no (by first | rfl | (simp; omega)) (by omega), rfl⟩
theorem noneOrAll_in (n a : Nat) (w : World) : Calls Tryz.prog 155 #[.int .i64 (n : Int), .int .i64 (a : Int)] w fun e w' => Says e (n = 0 ∨ n = a) ∧ w = w' := by
  by_cases h1 : (n : Int) = 0
  · go_enter Tryz.func155, Tryz.ntmps155
    go_wp2_with fail
    go_ret
    exact ⟨Says.yes (by first | rfl | (simp; omega)) (by omega), rfl⟩
  · by_cases h2 : (n : Int) = (a : Int)
    · go_enter Tryz.func155, Tryz.ntmps155
      go_wp2_with fail
      go_ret
      exact ⟨Says.yes (by first | rfl | (simp; omega)) (by omega), rfl⟩
    · go_enter Tryz.func155, Tryz.ntmps155
      go_wp2_with fail
      go_ret
      exact ⟨Says.no (by first | rfl | (simp; omega)) (by omega), rfl⟩
theorem textFits_in (t : ByteArray) (w : World) : Calls Tryz.prog 154 #[.string t] w fun e w' => Says e (t.size ≤ 1000) ∧ w = w' := by
  by_cases h1 : t.size ≤ 1000
  · go_enter Tryz.func154, Tryz.ntmps154
    go_wp2_with fail
    go_ret
    exact ⟨Says.yes (by first | rfl | (simp; omega)) h1, rfl⟩
  · go_enter Tryz.func154, Tryz.ntmps154
    go_wp2_with fail
    go_ret
    exact ⟨Says.no (by first | rfl | (simp; omega)) h1, rfl⟩
theorem numberFits_in (x : Int) (w : World) : Calls Tryz.prog 157 #[.int .i64 x] w fun e w' => Says e (NumOk x) ∧ w = w' := by
  go_enter Tryz.func157, Tryz.ntmps157
  go_wp2_with fail
  refine (within_in x 0 16777215 _).mono ?_
  rintro e w1 ⟨⟨r, rfl, hr⟩, rfl⟩
  have hr' : Hid (r = true ↔ NumOk x) := hr
  clear hr
  go_wp2_with fail
  go_ret
  exact ⟨Says.of rfl hr'.out, rfl⟩
theorem upFits_in (d : UD) (w : World) : Calls Tryz.prog 153 #[.agg #[.bool d.stack, .int .i64 d.index]] w fun e w' => Says e (NumOk d.index) ∧ Below w.heap.size w w' := by
  go_enter Tryz.func153, Tryz.ntmps153
  go_wp2_with fail
  refine (numberFits_in d.index _).mono ?_
  rintro e w1 ⟨⟨r, rfl, hr⟩, rfl⟩
  have hr' : Hid (r = true ↔ NumOk d.index) := hr
  clear hr
  go_wp2_with fail
  go_ret
  exact ⟨Says.of rfl hr'.out, by go_grown⟩
theorem text_empty (t : ByteArray) (h : t.size = 0) : t = ⟨#[]⟩ := by
  cases t with
  | mk d => 
    have : d.size = 0 := h
    rw [Array.eq_empty_of_size_eq_zero this]
theorem text_some (t : ByteArray) (h : ¬ t.size = 0) : t.toList.isEmpty = false := by
  cases he : t.toList.isEmpty with
  | false => rfl
  | true =>
    exfalso
    apply h
    have h2 := decide_eq_emptyBytes t
    rw [he] at h2
    have : t = ByteArray.empty := of_decide_eq_true h2
    rw [this]
    rfl
theorem plain_in (d : VD) (w : World) :
    Calls Tryz.prog 151 #[.agg #[.int .i64 d.kind, .int .i64 d.num, .string d.text]] w fun e w' => Says e (Plain d) ∧ Below w.heap.size w w' := by
  obtain ⟨k, n, t⟩ := d
  dsimp only
  by_cases ht : t.size = 0
  · obtain rfl := text_empty t ht
    by_cases k0 : k = 0
    · subst k0
      by_cases n0 : n = 0
      · subst n0
        go_enter Tryz.func151, Tryz.ntmps151
        go_wp2_with fail
        go_ret
        exact ⟨Says.yes (by first | rfl | (simp; omega)) (by unfold Plain; dsimp only; omega), by go_grown⟩
      · go_enter Tryz.func151, Tryz.ntmps151
        go_wp2_with fail
        go_ret
        exact ⟨Says.no (by first | rfl | (simp; omega)) (by unfold Plain; dsimp only; omega), by go_grown⟩
    by_cases k1 : k = 1
    · subst k1
      by_cases n0 : n = 0
      · subst n0
        go_enter Tryz.func151, Tryz.ntmps151
        go_wp2_with fail
        go_ret
        exact ⟨Says.yes (by first | rfl | (simp; omega)) (by unfold Plain; dsimp only; omega), by go_grown⟩
      by_cases n1 : n = 1
      · subst n1
        go_enter Tryz.func151, Tryz.ntmps151
        go_wp2_with fail
        go_ret
        exact ⟨Says.yes (by first | rfl | (simp; omega)) (by unfold Plain; dsimp only; omega), by go_grown⟩
      · go_enter Tryz.func151, Tryz.ntmps151
        go_wp2_with fail
        go_ret
        exact ⟨Says.no (by first | rfl | (simp; omega)) (by unfold Plain; dsimp only; omega), by go_grown⟩
    by_cases k2 : k = 2
    · subst k2
      go_enter Tryz.func151, Tryz.ntmps151
      go_wp2_with fail
      go_ret
      exact ⟨Says.yes (by first | rfl | (simp; omega)) (by unfold Plain; dsimp only; omega), by go_grown⟩
    by_cases k3 : k = 3
    · subst k3
      by_cases n0 : n = 0
      · subst n0
        go_enter Tryz.func151, Tryz.ntmps151
        go_wp2_with fail
        refine (textFits_in _ _).mono ?_
        rintro e w1 ⟨⟨r, rfl, hr⟩, rfl⟩
        have hr' : Hid (r = true ↔ Plain ⟨3, 0, ⟨#[]⟩⟩) := hr.trans (by unfold Plain; dsimp only; omega)
        clear hr
        go_wp2_with fail
        go_ret
        exact ⟨Says.of rfl hr'.out, by go_grown⟩
      · go_enter Tryz.func151, Tryz.ntmps151
        go_wp2_with fail
        go_ret
        exact ⟨Says.no (by first | rfl | (simp; omega)) (by unfold Plain; dsimp only; omega), by go_grown⟩
    go_enter Tryz.func151, Tryz.ntmps151
    go_wp2_with fail
    go_ret
    exact ⟨Says.no (by first | rfl | (simp; omega)) (by unfold Plain; dsimp only; omega), by go_grown⟩
  · have hte := text_some t ht
    by_cases k0 : k = 0
    · subst k0
      by_cases n0 : n = 0
      · subst n0
        go_enter Tryz.func151, Tryz.ntmps151
        go_wp2_with fail
        go_ret
        exact ⟨Says.no (by first | rfl | (simp; omega)) (by unfold Plain; dsimp only; omega), by go_grown⟩
      · go_enter Tryz.func151, Tryz.ntmps151
        go_wp2_with fail
        go_ret
        exact ⟨Says.no (by first | rfl | (simp; omega)) (by unfold Plain; dsimp only; omega), by go_grown⟩
    by_cases k1 : k = 1
    · subst k1
      by_cases n0 : n = 0
      · subst n0
        go_enter Tryz.func151, Tryz.ntmps151
        go_wp2_with fail
        go_ret
        exact ⟨Says.no (by first | rfl | (simp; omega)) (by unfold Plain; dsimp only; omega), by go_grown⟩
      by_cases n1 : n = 1
      · subst n1
        go_enter Tryz.func151, Tryz.ntmps151
        go_wp2_with fail
        go_ret
        exact ⟨Says.no (by first | rfl | (simp; omega)) (by unfold Plain; dsimp only; omega), by go_grown⟩
      · go_enter Tryz.func151, Tryz.ntmps151
        go_wp2_with fail
        go_ret
        exact ⟨Says.no (by first | rfl | (simp; omega)) (by unfold Plain; dsimp only; omega), by go_grown⟩
    by_cases k2 : k = 2
    · subst k2
      go_enter Tryz.func151, Tryz.ntmps151
      go_wp2_with fail
      go_ret
      exact ⟨Says.no (by first | rfl | (simp; omega)) (by unfold Plain; dsimp only; omega), by go_grown⟩
    by_cases k3 : k = 3
    · subst k3
      by_cases n0 : n = 0
      · subst n0
        go_enter Tryz.func151, Tryz.ntmps151
        go_wp2_with fail
        refine (textFits_in _ _).mono ?_
        rintro e w1 ⟨⟨r, rfl, hr⟩, rfl⟩
        have hr' : Hid (r = true ↔ Plain ⟨3, 0, t⟩) := hr.trans (by unfold Plain; dsimp only; omega)
        clear hr
        go_wp2_with fail
        go_ret
        exact ⟨Says.of rfl hr'.out, by go_grown⟩
      · go_enter Tryz.func151, Tryz.ntmps151
        go_wp2_with fail
        go_ret
        exact ⟨Says.no (by first | rfl | (simp; omega)) (by unfold Plain; dsimp only; omega), by go_grown⟩
    go_enter Tryz.func151, Tryz.ntmps151
    go_wp2_with fail
    go_ret
    exact ⟨Says.no (by first | rfl | (simp; omega)) (by unfold Plain; dsimp only; omega), by go_grown⟩

theorem everyValue_in (s : Sl VD) (v : Value) (w : World) (hv : IsVals (· < w.heap.size) w v s) :
    Calls Tryz.prog 150 #[v, .func (.func 151) #[] #[]] w fun e w' => Says e (∀ i, i < s.n → Plain (s.f i)) ∧ Below w.heap.size w w' := by
  obtain ⟨⟨ao, cap, rfl, hn, hc⟩, -⟩ := hv
  obtain ⟨n, f⟩ := s
  simp only at hn hc ⊢
  go_enter Tryz.func150, Tryz.ntmps150
  go_wp2_with fail
  go_loopw [9] (fun i wr => ∃ (i' : Nat), i = .int .i64 i' ∧ i' ≤ n ∧ Below w.heap.size w wr ∧ Hid (∀ j, j < i' → Plain (f j))) (fun i _ => n - (intOf i).toNat)
  case atStart => exact ⟨0, rfl, by omega, Below.refl _ _, fun j hj => by omega⟩
  case round =>
    obtain ⟨i', rfl, q1, q2, q3⟩ := hrel
    by_cases hi : i' < n
    · obtain ⟨b, o, rfl, hb, hcc⟩ := hc (by omega)
      have c0 := hcc i' hi 0 (by omega)
      have c1 := hcc i' hi 1 (by omega)
      have c2 := hcc i' hi 2 (by omega)
      rw [← q2.cell (p := ⟨b, _, none⟩) hb] at c0 c1 c2
      simp only [Nat.add_zero, Nat.mul_one, vC] at c0 c1 c2
      clear hcc hc
      go_wp2_with fail
      refine (plain_in (f i') _).mono ?_
      rintro e w1 ⟨⟨r, rfl, hr⟩, b1⟩
      have hb1 : Below w.heap.size w w1 := (q2.alloc q2.size _).trans (b1.mono (by have := q2.size; simp; omega))
      clear c0 c1 c2
      cases r with
      | false =>
        have hno : Hid (¬ ∀ i, i < n → Plain (f i)) := fun h => by simpa using hr.2 (h i' hi)
        clear hr
        go_wp2_with fail
        go_ret
        exact ⟨Says.no rfl hno.out, hb1⟩
      | true =>
        have q5 : Hid (∀ j, j < i' + 1 → Plain (f j)) := fun j hj => by
          by_cases hji : j = i'
          · subst hji; exact hr.1 rfl
          · exact q3.out j (by omega)
        clear hr q3
        go_wp2_with fail
        go_roundw
        case rel => exact ⟨i' + 1, rfl, by omega, hb1, q5⟩
        case measure => simp [intOf]; omega
    · have z1 : Hid (∀ i, i < n → Plain (f i)) := fun j hj => q3.out j (by omega)
      clear q3
      go_wp2_with fail
      go_ret
      exact ⟨Says.yes rfl z1.out, q2⟩

theorem everyUp_in (s : Sl UD) (v : Value) (w : World) (hv : IsUps (· < w.heap.size) w v s) :
    Calls Tryz.prog 152 #[v, .func (.func 153) #[] #[]] w fun e w' => Says e (∀ i, i < s.n → NumOk (s.f i).index) ∧ Below w.heap.size w w' := by
  obtain ⟨ao, cap, rfl, hn, hc⟩ := hv
  obtain ⟨n, f⟩ := s
  simp only at hn hc ⊢
  go_enter Tryz.func152, Tryz.ntmps152
  go_wp2_with fail
  go_loopw [9] (fun i wr => ∃ (i' : Nat), i = .int .i64 i' ∧ i' ≤ n ∧ Below w.heap.size w wr ∧ Hid (∀ j, j < i' → NumOk (f j).index)) (fun i _ => n - (intOf i).toNat)
  case atStart => exact ⟨0, rfl, by omega, Below.refl _ _, fun j hj => by omega⟩
  case round =>
    obtain ⟨i', rfl, q1, q2, q3⟩ := hrel
    by_cases hi : i' < n
    · obtain ⟨b, o, rfl, hb, hcc⟩ := hc (by omega)
      have c0 := hcc i' hi 0 (by omega)
      have c1 := hcc i' hi 1 (by omega)
      rw [← q2.cell (p := ⟨b, _, none⟩) hb] at c0 c1
      simp only [Nat.add_zero, Nat.mul_one, uC] at c0 c1
      clear hcc hc
      go_wp2_with fail
      refine (upFits_in (f i') _).mono ?_
      rintro e w1 ⟨⟨r, rfl, hr⟩, b1⟩
      have hb1 : Below w.heap.size w w1 := (q2.alloc q2.size _).trans (b1.mono (by have := q2.size; simp; omega))
      clear c0 c1
      cases r with
      | false =>
        have hno : Hid (¬ ∀ i, i < n → NumOk (f i).index) := fun h => by simpa using hr.2 (h i' hi)
        clear hr
        go_wp2_with fail
        go_ret
        exact ⟨Says.no rfl hno.out, hb1⟩
      | true =>
        have q5 : Hid (∀ j, j < i' + 1 → NumOk (f j).index) := fun j hj => by
          by_cases hji : j = i'
          · subst hji; exact hr.1 rfl
          · exact q3.out j (by omega)
        clear hr q3
        go_wp2_with fail
        go_roundw
        case rel => exact ⟨i' + 1, rfl, by omega, hb1, q5⟩
        case measure => simp [intOf]; omega
    · have z1 : Hid (∀ i, i < n → NumOk (f i).index) := fun j hj => q3.out j (by omega)
      clear q3
      go_wp2_with fail
      go_ret
      exact ⟨Says.yes rfl z1.out, q2⟩

theorem everyInt_in (s : Sl Int) (v : Value) (w : World) (hv : IsInts .i64 (· < w.heap.size) w v s) :
    Calls Tryz.prog 156 #[v, .func (.func 157) #[] #[]] w fun e w' => Says e (∀ i, i < s.n → NumOk (s.f i)) ∧ Below w.heap.size w w' := by
  obtain ⟨ao, cap, rfl, hn, hc⟩ := hv
  obtain ⟨n, f⟩ := s
  simp only at hn hc ⊢
  go_enter Tryz.func156, Tryz.ntmps156
  go_wp2_with fail
  go_loopw [9] (fun i wr => ∃ (i' : Nat), i = .int .i64 i' ∧ i' ≤ n ∧ Below w.heap.size w wr ∧ Hid (∀ j, j < i' → NumOk (f j))) (fun i _ => n - (intOf i).toNat)
  case atStart => exact ⟨0, rfl, by omega, Below.refl _ _, fun j hj => by omega⟩
  case round =>
    obtain ⟨i', rfl, q1, q2, q3⟩ := hrel
    by_cases hi : i' < n
    · obtain ⟨b, o, rfl, hb, hcc⟩ := hc (by omega)
      have c0 := hcc i' hi 0 (by omega)
      rw [← q2.cell (p := ⟨b, _, none⟩) hb] at c0
      simp only [Nat.add_zero, Nat.mul_one, iC] at c0
      clear hcc hc
      go_wp2_with fail
      refine (numberFits_in (f i') _).mono ?_
      rintro e w1 ⟨⟨r, rfl, hr⟩, rfl⟩
      have hb1 := q2
      clear c0
      cases r with
      | false =>
        have hno : Hid (¬ ∀ i, i < n → NumOk (f i)) := fun h => by simpa using hr.2 (h i' hi)
        clear hr
        go_wp2_with fail
        go_ret
        exact ⟨Says.no rfl hno.out, hb1⟩
      | true =>
        have q5 : Hid (∀ j, j < i' + 1 → NumOk (f j)) := fun j hj => by
          by_cases hji : j = i'
          · subst hji; exact hr.1 rfl
          · exact q3.out j (by omega)
        clear hr q3
        go_wp2_with fail
        go_roundw
        case rel => exact ⟨i' + 1, rfl, by omega, hb1, q5⟩
        case measure => simp [intOf]; omega
    · have z1 : Hid (∀ i, i < n → NumOk (f i)) := fun j hj => q3.out j (by omega)
      clear q3
      go_wp2_with fail
      go_ret
      exact ⟨Says.yes rfl z1.out, q2⟩

theorem everyStr_in (s : Sl ByteArray) (v : Value) (w : World) (hv : IsStrs (· < w.heap.size) w v s) :
    Calls Tryz.prog 158 #[v, .func (.func 154) #[] #[]] w fun e w' => Says e (∀ i, i < s.n → (s.f i).size ≤ 1000) ∧ Below w.heap.size w w' := by
  obtain ⟨⟨ao, cap, rfl, hn, hc⟩, -⟩ := hv
  obtain ⟨n, f⟩ := s
  simp only at hn hc ⊢
  go_enter Tryz.func158, Tryz.ntmps158
  go_wp2_with fail
  go_loopw [9] (fun i wr => ∃ (i' : Nat), i = .int .i64 i' ∧ i' ≤ n ∧ Below w.heap.size w wr ∧ Hid (∀ j, j < i' → (f j).size ≤ 1000)) (fun i _ => n - (intOf i).toNat)
  case atStart => exact ⟨0, rfl, by omega, Below.refl _ _, fun j hj => by omega⟩
  case round =>
    obtain ⟨i', rfl, q1, q2, q3⟩ := hrel
    by_cases hi : i' < n
    · obtain ⟨b, o, rfl, hb, hcc⟩ := hc (by omega)
      have c0 := hcc i' hi 0 (by omega)
      rw [← q2.cell (p := ⟨b, _, none⟩) hb] at c0
      simp only [Nat.add_zero, Nat.mul_one, sC] at c0
      clear hcc hc
      go_wp2_with fail
      refine (textFits_in (f i') _).mono ?_
      rintro e w1 ⟨⟨r, rfl, hr⟩, rfl⟩
      have hb1 := q2
      clear c0
      cases r with
      | false =>
        have hno : Hid (¬ ∀ i, i < n → (f i).size ≤ 1000) := fun h => by simpa using hr.2 (h i' hi)
        clear hr
        go_wp2_with fail
        go_ret
        exact ⟨Says.no rfl hno.out, hb1⟩
      | true =>
        have q5 : Hid (∀ j, j < i' + 1 → (f j).size ≤ 1000) := fun j hj => by
          by_cases hji : j = i'
          · subst hji; exact hr.1 rfl
          · exact q3.out j (by omega)
        clear hr q3
        go_wp2_with fail
        go_roundw
        case rel => exact ⟨i' + 1, rfl, by omega, hb1, q5⟩
        case measure => simp [intOf]; omega
    · have z1 : Hid (∀ i, i < n → (f i).size ≤ 1000) := fun j hj => q3.out j (by omega)
      clear q3
      go_wp2_with fail
      go_ret
      exact ⟨Says.yes rfl z1.out, q2⟩
end Go.Proofs.YtckapapejfnojaaGreatDoor

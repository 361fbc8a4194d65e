import Derived.Test.YtckapapejfnojaaGreatDoorChC
import Derived.Test.YtckapapejfnojaaGreatDoorRowA
namespace Go.Proofs.YtckapapejfnojaaGreatDoor
open Go.RowKit
set_option linter.unusedVariables false
set_option linter.unusedSimpArgs false

theorem toUint32S_in (s : Sl Int) (v : Value) (w : World) (hv : IsInts .u32 (· < w.heap.size) w v s) (hs : s.n ≤ 1048576) :
    Calls Tryz.prog 144 #[v] w fun e w' => (∃ v', e = .returned v' ∧ IsInts .u32 (fun b => w.heap.size ≤ b ∧ b < w'.heap.size) w' v' s) ∧ Below w.heap.size w w' := by
  obtain ⟨ao, cap, rfl, hn, hc⟩ := hv
  obtain ⟨n, f⟩ := s
  simp only at hn hc  hs ⊢
  have hmk := run_make_rows 47 90 (.int .u32 0) 1 4 Tryz.underlying47 (by kernel_rfl) n (by omega) hn
  go_enter Tryz.func144, Tryz.ntmps144
  go_wp2_with fail
  obtain ⟨g0, hg0⟩ := rowIs_madeW w (.int .u32 0) n 1 90
  have bw0 := below_madeW w (.int .u32 0) n 1 90
  generalize madeW w (.int .u32 0) n 1 90 = w0 at hg0 bw0 ⊢
  clear hmk
  go_loopw [4] (fun i wr => ∃ (i' : Nat) (g : Nat → Value), i = .int .i64 i' ∧ i' ≤ n ∧ Below w.heap.size w wr ∧ Hid (wr.rowIs w.heap.size 90 (n * 1) g ∧ Filled g 1 i' (iC .u32 f))) (fun i _ => n - (intOf i).toNat)
  case atStart => exact ⟨0, g0, rfl, by omega, bw0, hg0, fun i hi => by omega⟩
  case round =>
    obtain ⟨i', g, rfl, q3, q4, q5⟩ := hrel
    by_cases hi : i' < n
    · obtain ⟨b, o, rfl, hb, hcc⟩ := hc (by omega)
      have hbl : b < w.heap.size := hb
      have hne : b ≠ w.heap.size := by omega
      have c0 := hcc i' hi 0 (by omega)
      rw [← q4.cell (p := ⟨b, _, none⟩) hb] at c0
      simp only [Nat.add_zero, Nat.mul_one, iC] at c0
      have d0 := q5.out.1.cell (lt_mul_of (z := 1) hi (show 0 < 1 by omega))
      have e0 := q5.out.1.frozen (i' * 1 + 0)
      simp only [Nat.add_zero, Nat.mul_one] at d0 e0
      clear hcc hc
      go_wp2_with fail
      go_roundw
      case rel =>
        have hrow := (q5.out.1.set (i' * 1 + 0) (.int .u32 (f i')))
        have hbel := (q4.setCell (p := ⟨w.heap.size, i' * 1 + 0, none⟩) (Nat.le_refl _) (.int .u32 (f i')))
        simp only [Nat.add_zero, Nat.mul_one] at hrow hbel
        rw [← Nat.mul_one n] at hrow
        refine ⟨i' + 1, _, rfl, by omega, hbel, hrow, fun k hk j hj => ?_⟩
        by_cases hki : k = i'
        · subst hki
          obtain rfl : j = 0 := by omega
          simp [iC]
        · have := q5.out.2 k (by omega) j hj
          rw [if_neg (show k * 1 + j ≠ i' by omega)]
          exact this
      case measure => simp [intOf]; omega
    · obtain rfl : i' = n := by omega
      go_wp2_with fail
      go_ret
      exact ⟨⟨_, rfl, isArr_of_row q5.out.1 q5.out.2 ⟨Nat.le_refl _, q5.out.1.lt⟩ hn⟩, q4⟩

theorem toIntS_in (s : Sl Int) (v : Value) (w : World) (hv : IsInts .i64 (· < w.heap.size) w v s) (hs : s.n ≤ 1048576) :
    Calls Tryz.prog 147 #[v] w fun e w' => (∃ v', e = .returned v' ∧ IsInts .i64 (fun b => w.heap.size ≤ b ∧ b < w'.heap.size) w' v' s) ∧ Below w.heap.size w w' := by
  obtain ⟨ao, cap, rfl, hn, hc⟩ := hv
  obtain ⟨n, f⟩ := s
  simp only at hn hc  hs ⊢
  have hmk := run_make_rows 34 3 (.int .i64 0) 1 8 Tryz.underlying34 (by kernel_rfl) n (by omega) hn
  go_enter Tryz.func147, Tryz.ntmps147
  go_wp2_with fail
  obtain ⟨g0, hg0⟩ := rowIs_madeW w (.int .i64 0) n 1 3
  have bw0 := below_madeW w (.int .i64 0) n 1 3
  generalize madeW w (.int .i64 0) n 1 3 = w0 at hg0 bw0 ⊢
  clear hmk
  go_loopw [4] (fun i wr => ∃ (i' : Nat) (g : Nat → Value), i = .int .i64 i' ∧ i' ≤ n ∧ Below w.heap.size w wr ∧ Hid (wr.rowIs w.heap.size 3 (n * 1) g ∧ Filled g 1 i' (iC .i64 f))) (fun i _ => n - (intOf i).toNat)
  case atStart => exact ⟨0, g0, rfl, by omega, bw0, hg0, fun i hi => by omega⟩
  case round =>
    obtain ⟨i', g, rfl, q3, q4, q5⟩ := hrel
    by_cases hi : i' < n
    · obtain ⟨b, o, rfl, hb, hcc⟩ := hc (by omega)
      have hbl : b < w.heap.size := hb
      have hne : b ≠ w.heap.size := by omega
      have c0 := hcc i' hi 0 (by omega)
      rw [← q4.cell (p := ⟨b, _, none⟩) hb] at c0
      simp only [Nat.add_zero, Nat.mul_one, iC] at c0
      have d0 := q5.out.1.cell (lt_mul_of (z := 1) hi (show 0 < 1 by omega))
      have e0 := q5.out.1.frozen (i' * 1 + 0)
      simp only [Nat.add_zero, Nat.mul_one] at d0 e0
      clear hcc hc
      go_wp2_with fail
      go_roundw
      case rel =>
        have hrow := (q5.out.1.set (i' * 1 + 0) (.int .i64 (f i')))
        have hbel := (q4.setCell (p := ⟨w.heap.size, i' * 1 + 0, none⟩) (Nat.le_refl _) (.int .i64 (f i')))
        simp only [Nat.add_zero, Nat.mul_one] at hrow hbel
        rw [← Nat.mul_one n] at hrow
        refine ⟨i' + 1, _, rfl, by omega, hbel, hrow, fun k hk j hj => ?_⟩
        by_cases hki : k = i'
        · subst hki
          obtain rfl : j = 0 := by omega
          simp [iC]
        · have := q5.out.2 k (by omega) j hj
          rw [if_neg (show k * 1 + j ≠ i' by omega)]
          exact this
      case measure => simp [intOf]; omega
    · obtain rfl : i' = n := by omega
      go_wp2_with fail
      go_ret
      exact ⟨⟨_, rfl, isArr_of_row q5.out.1 q5.out.2 ⟨Nat.le_refl _, q5.out.1.lt⟩ hn⟩, q4⟩

theorem toStringS_in (s : Sl ByteArray) (v : Value) (w : World) (hv : IsStrs (· < w.heap.size) w v s) (hs : s.n ≤ 1048576) :
    Calls Tryz.prog 148 #[v] w fun e w' => (∃ v', e = .returned v' ∧ IsStrs (fun b => w.heap.size ≤ b ∧ b < w'.heap.size) w' v' s) ∧ Below w.heap.size w w' := by
  obtain ⟨⟨ao, cap, rfl, hn, hc⟩, ht⟩ := hv
  obtain ⟨n, f⟩ := s
  simp only at hn hc ht hs ⊢
  have hmk := run_make_rows 50 9 (.string ⟨#[]⟩) 1 16 Tryz.underlying50 (by kernel_rfl) n (by omega) hn
  go_enter Tryz.func148, Tryz.ntmps148
  go_wp2_with fail
  obtain ⟨g0, hg0⟩ := rowIs_madeW w (.string ⟨#[]⟩) n 1 9
  have bw0 := below_madeW w (.string ⟨#[]⟩) n 1 9
  generalize madeW w (.string ⟨#[]⟩) n 1 9 = w0 at hg0 bw0 ⊢
  clear hmk
  go_loopw [4] (fun i wr => ∃ (i' : Nat) (g : Nat → Value), i = .int .i64 i' ∧ i' ≤ n ∧ Below w.heap.size w wr ∧ Hid (wr.rowIs w.heap.size 9 (n * 1) g ∧ Filled g 1 i' (sC f))) (fun i _ => n - (intOf i).toNat)
  case atStart => exact ⟨0, g0, rfl, by omega, bw0, hg0, fun i hi => by omega⟩
  case round =>
    obtain ⟨i', g, rfl, q3, q4, q5⟩ := hrel
    by_cases hi : i' < n
    · obtain ⟨b, o, rfl, hb, hcc⟩ := hc (by omega)
      have hbl : b < w.heap.size := hb
      have hne : b ≠ w.heap.size := by omega
      have c0 := hcc i' hi 0 (by omega)
      rw [← q4.cell (p := ⟨b, _, none⟩) hb] at c0
      simp only [Nat.add_zero, Nat.mul_one, sC] at c0
      have d0 := q5.out.1.cell (lt_mul_of (z := 1) hi (show 0 < 1 by omega))
      have e0 := q5.out.1.frozen (i' * 1 + 0)
      simp only [Nat.add_zero, Nat.mul_one] at d0 e0
      clear hcc hc
      go_wp2_with fail
      go_roundw
      case rel =>
        have hrow := (q5.out.1.set (i' * 1 + 0) (.string (f i')))
        have hbel := (q4.setCell (p := ⟨w.heap.size, i' * 1 + 0, none⟩) (Nat.le_refl _) (.string (f i')))
        simp only [Nat.add_zero, Nat.mul_one] at hrow hbel
        rw [← Nat.mul_one n] at hrow
        refine ⟨i' + 1, _, rfl, by omega, hbel, hrow, fun k hk j hj => ?_⟩
        by_cases hki : k = i'
        · subst hki
          obtain rfl : j = 0 := by omega
          simp [sC]
        · have := q5.out.2 k (by omega) j hj
          rw [if_neg (show k * 1 + j ≠ i' by omega)]
          exact this
      case measure => simp [intOf]; omega
    · obtain rfl : i' = n := by omega
      go_wp2_with fail
      go_ret
      exact ⟨⟨_, rfl, isArr_of_row q5.out.1 q5.out.2 ⟨Nat.le_refl _, q5.out.1.lt⟩ hn, ht⟩, q4⟩

theorem toValue_in (d : VD) (w : World) :
    Calls Tryz.prog 183 #[.agg #[.int .i64 d.kind, .int .i64 d.num, .string d.text]] w fun e w' =>
      e = .returned (.agg #[.int .i64 d.kind, .int .i64 d.num, .string d.text]) ∧ Below w.heap.size w w' := by
  go_enter Tryz.func183, Tryz.ntmps183
  go_wp2_with fail
  exact bodyPost_ret (v := .agg #[.int .i64 d.kind, .int .i64 d.num, .string d.text]) (by simp [results, Tryz.results183, go_sem]) rfl ⟨rfl, by go_grown⟩
theorem toUp_in (d : UD) (w : World) :
    Calls Tryz.prog 184 #[.agg #[.bool d.stack, .int .i64 d.index]] w fun e w' =>
      e = .returned (.agg #[.bool d.stack, .int .i64 d.index]) ∧ Below w.heap.size w w' := by
  go_enter Tryz.func184, Tryz.ntmps184
  go_wp2_with fail
  exact bodyPost_ret (v := .agg #[.bool d.stack, .int .i64 d.index]) (by simp [results, Tryz.results184, go_sem]) rfl ⟨rfl, by go_grown⟩

theorem toValueS_in (s : Sl VD) (v : Value) (w : World) (hv : IsVals (· < w.heap.size) w v s) (hs : s.n ≤ 1048576) :
    Calls Tryz.prog 145 #[v] w fun e w' => (∃ v', e = .returned v' ∧ IsVals (fun b => w.heap.size ≤ b ∧ b < w'.heap.size) w' v' s) ∧ Below w.heap.size w w' := by
  obtain ⟨⟨ao, cap, rfl, hn, hc⟩, ht⟩ := hv
  obtain ⟨n, f⟩ := s
  simp only at hn hc ht hs ⊢
  have hmk := run_make_rows 48 104 (.agg #[.int .i64 0, .int .i64 0, .string ⟨#[]⟩]) 3 32 Tryz.underlying48 (by kernel_rfl) n (by omega) hn
  go_enter Tryz.func145, Tryz.ntmps145
  go_wp2_with fail
  obtain ⟨g0, hg0⟩ := rowIs_madeW w (.agg #[.int .i64 0, .int .i64 0, .string ⟨#[]⟩]) n 3 104
  have bw0 := below_madeW w (.agg #[.int .i64 0, .int .i64 0, .string ⟨#[]⟩]) n 3 104
  generalize madeW w (.agg #[.int .i64 0, .int .i64 0, .string ⟨#[]⟩]) n 3 104 = w0 at hg0 bw0 ⊢
  clear hmk
  go_loopw [4] (fun i wr => ∃ (i' : Nat) (g : Nat → Value), i = .int .i64 i' ∧ i' ≤ n ∧ Below w.heap.size w wr ∧ Hid (wr.rowIs w.heap.size 104 (n * 3) g ∧ Filled g 3 i' (vC f))) (fun i _ => n - (intOf i).toNat)
  case atStart => exact ⟨0, g0, rfl, by omega, bw0, hg0, fun i hi => by omega⟩
  case round =>
    obtain ⟨i', g, rfl, q3, q4, q5⟩ := hrel
    by_cases hi : i' < n
    · obtain ⟨b, o, rfl, hb, hcc⟩ := hc (by omega)
      have hbl : b < w.heap.size := hb
      have hne : b ≠ w.heap.size := by omega
      have c0 := hcc i' hi 0 (by omega)
      have c1 := hcc i' hi 1 (by omega)
      have c2 := hcc i' hi 2 (by omega)
      rw [← q4.cell (p := ⟨b, _, none⟩) hb] at c0 c1 c2
      simp only [Nat.add_zero, Nat.mul_one, vC] at c0 c1 c2
      clear hcc hc
      go_wp2_with fail
      refine (toValue_in (f i') _).mono ?_
      rintro e w1 ⟨rfl, b1⟩
      have hb1 : Below w.heap.size w w1 := q4.trans (b1.mono q4.size)
      have q6 := q5.out.1.of_block (w' := w1) (b1.block _ q5.out.1.lt)
      clear c0 c1 c2
      have d0 := q6.cell (lt_mul_of (z := 3) hi (show 0 < 3 by omega))
      have e0 := q6.frozen (i' * 3 + 0)
      have d1 := q6.cell (lt_mul_of (z := 3) hi (show 1 < 3 by omega))
      have e1 := q6.frozen (i' * 3 + 1)
      have d2 := q6.cell (lt_mul_of (z := 3) hi (show 2 < 3 by omega))
      have e2 := q6.frozen (i' * 3 + 2)
      simp only [Nat.add_zero, Nat.mul_one] at d0 e0 d1 e1 d2 e2
      have q6' : Hid (w1.rowIs w.heap.size 104 (n * 3) g) := q6
      clear q6
      go_wp2_with fail
      go_roundw
      case rel =>
        have hrow := (((q6'.out.set (i' * 3 + 0) (.int .i64 (f i').kind)).set (i' * 3 + 1) (.int .i64 (f i').num)).set (i' * 3 + 2) (.string (f i').text))
        have hbel := (((hb1.setCell (p := ⟨w.heap.size, i' * 3 + 0, none⟩) (Nat.le_refl _) (.int .i64 (f i').kind)).setCell (p := ⟨w.heap.size, i' * 3 + 1, none⟩) (Nat.le_refl _) (.int .i64 (f i').num)).setCell (p := ⟨w.heap.size, i' * 3 + 2, none⟩) (Nat.le_refl _) (.string (f i').text))
        simp only [Nat.add_zero, Nat.mul_one] at hrow hbel

        refine ⟨i' + 1, _, rfl, by omega, hbel, hrow, fun k hk j hj => ?_⟩
        by_cases hki : k = i'
        · subst hki
          rcases (show j = 0 ∨ j = 1 ∨ j = 2 by omega) with rfl | rfl | rfl <;> simp [vC]
        · have := q5.out.2 k (by omega) j hj
          rw [if_neg (show k * 3 + j ≠ i' * 3 + 2 by omega)]
          rw [if_neg (show k * 3 + j ≠ i' * 3 + 1 by omega)]
          rw [if_neg (show k * 3 + j ≠ i' * 3 by omega)]
          exact this
      case measure => simp [intOf]; omega
    · obtain rfl : i' = n := by omega
      go_wp2_with fail
      go_ret
      exact ⟨⟨_, rfl, isArr_of_row q5.out.1 q5.out.2 ⟨Nat.le_refl _, q5.out.1.lt⟩ hn, ht⟩, q4⟩

theorem toUpS_in (s : Sl UD) (v : Value) (w : World) (hv : IsUps (· < w.heap.size) w v s) (hs : s.n ≤ 1048576) :
    Calls Tryz.prog 146 #[v] w fun e w' => (∃ v', e = .returned v' ∧ IsUps (fun b => w.heap.size ≤ b ∧ b < w'.heap.size) w' v' s) ∧ Below w.heap.size w w' := by
  obtain ⟨ao, cap, rfl, hn, hc⟩ := hv
  obtain ⟨n, f⟩ := s
  simp only at hn hc  hs ⊢
  have hmk := run_make_rows 49 108 (.agg #[.bool false, .int .i64 0]) 2 16 Tryz.underlying49 (by kernel_rfl) n (by omega) hn
  go_enter Tryz.func146, Tryz.ntmps146
  go_wp2_with fail
  obtain ⟨g0, hg0⟩ := rowIs_madeW w (.agg #[.bool false, .int .i64 0]) n 2 108
  have bw0 := below_madeW w (.agg #[.bool false, .int .i64 0]) n 2 108
  generalize madeW w (.agg #[.bool false, .int .i64 0]) n 2 108 = w0 at hg0 bw0 ⊢
  clear hmk
  go_loopw [4] (fun i wr => ∃ (i' : Nat) (g : Nat → Value), i = .int .i64 i' ∧ i' ≤ n ∧ Below w.heap.size w wr ∧ Hid (wr.rowIs w.heap.size 108 (n * 2) g ∧ Filled g 2 i' (uC f))) (fun i _ => n - (intOf i).toNat)
  case atStart => exact ⟨0, g0, rfl, by omega, bw0, hg0, fun i hi => by omega⟩
  case round =>
    obtain ⟨i', g, rfl, q3, q4, q5⟩ := hrel
    by_cases hi : i' < n
    · obtain ⟨b, o, rfl, hb, hcc⟩ := hc (by omega)
      have hbl : b < w.heap.size := hb
      have hne : b ≠ w.heap.size := by omega
      have c0 := hcc i' hi 0 (by omega)
      have c1 := hcc i' hi 1 (by omega)
      rw [← q4.cell (p := ⟨b, _, none⟩) hb] at c0 c1
      simp only [Nat.add_zero, Nat.mul_one, uC] at c0 c1
      clear hcc hc
      go_wp2_with fail
      refine (toUp_in (f i') _).mono ?_
      rintro e w1 ⟨rfl, b1⟩
      have hb1 : Below w.heap.size w w1 := q4.trans (b1.mono q4.size)
      have q6 := q5.out.1.of_block (w' := w1) (b1.block _ q5.out.1.lt)
      clear c0 c1
      have d0 := q6.cell (lt_mul_of (z := 2) hi (show 0 < 2 by omega))
      have e0 := q6.frozen (i' * 2 + 0)
      have d1 := q6.cell (lt_mul_of (z := 2) hi (show 1 < 2 by omega))
      have e1 := q6.frozen (i' * 2 + 1)
      simp only [Nat.add_zero, Nat.mul_one] at d0 e0 d1 e1
      have q6' : Hid (w1.rowIs w.heap.size 108 (n * 2) g) := q6
      clear q6
      go_wp2_with fail
      go_roundw
      case rel =>
        have hrow := ((q6'.out.set (i' * 2 + 0) (.bool (f i').stack)).set (i' * 2 + 1) (.int .i64 (f i').index))
        have hbel := ((hb1.setCell (p := ⟨w.heap.size, i' * 2 + 0, none⟩) (Nat.le_refl _) (.bool (f i').stack)).setCell (p := ⟨w.heap.size, i' * 2 + 1, none⟩) (Nat.le_refl _) (.int .i64 (f i').index))
        simp only [Nat.add_zero, Nat.mul_one] at hrow hbel

        refine ⟨i' + 1, _, rfl, by omega, hbel, hrow, fun k hk j hj => ?_⟩
        by_cases hki : k = i'
        · subst hki
          rcases (show j = 0 ∨ j = 1 by omega) with rfl | rfl <;> simp [uC]
        · have := q5.out.2 k (by omega) j hj
          rw [if_neg (show k * 2 + j ≠ i' * 2 + 1 by omega)]
          rw [if_neg (show k * 2 + j ≠ i' * 2 by omega)]
          exact this
      case measure => simp [intOf]; omega
    · obtain rfl : i' = n := by omega
      go_wp2_with fail
      go_ret
      exact ⟨⟨_, rfl, isArr_of_row q5.out.1 q5.out.2 ⟨Nat.le_refl _, q5.out.1.lt⟩ hn⟩, q4⟩
end Go.Proofs.YtckapapejfnojaaGreatDoor

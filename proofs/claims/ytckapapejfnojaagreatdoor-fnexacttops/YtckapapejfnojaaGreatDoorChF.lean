import Derived.Test.YtckapapejfnojaaGreatDoorChE
namespace Go.Proofs.YtckapapejfnojaaGreatDoor
open Go.RowKit
set_option linter.unusedVariables false
set_option linter.unusedSimpArgs false
theorem IsProto.call {lo : Nat} {w w' : World} {a3 a4 a5 a8 a9 : Value} {p : PD} (h : IsProto (fun b => lo ≤ b ∧ b < w.heap.size) w a3 a4 a5 a8 a9 p) (hb : Below w.heap.size w w') : IsProto (fun b => lo ≤ b ∧ b < w'.heap.size) w' a3 a4 a5 a8 a9 p :=
  (h.keep fun b hb' => hb.block b hb'.2).mono fun b hb' => ⟨hb'.1, Nat.lt_of_lt_of_le hb'.2 hb.size⟩
theorem IsProto.store {lo : Nat} {w : World} {a3 a4 a5 a8 a9 : Value} {p : PD} (h : IsProto (fun b => lo ≤ b ∧ b < w.heap.size) w a3 a4 a5 a8 a9 p) {a : Addr} (ha : a.block < lo) (u : Value) : IsProto (fun b => lo ≤ b ∧ b < (w.setCell a u).heap.size) (w.setCell a u) a3 a4 a5 a8 a9 p := by
  refine (h.keep (w' := w.setCell a u) fun b hb' => Below.heap_setCell w a u b (by omega)).mono fun b hb' => ⟨hb'.1, ?_⟩
  rw [World.size_setCell]
  exact hb'.2
/-- the part of the new chunk that is made. -/
def Made (w : World) (lo B n i : Nat) (f : Nat → PD) : Prop :=
  ∃ (g : Nat → Value) (a3 a4 a5 a8 a9 : Nat → Value), w.rowIs B 52 (n * 10) g ∧ Filled g 10 i (pC f a3 a4 a5 a8 a9) ∧ ∀ j, j < i → IsProto (fun b => lo ≤ b ∧ b < w.heap.size) w (a3 j) (a4 j) (a5 j) (a8 j) (a9 j) (f j)
theorem Made.call {w w' : World} {lo B n i : Nat} {f : Nat → PD} (h : Made w lo B n i f) (hb : Below w.heap.size w w') : Made w' lo B n i f := by
  obtain ⟨g, a3, a4, a5, a8, a9, h1, h2, h3⟩ := h
  exact ⟨g, a3, a4, a5, a8, a9, h1.of_block (hb.block _ h1.lt), h2, fun j hj => (h3 j hj).call hb⟩

theorem Made.step {w : World} {lo B n i : Nat} {f : Nat → PD} {b3 b4 b5 b8 b9 : Value} (h : Made w lo B n i f) (hi : i < n) (hB : B < lo) (hp : IsProto (fun b => lo ≤ b ∧ b < w.heap.size) w b3 b4 b5 b8 b9 (f i)) :
    Made ((((((((((w.setCell ⟨B, i * 10, none⟩ (.int .i64 (f i).params)).setCell ⟨B, i * 10 + 1, none⟩ (.bool (f i).vararg)).setCell ⟨B, i * 10 + 2, none⟩ (.int .i64 (f i).regs)).setCell ⟨B, i * 10 + 3, none⟩ (b3)).setCell ⟨B, i * 10 + 4, none⟩ (b4)).setCell ⟨B, i * 10 + 5, none⟩ (b5)).setCell ⟨B, i * 10 + 6, none⟩ (.int .i64 (f i).kids)).setCell ⟨B, i * 10 + 7, none⟩ (.string (f i).name)).setCell ⟨B, i * 10 + 8, none⟩ (b8)).setCell ⟨B, i * 10 + 9, none⟩ (b9)) lo B n (i + 1) f := by
  obtain ⟨g, a3, a4, a5, a8, a9, h1, h2, h3⟩ := h
  have hrow := ((((((((((h1.set (i * 10) (.int .i64 (f i).params)).set (i * 10 + 1) (.bool (f i).vararg)).set (i * 10 + 2) (.int .i64 (f i).regs)).set (i * 10 + 3) (b3)).set (i * 10 + 4) (b4)).set (i * 10 + 5) (b5)).set (i * 10 + 6) (.int .i64 (f i).kids)).set (i * 10 + 7) (.string (f i).name)).set (i * 10 + 8) (b8)).set (i * 10 + 9) (b9))
  have hnew := ((((((((((hp.store (a := ⟨B, i * 10, none⟩) hB (.int .i64 (f i).params)).store (a := ⟨B, i * 10 + 1, none⟩) hB (.bool (f i).vararg)).store (a := ⟨B, i * 10 + 2, none⟩) hB (.int .i64 (f i).regs)).store (a := ⟨B, i * 10 + 3, none⟩) hB (b3)).store (a := ⟨B, i * 10 + 4, none⟩) hB (b4)).store (a := ⟨B, i * 10 + 5, none⟩) hB (b5)).store (a := ⟨B, i * 10 + 6, none⟩) hB (.int .i64 (f i).kids)).store (a := ⟨B, i * 10 + 7, none⟩) hB (.string (f i).name)).store (a := ⟨B, i * 10 + 8, none⟩) hB (b8)).store (a := ⟨B, i * 10 + 9, none⟩) hB (b9))
  have hold := fun j (hj : j < i) => (((((((((((h3 j hj).store (a := ⟨B, i * 10, none⟩) hB (.int .i64 (f i).params)).store (a := ⟨B, i * 10 + 1, none⟩) hB (.bool (f i).vararg)).store (a := ⟨B, i * 10 + 2, none⟩) hB (.int .i64 (f i).regs)).store (a := ⟨B, i * 10 + 3, none⟩) hB (b3)).store (a := ⟨B, i * 10 + 4, none⟩) hB (b4)).store (a := ⟨B, i * 10 + 5, none⟩) hB (b5)).store (a := ⟨B, i * 10 + 6, none⟩) hB (.int .i64 (f i).kids)).store (a := ⟨B, i * 10 + 7, none⟩) hB (.string (f i).name)).store (a := ⟨B, i * 10 + 8, none⟩) hB (b8)).store (a := ⟨B, i * 10 + 9, none⟩) hB (b9))
  refine ⟨_, fun k => if k = i then b3 else a3 k, fun k => if k = i then b4 else a4 k, fun k => if k = i then b5 else a5 k, fun k => if k = i then b8 else a8 k, fun k => if k = i then b9 else a9 k, hrow, ?_, ?_⟩
  · intro k hk j hj
    by_cases hki : k = i
    · subst hki
      rcases (show j = 0 ∨ j = 1 ∨ j = 2 ∨ j = 3 ∨ j = 4 ∨ j = 5 ∨ j = 6 ∨ j = 7 ∨ j = 8 ∨ j = 9 by omega) with rfl | rfl | rfl | rfl | rfl | rfl | rfl | rfl | rfl | rfl <;> simp [pC]
    · have := h2 k (by omega) j hj
      dsimp only
      rw [if_neg (show k * 10 + j ≠ i * 10 + 9 by omega)]
      rw [if_neg (show k * 10 + j ≠ i * 10 + 8 by omega)]
      rw [if_neg (show k * 10 + j ≠ i * 10 + 7 by omega)]
      rw [if_neg (show k * 10 + j ≠ i * 10 + 6 by omega)]
      rw [if_neg (show k * 10 + j ≠ i * 10 + 5 by omega)]
      rw [if_neg (show k * 10 + j ≠ i * 10 + 4 by omega)]
      rw [if_neg (show k * 10 + j ≠ i * 10 + 3 by omega)]
      rw [if_neg (show k * 10 + j ≠ i * 10 + 2 by omega)]
      rw [if_neg (show k * 10 + j ≠ i * 10 + 1 by omega)]
      rw [if_neg (show k * 10 + j ≠ i * 10 by omega)]
      rw [this]
      simp only [pC, if_neg hki]
  · intro j hj
    by_cases hji : j = i
    · subst hji
      simpa only [if_true] using hnew
    · simp only [if_neg hji]
      exact hold j (by omega)
set_option maxRecDepth 100000 in
set_option maxHeartbeats 2000000 in
theorem toProtoS_in (s : Sl PD) (v : Value) (w : World) (hv : IsProtos (· < w.heap.size) w v s) (hs : SmallC s) :
    Calls Tryz.prog 31 #[v] w fun e w' => (∃ v', e = .returned v' ∧ IsProtos (fun b => w.heap.size ≤ b ∧ b < w'.heap.size) w' v' s) ∧ Below w.heap.size w w' := by
  obtain ⟨a3, a4, a5, a8, a9, ⟨ao, cap, rfl, hn, hc⟩, ht⟩ := hv
  obtain ⟨n, f⟩ := s
  obtain ⟨hs, hss⟩ := hs
  simp only at hn hc ht hs hss ⊢
  have hmk := run_make_rows 22 52 (.agg #[.int .i64 0, .bool false, .int .i64 0, .slice none 0 0, .slice none 0 0, .slice none 0 0, .int .i64 0, .string ⟨#[]⟩, .slice none 0 0, .slice none 0 0]) 10 168 Tryz.underlying22 (by kernel_rfl) n (by omega) hn
  go_enter Tryz.func31, Tryz.ntmps31
  go_wp2_with fail
  obtain ⟨g0, hg0⟩ := rowIs_madeW w (.agg #[.int .i64 0, .bool false, .int .i64 0, .slice none 0 0, .slice none 0 0, .slice none 0 0, .int .i64 0, .string ⟨#[]⟩, .slice none 0 0, .slice none 0 0]) n 10 52
  have bw0 := below_madeW w (.agg #[.int .i64 0, .bool false, .int .i64 0, .slice none 0 0, .slice none 0 0, .slice none 0 0, .int .i64 0, .string ⟨#[]⟩, .slice none 0 0, .slice none 0 0]) n 10 52
  generalize madeW w (.agg #[.int .i64 0, .bool false, .int .i64 0, .slice none 0 0, .slice none 0 0, .slice none 0 0, .int .i64 0, .string ⟨#[]⟩, .slice none 0 0, .slice none 0 0]) n 10 52 = w0 at hg0 bw0 ⊢
  clear hmk
  go_loopw [4] (fun i wr => ∃ (i' : Nat), i = .int .i64 i' ∧ i' ≤ n ∧ Below w.heap.size w wr ∧ Hid (Made wr (w.heap.size + 1) w.heap.size n i' f)) (fun i _ => n - (intOf i).toNat)
  case atStart => exact ⟨0, rfl, by omega, bw0, g0, a3, a3, a3, a3, a3, hg0, fun i hi => by omega, fun i hi => by omega⟩
  case round =>
    obtain ⟨i', rfl, q3, q4, q5⟩ := hrel
    by_cases hi : i' < n
    · obtain ⟨b, o, rfl, hb, hcc⟩ := hc (by omega)
      have hbl : b < w.heap.size := hb
      have hne : b ≠ w.heap.size := by omega
      have c0 := hcc i' hi 0 (by omega)
      have c1 := hcc i' hi 1 (by omega)
      have c2 := hcc i' hi 2 (by omega)
      have c3 := hcc i' hi 3 (by omega)
      have c4 := hcc i' hi 4 (by omega)
      have c5 := hcc i' hi 5 (by omega)
      have c6 := hcc i' hi 6 (by omega)
      have c7 := hcc i' hi 7 (by omega)
      have c8 := hcc i' hi 8 (by omega)
      have c9 := hcc i' hi 9 (by omega)
      rw [← q4.cell (p := ⟨b, _, none⟩) hb] at c0 c1 c2 c3 c4 c5 c6 c7 c8 c9
      simp only [Nat.add_zero, Nat.mul_one, pC] at c0 c1 c2 c3 c4 c5 c6 c7 c8 c9
      have hti : IsProto (· < wr.heap.size) wr (a3 i') (a4 i') (a5 i') (a8 i') (a9 i') (f i') := (ht i' hi).later q4
      have hsi := hss i' hi
      have hBlt : w.heap.size < wr.heap.size := by
        obtain ⟨g, _, _, _, _, _, h1, _, _⟩ := q5.out
        exact h1.lt
      clear hcc hc ht hss
      go_wp2_with fail
      refine (toProto_in (f i') (a3 i') (a4 i') (a5 i') (a8 i') (a9 i') _ hti hsi).mono ?_
      rintro e w1 ⟨b3, b4, b5, b8, b9, rfl, hp, b1⟩
      have hb1 : Below w.heap.size w w1 := q4.trans (b1.mono q4.size)
      have q6 : Hid (Made w1 (w.heap.size + 1) w.heap.size n i' f) := q5.out.call b1
      have hp' : Hid (IsProto (fun b => w.heap.size + 1 ≤ b ∧ b < w1.heap.size) w1 b3 b4 b5 b8 b9 (f i')) := hp.mono fun b hb => ⟨by omega, hb.2⟩
      obtain ⟨⟨x3, y3, rfl, -, -⟩, ⟨⟨x4, y4, rfl, -, -⟩, -⟩, ⟨x5, y5, rfl, -, -⟩, ⟨x8, y8, rfl, -, -⟩, ⟨⟨x9, y9, rfl, -, -⟩, -⟩, -⟩ := hp
      clear c0 c1 c2 c3 c4 c5 c6 c7 c8 c9 hti hsi q5
      unfold pAgg
      obtain ⟨g, -, -, -, -, -, hrow, -, -⟩ := id q6.out
      have d0 := hrow.cell (lt_mul_of (z := 10) hi (show 0 < 10 by omega))
      have e0 := hrow.frozen (i' * 10 + 0)
      have d1 := hrow.cell (lt_mul_of (z := 10) hi (show 1 < 10 by omega))
      have e1 := hrow.frozen (i' * 10 + 1)
      have d2 := hrow.cell (lt_mul_of (z := 10) hi (show 2 < 10 by omega))
      have e2 := hrow.frozen (i' * 10 + 2)
      have d3 := hrow.cell (lt_mul_of (z := 10) hi (show 3 < 10 by omega))
      have e3 := hrow.frozen (i' * 10 + 3)
      have d4 := hrow.cell (lt_mul_of (z := 10) hi (show 4 < 10 by omega))
      have e4 := hrow.frozen (i' * 10 + 4)
      have d5 := hrow.cell (lt_mul_of (z := 10) hi (show 5 < 10 by omega))
      have e5 := hrow.frozen (i' * 10 + 5)
      have d6 := hrow.cell (lt_mul_of (z := 10) hi (show 6 < 10 by omega))
      have e6 := hrow.frozen (i' * 10 + 6)
      have d7 := hrow.cell (lt_mul_of (z := 10) hi (show 7 < 10 by omega))
      have e7 := hrow.frozen (i' * 10 + 7)
      have d8 := hrow.cell (lt_mul_of (z := 10) hi (show 8 < 10 by omega))
      have e8 := hrow.frozen (i' * 10 + 8)
      have d9 := hrow.cell (lt_mul_of (z := 10) hi (show 9 < 10 by omega))
      have e9 := hrow.frozen (i' * 10 + 9)
      simp only [Nat.add_zero] at d0 e0 d1 e1 d2 e2 d3 e3 d4 e4 d5 e5 d6 e6 d7 e7 d8 e8 d9 e9
      clear hrow
      go_wp2_with fail
      go_roundw
      case rel =>
        refine ⟨i' + 1, rfl, by omega, ?_, ?_⟩
        · exact ((((((((((hb1.setCell (p := ⟨w.heap.size, i' * 10, none⟩) (Nat.le_refl _) (.int .i64 (f i').params)).setCell (p := ⟨w.heap.size, i' * 10 + 1, none⟩) (Nat.le_refl _) (.bool (f i').vararg)).setCell (p := ⟨w.heap.size, i' * 10 + 2, none⟩) (Nat.le_refl _) (.int .i64 (f i').regs)).setCell (p := ⟨w.heap.size, i' * 10 + 3, none⟩) (Nat.le_refl _) (.slice x3 (f i').code.n y3)).setCell (p := ⟨w.heap.size, i' * 10 + 4, none⟩) (Nat.le_refl _) (.slice x4 (f i').consts.n y4)).setCell (p := ⟨w.heap.size, i' * 10 + 5, none⟩) (Nat.le_refl _) (.slice x5 (f i').ups.n y5)).setCell (p := ⟨w.heap.size, i' * 10 + 6, none⟩) (Nat.le_refl _) (.int .i64 (f i').kids)).setCell (p := ⟨w.heap.size, i' * 10 + 7, none⟩) (Nat.le_refl _) (.string (f i').name)).setCell (p := ⟨w.heap.size, i' * 10 + 8, none⟩) (Nat.le_refl _) (.slice x8 (f i').lines.n y8)).setCell (p := ⟨w.heap.size, i' * 10 + 9, none⟩) (Nat.le_refl _) (.slice x9 (f i').upNames.n y9))
        · exact q6.out.step hi (by omega) hp'.out
      case measure => simp [intOf]; omega
    · obtain rfl : i' = n := by omega
      obtain ⟨g, x3, x4, x5, x8, x9, h1, h2, h3⟩ := id q5.out
      have hfin : Hid (IsProtos (fun b => w.heap.size ≤ b ∧ b < wr.heap.size) wr (.slice (some ⟨w.heap.size, 0, none⟩) i' i') ⟨i', f⟩) :=
        ⟨x3, x4, x5, x8, x9, isArr_of_row h1 h2 ⟨Nat.le_refl _, h1.lt⟩ hn, fun j hj => (h3 j hj).mono fun b hb => ⟨by omega, hb.2⟩⟩
      clear h1 h2 h3 q5
      go_wp2_with fail
      go_ret
      exact ⟨⟨_, rfl, hfin.out⟩, q4⟩

theorem toChunk_in (s : Sl PD) (v : Value) (w : World) (hv : IsProtos (· < w.heap.size) w v s) (hs : SmallC s) :
    Calls Tryz.prog 13 #[.agg #[v]] w fun e w' => (∃ v', e = .returned (.agg #[v']) ∧ IsProtos (fun b => w.heap.size ≤ b ∧ b < w'.heap.size) w' v' s) ∧ Below w.heap.size w w' := by
  have hv' := hv
  obtain ⟨a3, a4, a5, a8, a9, ⟨ao, cap, rfl, hn, hc⟩, ht⟩ := hv
  clear hc ht
  go_enter Tryz.func13, Tryz.ntmps13
  go_wp2_with fail
  have R1 : RowL (((w.alloc (.cells #[.slice ao s.n cap] 32)).alloc (.cells #[.slice none 0 0] 24)).alloc (.cells #[.slice none 0 0] 24)) (w.heap.size + 1) 24 [.slice none 0 0] := by
    have := (RowL.new (w.alloc (.cells #[.slice ao s.n cap] 32)) [.slice none 0 0] 24).alloc (.cells #[.slice none 0 0] 24)
    rwa [World.size_alloc] at this
  have R2 : RowL (((w.alloc (.cells #[.slice ao s.n cap] 32)).alloc (.cells #[.slice none 0 0] 24)).alloc (.cells #[.slice none 0 0] 24)) (w.heap.size + 2) 24 [.slice none 0 0] := by
    have := RowL.new ((w.alloc (.cells #[.slice ao s.n cap] 32)).alloc (.cells #[.slice none 0 0] 24)) [.slice none 0 0] 24
    rwa [World.size_alloc, World.size_alloc] at this
  have bw : Below w.heap.size w (((w.alloc (.cells #[.slice ao s.n cap] 32)).alloc (.cells #[.slice none 0 0] 24)).alloc (.cells #[.slice none 0 0] 24)) := by go_grown
  have sz : w.heap.size + 3 ≤ (((w.alloc (.cells #[.slice ao s.n cap] 32)).alloc (.cells #[.slice none 0 0] 24)).alloc (.cells #[.slice none 0 0] 24)).heap.size := by simp
  generalize ((w.alloc (.cells #[.slice ao s.n cap] 32)).alloc (.cells #[.slice none 0 0] 24)).alloc (.cells #[.slice none 0 0] 24) = wx at R1 R2 bw sz ⊢
  refine (toProtoS_in s _ _ (hv'.later bw) hs).mono ?_
  rintro e y ⟨⟨v, rfl, hp⟩, b1⟩
  replace R1 := R1.call b1
  replace R2 := R2.call b1
  replace bw := bw.trans (b1.mono bw.size)
  have hp' : Hid (IsProtos (fun b => w.heap.size + 3 ≤ b ∧ b < y.heap.size) y v s) := hp.mono fun b hb => ⟨by omega, hb.2⟩
  obtain ⟨-, -, -, -, -, ⟨ao', cap', rfl, -, -⟩, -⟩ := hp
  have x0 := R2.cell 0 rfl
  have z0 := R2.frozen 0
  have o0 := R1.cell 0 rfl
  have f0 := R1.frozen 0
  go_wp2_with fail
  refine bodyPost_ret (v := .agg #[.slice ao' s.n cap']) (by simp [results, Tryz.results13, go_sem, o0]) rfl ⟨⟨_, rfl, ?_⟩, ?_⟩
  · refine (hp'.out.keep (w' := (y.setCell ⟨w.heap.size + 2, 0, none⟩ (.slice ao' s.n cap')).setCell ⟨w.heap.size + 1, 0, none⟩ (.slice ao' s.n cap')) fun b hb => ?_).mono fun b hb => ⟨by omega, by simpa using hb.2⟩
    rw [Below.heap_setCell _ _ _ _ (by show b ≠ w.heap.size + 1; omega), Below.heap_setCell _ _ _ _ (by show b ≠ w.heap.size + 2; omega)]
  · exact (bw.setCell (p := ⟨w.heap.size + 2, 0, none⟩) (by simp) _).setCell (p := ⟨w.heap.size + 1, 0, none⟩) (by simp) _
end Go.Proofs.YtckapapejfnojaaGreatDoor

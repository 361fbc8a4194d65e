import Derived.Test.YtckapapejfnojaaGreatDoorChB
namespace Go.Proofs.YtckapapejfnojaaGreatDoor
open Go.RowKit
set_option linter.unusedVariables false
set_option linter.unusedSimpArgs false
set_option maxHeartbeats 1000000 in
theorem szProto_in (p : PD) (a3 a4 a5 a8 a9 : Value) (left : Int) (w : World) (h0 : 0 ≤ left) (h1 : left ≤ 1048576) (hp : IsProto (· < w.heap.size) w a3 a4 a5 a8 a9 p) :
    Calls Tryz.prog 67 #[pAgg p a3 a4 a5 a8 a9, .int .i64 left] w fun e w' =>
      (∃ r, e = .returned (.int .i64 r) ∧ Left left r (SmallP p)) ∧ Below w.heap.size w w' := by
  obtain ⟨p3, p4, p5, p8, p9, pn⟩ := hp
  obtain ⟨o3, c3, rfl, n3, -⟩ := p3
  obtain ⟨o5, c5, rfl, n5, -⟩ := p5
  obtain ⟨o8, c8, rfl, n8, -⟩ := p8
  obtain ⟨⟨o4, c4, rfl, n4, k4⟩, t4⟩ := p4
  obtain ⟨⟨o9, c9, rfl, n9, k9⟩, t9⟩ := p9
  have p4 : IsVals (· < w.heap.size) w (.slice o4 p.consts.n c4) p.consts := ⟨⟨o4, c4, rfl, n4, k4⟩, t4⟩
  have p9 : IsStrs (· < w.heap.size) w (.slice o9 p.upNames.n c9) p.upNames := ⟨⟨o9, c9, rfl, n9, k9⟩, t9⟩
  clear k4 t4 k9 t9
  unfold pAgg
  obtain ⟨wb, hwb⟩ : ∃ wb, wb = (w.alloc (.cells #[.int .i64 p.params, .bool p.vararg, .int .i64 p.regs, .slice o3 p.code.n c3, .slice o4 p.consts.n c4, .slice o5 p.ups.n c5, .int .i64 p.kids, .string p.name, .slice o8 p.lines.n c8, .slice o9 p.upNames.n c9] 137)) := ⟨_, rfl⟩
  have bw : Below w.heap.size w wb := by rw [hwb]; go_grown
  have sz : wb.heap.size = w.heap.size + 1 := by rw [hwb]; simp
  have g4 : wb.cell? ⟨w.heap.size, 4, none⟩ = some (.slice o4 p.consts.n c4) := by rw [hwb]; simp
  have g5 : wb.cell? ⟨w.heap.size, 5, none⟩ = some (.slice o5 p.ups.n c5) := by rw [hwb]; simp
  have g7 : wb.cell? ⟨w.heap.size, 7, none⟩ = some (.string p.name) := by rw [hwb]; simp
  have g8 : wb.cell? ⟨w.heap.size, 8, none⟩ = some (.slice o8 p.lines.n c8) := by rw [hwb]; simp
  have g9 : wb.cell? ⟨w.heap.size, 9, none⟩ = some (.slice o9 p.upNames.n c9) := by rw [hwb]; simp
  go_enter Tryz.func67, Tryz.ntmps67
  go_wp2_with fail
  rw [← hwb]
  clear hwb
  refine (szUint32S_in o3 p.code.n c3 left _ h0 (by omega) n3).mono ?_
  rintro e w1 ⟨⟨r1, rfl, x1, y1, s1⟩, b1⟩
  have bb : Below wb.heap.size wb w1 := b1
  clear b1
  have m4 := (bb.cell (p := ⟨w.heap.size, 4, none⟩) (by simp [sz])).trans g4
  have m5 := (bb.cell (p := ⟨w.heap.size, 5, none⟩) (by simp [sz])).trans g5
  have m7 := (bb.cell (p := ⟨w.heap.size, 7, none⟩) (by simp [sz])).trans g7
  have m8 := (bb.cell (p := ⟨w.heap.size, 8, none⟩) (by simp [sz])).trans g8
  have m9 := (bb.cell (p := ⟨w.heap.size, 9, none⟩) (by simp [sz])).trans g9
  by_cases hr1 : r1 < 0
  · go_wp2_with fail
    go_ret
    exact ⟨⟨_, rfl, by omega, by omega, by omega⟩, bw.trans (bb.mono (by omega))⟩
  go_wp2_with fail
  clear m4 m5 m7 m8 m9
  refine (szValueS_in p.consts _ r1 _ (by omega) (by omega) ⟨p4.1.later (by simpa using (bw.trans (bb.mono (by omega)))), p4.2⟩).mono ?_
  rintro e w2 ⟨⟨r2, rfl, x2, y2, s2⟩, b2⟩
  replace bb : Below wb.heap.size wb w2 := bb.trans (b2.mono bb.size)
  clear b2
  have m4 := (bb.cell (p := ⟨w.heap.size, 4, none⟩) (by simp [sz])).trans g4
  have m5 := (bb.cell (p := ⟨w.heap.size, 5, none⟩) (by simp [sz])).trans g5
  have m7 := (bb.cell (p := ⟨w.heap.size, 7, none⟩) (by simp [sz])).trans g7
  have m8 := (bb.cell (p := ⟨w.heap.size, 8, none⟩) (by simp [sz])).trans g8
  have m9 := (bb.cell (p := ⟨w.heap.size, 9, none⟩) (by simp [sz])).trans g9
  by_cases hr2 : r2 < 0
  · go_wp2_with fail
    go_ret
    exact ⟨⟨_, rfl, by omega, by omega, by omega⟩, bw.trans (bb.mono (by omega))⟩
  go_wp2_with fail
  clear m4 m5 m7 m8 m9
  refine (szUpS_in o5 p.ups.n c5 r2 _ (by omega) (by omega) n5).mono ?_
  rintro e w3 ⟨⟨r3, rfl, x3, y3, s3⟩, b3⟩
  replace bb : Below wb.heap.size wb w3 := bb.trans (b3.mono bb.size)
  clear b3
  have m4 := (bb.cell (p := ⟨w.heap.size, 4, none⟩) (by simp [sz])).trans g4
  have m5 := (bb.cell (p := ⟨w.heap.size, 5, none⟩) (by simp [sz])).trans g5
  have m7 := (bb.cell (p := ⟨w.heap.size, 7, none⟩) (by simp [sz])).trans g7
  have m8 := (bb.cell (p := ⟨w.heap.size, 8, none⟩) (by simp [sz])).trans g8
  have m9 := (bb.cell (p := ⟨w.heap.size, 9, none⟩) (by simp [sz])).trans g9
  by_cases hr3 : r3 < 0
  · go_wp2_with fail
    go_ret
    exact ⟨⟨_, rfl, by omega, by omega, by omega⟩, bw.trans (bb.mono (by omega))⟩
  by_cases hq : r3 - p.name.size < 0
  · go_wp2_with fail
    go_ret
    exact ⟨⟨_, rfl, by omega, by omega, by omega⟩, bw.trans (bb.mono (by omega))⟩
  go_wp2_with fail
  clear m4 m5 m7 m8 m9
  refine (szIntS_in o8 p.lines.n c8 (r3 - p.name.size) _ (by omega) (by omega) n8).mono ?_
  rintro e w4 ⟨⟨r4, rfl, x4, y4, s4⟩, b4⟩
  replace bb : Below wb.heap.size wb w4 := bb.trans (b4.mono bb.size)
  clear b4
  have m4 := (bb.cell (p := ⟨w.heap.size, 4, none⟩) (by simp [sz])).trans g4
  have m5 := (bb.cell (p := ⟨w.heap.size, 5, none⟩) (by simp [sz])).trans g5
  have m7 := (bb.cell (p := ⟨w.heap.size, 7, none⟩) (by simp [sz])).trans g7
  have m8 := (bb.cell (p := ⟨w.heap.size, 8, none⟩) (by simp [sz])).trans g8
  have m9 := (bb.cell (p := ⟨w.heap.size, 9, none⟩) (by simp [sz])).trans g9
  by_cases hr4 : r4 < 0
  · go_wp2_with fail
    go_ret
    exact ⟨⟨_, rfl, by omega, by omega, by omega⟩, bw.trans (bb.mono (by omega))⟩
  go_wp2_with fail
  clear m4 m5 m7 m8 m9
  refine (szStringS_in p.upNames _ r4 _ (by omega) (by omega) ⟨p9.1.later (by simpa using (bw.trans (bb.mono (by omega)))), p9.2⟩).mono ?_
  rintro e w5 ⟨⟨r5, rfl, x5, y5, s5⟩, b5⟩
  replace bb : Below wb.heap.size wb w5 := bb.trans (b5.mono bb.size)
  clear b5
  have m4 := (bb.cell (p := ⟨w.heap.size, 4, none⟩) (by simp [sz])).trans g4
  have m5 := (bb.cell (p := ⟨w.heap.size, 5, none⟩) (by simp [sz])).trans g5
  have m7 := (bb.cell (p := ⟨w.heap.size, 7, none⟩) (by simp [sz])).trans g7
  have m8 := (bb.cell (p := ⟨w.heap.size, 8, none⟩) (by simp [sz])).trans g8
  have m9 := (bb.cell (p := ⟨w.heap.size, 9, none⟩) (by simp [sz])).trans g9
  by_cases hr5 : r5 < 0
  · go_wp2_with fail
    go_ret
    exact ⟨⟨_, rfl, by omega, by omega, by omega⟩, bw.trans (bb.mono (by omega))⟩
  go_wp2_with fail
  go_ret
  exact ⟨⟨_, rfl, by omega, by omega, fun _ => ⟨s1 (by omega), s2 (by omega), s3 (by omega), s4 (by omega), s5 (by omega)⟩⟩, bw.trans (bb.mono (by omega))⟩

theorem szProtoS_in (s : Sl PD) (v : Value) (left : Int) (w : World) (h0 : 0 ≤ left) (h1 : left ≤ 1048576) (hv : IsProtos (· < w.heap.size) w v s) :
    Calls Tryz.prog 28 #[v, .int .i64 left] w fun e w' =>
      (∃ r, e = .returned (.int .i64 r) ∧ Left left r (SmallC s)) ∧ Below w.heap.size w w' := by
  obtain ⟨a3, a4, a5, a8, a9, ⟨ao, cap, rfl, hn, hc⟩, ht⟩ := hv
  obtain ⟨n, f⟩ := s
  simp only at hn hc ht ⊢
  by_cases hl : left - n < 0
  · go_enter Tryz.func28, Tryz.ntmps28
    go_wp2_with fail
    go_ret
    exact ⟨⟨_, rfl, by omega, by omega, by omega⟩, by go_grown⟩
  · go_enter Tryz.func28, Tryz.ntmps28
    go_wp2_with fail
    go_loopw [1, 5] (fun v i wr => ∃ (l : Int) (i' : Nat), v = .int .i64 l ∧ i = .int .i64 i' ∧ 0 ≤ l ∧ l ≤ left ∧ i' ≤ n ∧ Below w.heap.size w wr ∧ Hid (∀ j, j < i' → SmallP (f j))) (fun _ i _ => n - (intOf i).toNat)
    case atStart => exact ⟨left - n, 0, rfl, rfl, by omega, by omega, by omega, by go_grown, fun j hj => by omega⟩
    case round =>
      obtain ⟨l, i', rfl, rfl, q1, q2, q3, q4, q5⟩ := hrel
      by_cases hi : i' < n
      · obtain ⟨b, o, rfl, hb, hcc⟩ := hc (by omega)
        have c0 := hcc i' hi 0 (by omega)
        have c1 := hcc i' hi 1 (by omega)
        have c2 := hcc i' hi 2 (by omega)
        have c3 := hcc i' hi 3 (by omega)
        have c4 := hcc i' hi 4 (by omega)
        have c5 := hcc i' hi 5 (by omega)
        have c6 := hcc i' hi 6 (by omega)
        have c7 := hcc i' hi 7 (by omega)
        have c8 := hcc i' hi 8 (by omega)
        have c9 := hcc i' hi 9 (by omega)
        rw [← q4.cell (p := ⟨b, _, none⟩) hb] at c0 c1 c2 c3 c4 c5 c6 c7 c8 c9
        simp only [Nat.add_zero, pC] at c0 c1 c2 c3 c4 c5 c6 c7 c8 c9
        have hti : IsProto (· < wr.heap.size) wr (a3 i') (a4 i') (a5 i') (a8 i') (a9 i') (f i') := (ht i' hi).later q4
        clear hcc hc ht
        go_wp2_with fail
        refine (szProto_in (f i') (a3 i') (a4 i') (a5 i') (a8 i') (a9 i') l _ q1 (by omega) hti).mono ?_
        rintro e w1 ⟨⟨r, rfl, r1, r2, r3⟩, b1⟩
        have hb1 : Below w.heap.size w w1 := q4.trans (b1.mono q4.size)
        by_cases hr : r < 0
        · clear c0 c1 c2 c3 c4 c5 c6 c7 c8 c9
          go_wp2_with fail
          go_ret
          exact ⟨⟨_, rfl, by omega, by omega, by omega⟩, hb1⟩
        · have q6 : Hid (∀ j, j < i' + 1 → SmallP (f j)) := fun j hj => by
            by_cases hji : j = i'
            · subst hji; exact r3 (by omega)
            · exact q5.out j (by omega)
          clear c0 c1 c2 c3 c4 c5 c6 c7 c8 c9 r3
          go_wp2_with fail
          go_roundw
          case rel => exact ⟨r, i' + 1, rfl, rfl, by omega, by omega, by omega, hb1, q6⟩
          case measure => simp [intOf]; omega
      · obtain rfl : i' = n := by omega
        go_wp2_with fail
        go_ret
        exact ⟨⟨_, rfl, by omega, by omega, fun _ => ⟨by show i' ≤ 1048576; omega, q5.out⟩⟩, q4⟩

theorem szChunk_in (s : Sl PD) (v : Value) (w : World) (hv : IsProtos (· < w.heap.size) w v s) :
    Calls Tryz.prog 11 #[.agg #[v], .int .i64 1048576] w fun e w' =>
      (∃ r, e = .returned (.int .i64 r) ∧ (0 ≤ r → SmallC s)) ∧ Below w.heap.size w w' := by
  have hv' := hv
  obtain ⟨a3, a4, a5, a8, a9, ⟨ao, cap, rfl, hn, hc⟩, ht⟩ := hv
  clear hc ht
  go_enter Tryz.func11, Tryz.ntmps11
  go_wp2_with fail
  refine (szProtoS_in s _ 1048576 _ (by omega) (by omega) (hv'.later (by go_grown))).mono ?_
  rintro e w1 ⟨⟨r, rfl, r1, r2, r3⟩, b1⟩
  have hb1 : Below w.heap.size w w1 := by
    have := b1.size
    exact Below.trans (by go_grown) (b1.mono (by simp))
  by_cases hr : r < 0
  · clear r3
    go_wp2_with fail
    go_ret
    exact ⟨⟨_, rfl, by omega⟩, hb1⟩
  · have r4 : Hid (SmallC s) := r3 (by omega)
    clear r3
    go_wp2_with fail
    go_ret
    exact ⟨⟨_, rfl, fun _ => r4.out⟩, hb1⟩
end Go.Proofs.YtckapapejfnojaaGreatDoor

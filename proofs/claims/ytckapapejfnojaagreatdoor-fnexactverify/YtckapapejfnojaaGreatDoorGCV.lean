import Derived.Test.YtckapapejfnojaaGreatDoorGAV
namespace Go.Proofs.YtckapapejfnojaaGreatDoor
section
open Go.RowKit
set_option linter.unusedVariables false
set_option linter.unusedSimpArgs false

/-- what a size test answers: what is left, or -1. -/
def Left (left r : Int) (P : Prop) : Prop := r ≤ left ∧ -1 ≤ r ∧ (0 ≤ r → P)

theorem szValue_in (d : VD) (left : Int) (w : World) (h0 : 0 ≤ left) (h1 : left ≤ 1048576) (ht : d.text.size ≤ 9223372036854775807) :
    Calls Tryz.prog 182 #[.agg #[.int .i64 d.kind, .int .i64 d.num, .string d.text], .int .i64 left] w fun e w' =>
      (∃ r, e = .returned (.int .i64 r) ∧ Left left r True) ∧ Below w.heap.size w w' := by
  by_cases hl : left - d.text.size < 0
  · go_enter Tryz.func182, Tryz.ntmps182
    go_wp2_with fail
    go_ret
    exact ⟨⟨_, rfl, by omega, by omega, fun _ => trivial⟩, by go_grown⟩
  · go_enter Tryz.func182, Tryz.ntmps182
    go_wp2_with fail
    go_ret
    exact ⟨⟨_, rfl, by omega, by omega, fun _ => trivial⟩, by go_grown⟩

theorem szUint32S_in (ao : Option Addr) (n cap : Nat) (left : Int) (w : World) (h0 : 0 ≤ left) (h1 : left ≤ 1048576) (ht : n ≤ 9223372036854775807) :
    Calls Tryz.prog 137 #[.slice ao n cap, .int .i64 left] w fun e w' =>
      (∃ r, e = .returned (.int .i64 r) ∧ Left left r (n ≤ 1048576)) ∧ Below w.heap.size w w' := by
  by_cases hl : left - n < 0
  · go_enter Tryz.func137, Tryz.ntmps137
    go_wp2_with fail
    go_ret
    exact ⟨⟨_, rfl, by omega, by omega, by omega⟩, by go_grown⟩
  · go_enter Tryz.func137, Tryz.ntmps137
    go_wp2_with fail
    go_ret
    exact ⟨⟨_, rfl, by omega, by omega, by omega⟩, by go_grown⟩
theorem szUpS_in (ao : Option Addr) (n cap : Nat) (left : Int) (w : World) (h0 : 0 ≤ left) (h1 : left ≤ 1048576) (ht : n ≤ 9223372036854775807) :
    Calls Tryz.prog 139 #[.slice ao n cap, .int .i64 left] w fun e w' =>
      (∃ r, e = .returned (.int .i64 r) ∧ Left left r (n ≤ 1048576)) ∧ Below w.heap.size w w' := by
  by_cases hl : left - n < 0
  · go_enter Tryz.func139, Tryz.ntmps139
    go_wp2_with fail
    go_ret
    exact ⟨⟨_, rfl, by omega, by omega, by omega⟩, by go_grown⟩
  · go_enter Tryz.func139, Tryz.ntmps139
    go_wp2_with fail
    go_ret
    exact ⟨⟨_, rfl, by omega, by omega, by omega⟩, by go_grown⟩
theorem szIntS_in (ao : Option Addr) (n cap : Nat) (left : Int) (w : World) (h0 : 0 ≤ left) (h1 : left ≤ 1048576) (ht : n ≤ 9223372036854775807) :
    Calls Tryz.prog 140 #[.slice ao n cap, .int .i64 left] w fun e w' =>
      (∃ r, e = .returned (.int .i64 r) ∧ Left left r (n ≤ 1048576)) ∧ Below w.heap.size w w' := by
  by_cases hl : left - n < 0
  · go_enter Tryz.func140, Tryz.ntmps140
    go_wp2_with fail
    go_ret
    exact ⟨⟨_, rfl, by omega, by omega, by omega⟩, by go_grown⟩
  · go_enter Tryz.func140, Tryz.ntmps140
    go_wp2_with fail
    go_ret
    exact ⟨⟨_, rfl, by omega, by omega, by omega⟩, by go_grown⟩

theorem szValueS_in (s : Sl VD) (v : Value) (left : Int) (w : World) (h0 : 0 ≤ left) (h1 : left ≤ 1048576) (hv : IsVals (· < w.heap.size) w v s) :
    Calls Tryz.prog 138 #[v, .int .i64 left] w fun e w' =>
      (∃ r, e = .returned (.int .i64 r) ∧ Left left r (s.n ≤ 1048576)) ∧ Below w.heap.size w w' := by
  obtain ⟨⟨ao, cap, rfl, hn, hc⟩, ht⟩ := hv
  obtain ⟨n, f⟩ := s
  simp only at hn hc ht ⊢
  by_cases hl : left - n < 0
  · go_enter Tryz.func138, Tryz.ntmps138
    go_wp2_with fail
    go_ret
    exact ⟨⟨_, rfl, by omega, by omega, by omega⟩, by go_grown⟩
  · go_enter Tryz.func138, Tryz.ntmps138
    go_wp2_with fail
    go_loopw [1, 5] (fun v i wr => ∃ (l : Int) (i' : Nat), v = .int .i64 l ∧ i = .int .i64 i' ∧ 0 ≤ l ∧ l ≤ left ∧ i' ≤ n ∧ Below w.heap.size w wr) (fun _ i _ => n - (intOf i).toNat)
    case atStart => exact ⟨left - n, 0, rfl, rfl, by omega, by omega, by omega, by go_grown⟩
    case round =>
      obtain ⟨l, i', rfl, rfl, q1, q2, q3, q4⟩ := hrel
      by_cases hi : i' < n
      · obtain ⟨b, o, rfl, hb, hcc⟩ := hc (by omega)
        have c0 := hcc i' hi 0 (by omega)
        have c1 := hcc i' hi 1 (by omega)
        have c2 := hcc i' hi 2 (by omega)
        rw [← q4.cell (p := ⟨b, _, none⟩) hb] at c0 c1 c2
        simp only [Nat.add_zero, vC] at c0 c1 c2
        have hti := ht i' hi
        clear hcc hc
        go_wp2_with fail
        refine (szValue_in (f i') l _ q1 (by omega) hti).mono ?_
        rintro e w1 ⟨⟨r, rfl, r1, r2, _⟩, b1⟩
        have hb1 : Below w.heap.size w w1 := q4.trans (b1.mono q4.size)
        by_cases hr : r < 0
        · go_wp2_with fail
          go_ret
          exact ⟨⟨_, rfl, by omega, by omega, by omega⟩, hb1⟩
        · go_wp2_with fail
          go_roundw
          case rel => exact ⟨r, i' + 1, rfl, rfl, by omega, by omega, by omega, hb1⟩
          case measure => simp [intOf]; omega
      · go_wp2_with fail
        go_ret
        exact ⟨⟨_, rfl, by omega, by omega, by omega⟩, q4⟩

theorem szStringS_in (s : Sl ByteArray) (v : Value) (left : Int) (w : World) (h0 : 0 ≤ left) (h1 : left ≤ 1048576) (hv : IsStrs (· < w.heap.size) w v s) :
    Calls Tryz.prog 141 #[v, .int .i64 left] w fun e w' =>
      (∃ r, e = .returned (.int .i64 r) ∧ Left left r (s.n ≤ 1048576)) ∧ Below w.heap.size w w' := by
  obtain ⟨⟨ao, cap, rfl, hn, hc⟩, ht⟩ := hv
  obtain ⟨n, f⟩ := s
  simp only at hn hc ht ⊢
  by_cases hl : left - n < 0
  · go_enter Tryz.func141, Tryz.ntmps141
    go_wp2_with fail
    go_ret
    exact ⟨⟨_, rfl, by omega, by omega, by omega⟩, by go_grown⟩
  · go_enter Tryz.func141, Tryz.ntmps141
    go_wp2_with fail
    go_loopw [1, 5] (fun v i wr => ∃ (l : Int) (i' : Nat), v = .int .i64 l ∧ i = .int .i64 i' ∧ 0 ≤ l ∧ l ≤ left ∧ i' ≤ n ∧ Below w.heap.size w wr) (fun _ i _ => n - (intOf i).toNat)
    case atStart => exact ⟨left - n, 0, rfl, rfl, by omega, by omega, by omega, by go_grown⟩
    case round =>
      obtain ⟨l, i', rfl, rfl, q1, q2, q3, q4⟩ := hrel
      by_cases hi : i' < n
      · obtain ⟨b, o, rfl, hb, hcc⟩ := hc (by omega)
        have c0 := hcc i' hi 0 (by omega)
        rw [← q4.cell (p := ⟨b, _, none⟩) hb] at c0
        simp only [Nat.add_zero, Nat.mul_one, sC] at c0
        have hti := ht i' hi
        clear hcc hc
        by_cases hr : l - (f i').size < 0
        · go_wp2_with fail
          go_ret
          exact ⟨⟨_, rfl, by omega, by omega, by omega⟩, q4⟩
        · go_wp2_with fail
          go_roundw
          case rel => exact ⟨l - (f i').size, i' + 1, rfl, rfl, by omega, by omega, by omega, q4⟩
          case measure => simp [intOf]; omega
      · go_wp2_with fail
        go_ret
        exact ⟨⟨_, rfl, by omega, by omega, by omega⟩, q4⟩
end
section
open Go.RowKit
set_option linter.unusedVariables false
set_option linter.unusedSimpArgs false
set_option maxHeartbeats 1000000 in
theorem szProto_in (p : PD) (a3 a4 a5 a8 a9 : Value) (left : Int) (w : World) (h0 : 0 ≤ left) (h1 : left ≤ 1048576) (hp : IsProto (· < w.heap.size) w a3 a4 a5 a8 a9 p) :
    Calls Tryz.prog 67 #[pAgg p a3 a4 a5 a8 a9, .int .i64 left] w fun e w' =>
      (∃ r, e = .returned (.int .i64 r) ∧ Left left r (SmallP p)) ∧ Below w.heap.size w w' := by
  obtain ⟨p3, p4, p5, p8, p9, pn⟩ := hp
  obtain ⟨o3, c3, rfl, n3, -⟩ := p3
  obtain ⟨o5, c5, rfl, n5, -⟩ := p5
  obtain ⟨o8, c8, rfl, n8, -⟩ := p8
  obtain ⟨⟨o4, c4, rfl, n4, k4⟩, t4⟩ := p4
  obtain ⟨⟨o9, c9, rfl, n9, k9⟩, t9⟩ := p9
  have p4 : IsVals (· < w.heap.size) w (.slice o4 p.consts.n c4) p.consts := ⟨⟨o4, c4, rfl, n4, k4⟩, t4⟩
  have p9 : IsStrs (· < w.heap.size) w (.slice o9 p.upNames.n c9) p.upNames := ⟨⟨o9, c9, rfl, n9, k9⟩, t9⟩
  clear k4 t4 k9 t9
  unfold pAgg
  obtain ⟨wb, hwb⟩ : ∃ wb, wb = (w.alloc (.cells #[.int .i64 p.params, .bool p.vararg, .int .i64 p.regs, .slice o3 p.code.n c3, .slice o4 p.consts.n c4, .slice o5 p.ups.n c5, .int .i64 p.kids, .string p.name, .slice o8 p.lines.n c8, .slice o9 p.upNames.n c9] 137)) := ⟨_, rfl⟩
  have bw : Below w.heap.size w wb := by rw [hwb]; go_grown
  have sz : wb.heap.size = w.heap.size + 1 := by rw [hwb]; simp
  have g4 : wb.cell? ⟨w.heap.size, 4, none⟩ = some (.slice o4 p.consts.n c4) := by rw [hwb]; simp
  have g5 : wb.cell? ⟨w.heap.size, 5, none⟩ = some (.slice o5 p.ups.n c5) := by rw [hwb]; simp
  have g7 : wb.cell? ⟨w.heap.size, 7, none⟩ = some (.string p.name) := by rw [hwb]; simp
  have g8 : wb.cell? ⟨w.heap.size, 8, none⟩ = some (.slice o8 p.lines.n c8) := by rw [hwb]; simp
  have g9 : wb.cell? ⟨w.heap.size, 9, none⟩ = some (.slice o9 p.upNames.n c9) := by rw [hwb]; simp
  go_enter Tryz.func67, Tryz.ntmps67
  go_wp2_with fail
  rw [← hwb]
  clear hwb
  refine (szUint32S_in o3 p.code.n c3 left _ h0 (by omega) n3).mono ?_
  rintro e w1 ⟨⟨r1, rfl, x1, y1, s1⟩, b1⟩
  have bb : Below wb.heap.size wb w1 := b1
  clear b1
  have m4 := (bb.cell (p := ⟨w.heap.size, 4, none⟩) (by simp [sz])).trans g4
  have m5 := (bb.cell (p := ⟨w.heap.size, 5, none⟩) (by simp [sz])).trans g5
  have m7 := (bb.cell (p := ⟨w.heap.size, 7, none⟩) (by simp [sz])).trans g7
  have m8 := (bb.cell (p := ⟨w.heap.size, 8, none⟩) (by simp [sz])).trans g8
  have m9 := (bb.cell (p := ⟨w.heap.size, 9, none⟩) (by simp [sz])).trans g9
  by_cases hr1 : r1 < 0
  · go_wp2_with fail
    go_ret
    exact ⟨⟨_, rfl, by omega, by omega, by omega⟩, bw.trans (bb.mono (by omega))⟩
  go_wp2_with fail
  clear m4 m5 m7 m8 m9
  refine (szValueS_in p.consts _ r1 _ (by omega) (by omega) ⟨p4.1.later (by simpa using (bw.trans (bb.mono (by omega)))), p4.2⟩).mono ?_
  rintro e w2 ⟨⟨r2, rfl, x2, y2, s2⟩, b2⟩
  replace bb : Below wb.heap.size wb w2 := bb.trans (b2.mono bb.size)
  clear b2
  have m4 := (bb.cell (p := ⟨w.heap.size, 4, none⟩) (by simp [sz])).trans g4
  have m5 := (bb.cell (p := ⟨w.heap.size, 5, none⟩) (by simp [sz])).trans g5
  have m7 := (bb.cell (p := ⟨w.heap.size, 7, none⟩) (by simp [sz])).trans g7
  have m8 := (bb.cell (p := ⟨w.heap.size, 8, none⟩) (by simp [sz])).trans g8
  have m9 := (bb.cell (p := ⟨w.heap.size, 9, none⟩) (by simp [sz])).trans g9
  by_cases hr2 : r2 < 0
  · go_wp2_with fail
    go_ret
    exact ⟨⟨_, rfl, by omega, by omega, by omega⟩, bw.trans (bb.mono (by omega))⟩
  go_wp2_with fail
  clear m4 m5 m7 m8 m9
  refine (szUpS_in o5 p.ups.n c5 r2 _ (by omega) (by omega) n5).mono ?_
  rintro e w3 ⟨⟨r3, rfl, x3, y3, s3⟩, b3⟩
  replace bb : Below wb.heap.size wb w3 := bb.trans (b3.mono bb.size)
  clear b3
  have m4 := (bb.cell (p := ⟨w.heap.size, 4, none⟩) (by simp [sz])).trans g4
  have m5 := (bb.cell (p := ⟨w.heap.size, 5, none⟩) (by simp [sz])).trans g5
  have m7 := (bb.cell (p := ⟨w.heap.size, 7, none⟩) (by simp [sz])).trans g7
  have m8 := (bb.cell (p := ⟨w.heap.size, 8, none⟩) (by simp [sz])).trans g8
  have m9 := (bb.cell (p := ⟨w.heap.size, 9, none⟩) (by simp [sz])).trans g9
  by_cases hr3 : r3 < 0
  · go_wp2_with fail
    go_ret
    exact ⟨⟨_, rfl, by omega, by omega, by omega⟩, bw.trans (bb.mono (by omega))⟩
  by_cases hq : r3 - p.name.size < 0
  · go_wp2_with fail
    go_ret
    exact ⟨⟨_, rfl, by omega, by omega, by omega⟩, bw.trans (bb.mono (by omega))⟩
  go_wp2_with fail
  clear m4 m5 m7 m8 m9
  refine (szIntS_in o8 p.lines.n c8 (r3 - p.name.size) _ (by omega) (by omega) n8).mono ?_
  rintro e w4 ⟨⟨r4, rfl, x4, y4, s4⟩, b4⟩
  replace bb : Below wb.heap.size wb w4 := bb.trans (b4.mono bb.size)
  clear b4
  have m4 := (bb.cell (p := ⟨w.heap.size, 4, none⟩) (by simp [sz])).trans g4
  have m5 := (bb.cell (p := ⟨w.heap.size, 5, none⟩) (by simp [sz])).trans g5
  have m7 := (bb.cell (p := ⟨w.heap.size, 7, none⟩) (by simp [sz])).trans g7
  have m8 := (bb.cell (p := ⟨w.heap.size, 8, none⟩) (by simp [sz])).trans g8
  have m9 := (bb.cell (p := ⟨w.heap.size, 9, none⟩) (by simp [sz])).trans g9
  by_cases hr4 : r4 < 0
  · go_wp2_with fail
    go_ret
    exact ⟨⟨_, rfl, by omega, by omega, by omega⟩, bw.trans (bb.mono (by omega))⟩
  go_wp2_with fail
  clear m4 m5 m7 m8 m9
  refine (szStringS_in p.upNames _ r4 _ (by omega) (by omega) ⟨p9.1.later (by simpa using (bw.trans (bb.mono (by omega)))), p9.2⟩).mono ?_
  rintro e w5 ⟨⟨r5, rfl, x5, y5, s5⟩, b5⟩
  replace bb : Below wb.heap.size wb w5 := bb.trans (b5.mono bb.size)
  clear b5
  have m4 := (bb.cell (p := ⟨w.heap.size, 4, none⟩) (by simp [sz])).trans g4
  have m5 := (bb.cell (p := ⟨w.heap.size, 5, none⟩) (by simp [sz])).trans g5
  have m7 := (bb.cell (p := ⟨w.heap.size, 7, none⟩) (by simp [sz])).trans g7
  have m8 := (bb.cell (p := ⟨w.heap.size, 8, none⟩) (by simp [sz])).trans g8
  have m9 := (bb.cell (p := ⟨w.heap.size, 9, none⟩) (by simp [sz])).trans g9
  by_cases hr5 : r5 < 0
  · go_wp2_with fail
    go_ret
    exact ⟨⟨_, rfl, by omega, by omega, by omega⟩, bw.trans (bb.mono (by omega))⟩
  go_wp2_with fail
  go_ret
  exact ⟨⟨_, rfl, by omega, by omega, fun _ => ⟨s1 (by omega), s2 (by omega), s3 (by omega), s4 (by omega), s5 (by omega)⟩⟩, bw.trans (bb.mono (by omega))⟩

theorem szProtoS_in (s : Sl PD) (v : Value) (left : Int) (w : World) (h0 : 0 ≤ left) (h1 : left ≤ 1048576) (hv : IsProtos (· < w.heap.size) w v s) :
    Calls Tryz.prog 28 #[v, .int .i64 left] w fun e w' =>
      (∃ r, e = .returned (.int .i64 r) ∧ Left left r (SmallC s)) ∧ Below w.heap.size w w' := by
  obtain ⟨a3, a4, a5, a8, a9, ⟨ao, cap, rfl, hn, hc⟩, ht⟩ := hv
  obtain ⟨n, f⟩ := s
  simp only at hn hc ht ⊢
  by_cases hl : left - n < 0
  · go_enter Tryz.func28, Tryz.ntmps28
    go_wp2_with fail
    go_ret
    exact ⟨⟨_, rfl, by omega, by omega, by omega⟩, by go_grown⟩
  · go_enter Tryz.func28, Tryz.ntmps28
    go_wp2_with fail
    go_loopw [1, 5] (fun v i wr => ∃ (l : Int) (i' : Nat), v = .int .i64 l ∧ i = .int .i64 i' ∧ 0 ≤ l ∧ l ≤ left ∧ i' ≤ n ∧ Below w.heap.size w wr ∧ Hid (∀ j, j < i' → SmallP (f j))) (fun _ i _ => n - (intOf i).toNat)
    case atStart => exact ⟨left - n, 0, rfl, rfl, by omega, by omega, by omega, by go_grown, fun j hj => by omega⟩
    case round =>
      obtain ⟨l, i', rfl, rfl, q1, q2, q3, q4, q5⟩ := hrel
      by_cases hi : i' < n
      · obtain ⟨b, o, rfl, hb, hcc⟩ := hc (by omega)
        have c0 := hcc i' hi 0 (by omega)
        have c1 := hcc i' hi 1 (by omega)
        have c2 := hcc i' hi 2 (by omega)
        have c3 := hcc i' hi 3 (by omega)
        have c4 := hcc i' hi 4 (by omega)
        have c5 := hcc i' hi 5 (by omega)
        have c6 := hcc i' hi 6 (by omega)
        have c7 := hcc i' hi 7 (by omega)
        have c8 := hcc i' hi 8 (by omega)
        have c9 := hcc i' hi 9 (by omega)
        rw [← q4.cell (p := ⟨b, _, none⟩) hb] at c0 c1 c2 c3 c4 c5 c6 c7 c8 c9
        simp only [Nat.add_zero, pC] at c0 c1 c2 c3 c4 c5 c6 c7 c8 c9
        have hti : IsProto (· < wr.heap.size) wr (a3 i') (a4 i') (a5 i') (a8 i') (a9 i') (f i') := (ht i' hi).later q4
        clear hcc hc ht
        go_wp2_with fail
        refine (szProto_in (f i') (a3 i') (a4 i') (a5 i') (a8 i') (a9 i') l _ q1 (by omega) hti).mono ?_
        rintro e w1 ⟨⟨r, rfl, r1, r2, r3⟩, b1⟩
        have hb1 : Below w.heap.size w w1 := q4.trans (b1.mono q4.size)
        by_cases hr : r < 0
        · clear c0 c1 c2 c3 c4 c5 c6 c7 c8 c9
          go_wp2_with fail
          go_ret
          exact ⟨⟨_, rfl, by omega, by omega, by omega⟩, hb1⟩
        · have q6 : Hid (∀ j, j < i' + 1 → SmallP (f j)) := fun j hj => by
            by_cases hji : j = i'
            · subst hji; exact r3 (by omega)
            · exact q5.out j (by omega)
          clear c0 c1 c2 c3 c4 c5 c6 c7 c8 c9 r3
          go_wp2_with fail
          go_roundw
          case rel => exact ⟨r, i' + 1, rfl, rfl, by omega, by omega, by omega, hb1, q6⟩
          case measure => simp [intOf]; omega
      · obtain rfl : i' = n := by omega
        go_wp2_with fail
        go_ret
        exact ⟨⟨_, rfl, by omega, by omega, fun _ => ⟨by show i' ≤ 1048576; omega, q5.out⟩⟩, q4⟩

theorem szChunk_in (s : Sl PD) (v : Value) (w : World) (hv : IsProtos (· < w.heap.size) w v s) :
    Calls Tryz.prog 11 #[.agg #[v], .int .i64 1048576] w fun e w' =>
      (∃ r, e = .returned (.int .i64 r) ∧ (0 ≤ r → SmallC s)) ∧ Below w.heap.size w w' := by
  have hv' := hv
  obtain ⟨a3, a4, a5, a8, a9, ⟨ao, cap, rfl, hn, hc⟩, ht⟩ := hv
  clear hc ht
  go_enter Tryz.func11, Tryz.ntmps11
  go_wp2_with fail
  refine (szProtoS_in s _ 1048576 _ (by omega) (by omega) (hv'.later (by go_grown))).mono ?_
  rintro e w1 ⟨⟨r, rfl, r1, r2, r3⟩, b1⟩
  have hb1 : Below w.heap.size w w1 := by
    have := b1.size
    exact Below.trans (by go_grown) (b1.mono (by simp))
  by_cases hr : r < 0
  · clear r3
    go_wp2_with fail
    go_ret
    exact ⟨⟨_, rfl, by omega⟩, hb1⟩
  · have r4 : Hid (SmallC s) := r3 (by omega)
    clear r3
    go_wp2_with fail
    go_ret
    exact ⟨⟨_, rfl, fun _ => r4.out⟩, hb1⟩
end
section
open Go.RowKit
set_option linter.unusedVariables false
set_option linter.unusedSimpArgs false

theorem toUint32S_in (s : Sl Int) (v : Value) (w : World) (hv : IsInts .u32 (· < w.heap.size) w v s) (hs : s.n ≤ 1048576) :
    Calls Tryz.prog 144 #[v] w fun e w' => (∃ v', e = .returned v' ∧ IsInts .u32 (fun b => w.heap.size ≤ b ∧ b < w'.heap.size) w' v' s) ∧ Below w.heap.size w w' := by
  obtain ⟨ao, cap, rfl, hn, hc⟩ := hv
  obtain ⟨n, f⟩ := s
  simp only at hn hc  hs ⊢
  have hmk := run_make_rows 47 90 (.int .u32 0) 1 4 Tryz.underlying47 (by kernel_rfl) n (by omega) hn
  go_enter Tryz.func144, Tryz.ntmps144
  go_wp2_with fail
  obtain ⟨g0, hg0⟩ := rowIs_madeW w (.int .u32 0) n 1 90
  have bw0 := below_madeW w (.int .u32 0) n 1 90
  generalize madeW w (.int .u32 0) n 1 90 = w0 at hg0 bw0 ⊢
  clear hmk
  go_loopw [4] (fun i wr => ∃ (i' : Nat) (g : Nat → Value), i = .int .i64 i' ∧ i' ≤ n ∧ Below w.heap.size w wr ∧ Hid (wr.rowIs w.heap.size 90 (n * 1) g ∧ Filled g 1 i' (iC .u32 f))) (fun i _ => n - (intOf i).toNat)
  case atStart => exact ⟨0, g0, rfl, by omega, bw0, hg0, fun i hi => by omega⟩
  case round =>
    obtain ⟨i', g, rfl, q3, q4, q5⟩ := hrel
    by_cases hi : i' < n
    · obtain ⟨b, o, rfl, hb, hcc⟩ := hc (by omega)
      have hbl : b < w.heap.size := hb
      have hne : b ≠ w.heap.size := by omega
      have c0 := hcc i' hi 0 (by omega)
      rw [← q4.cell (p := ⟨b, _, none⟩) hb] at c0
      simp only [Nat.add_zero, Nat.mul_one, iC] at c0
      have d0 := q5.out.1.cell (lt_mul_of (z := 1) hi (show 0 < 1 by omega))
      have e0 := q5.out.1.frozen (i' * 1 + 0)
      simp only [Nat.add_zero, Nat.mul_one] at d0 e0
      clear hcc hc
      go_wp2_with fail
      go_roundw
      case rel =>
        have hrow := (q5.out.1.set (i' * 1 + 0) (.int .u32 (f i')))
        have hbel := (q4.setCell (p := ⟨w.heap.size, i' * 1 + 0, none⟩) (Nat.le_refl _) (.int .u32 (f i')))
        simp only [Nat.add_zero, Nat.mul_one] at hrow hbel
        rw [← Nat.mul_one n] at hrow
        refine ⟨i' + 1, _, rfl, by omega, hbel, hrow, fun k hk j hj => ?_⟩
        by_cases hki : k = i'
        · subst hki
          obtain rfl : j = 0 := by omega
          simp [iC]
        · have := q5.out.2 k (by omega) j hj
          rw [if_neg (show k * 1 + j ≠ i' by omega)]
          exact this
      case measure => simp [intOf]; omega
    · obtain rfl : i' = n := by omega
      go_wp2_with fail
      go_ret
      exact ⟨⟨_, rfl, isArr_of_row q5.out.1 q5.out.2 ⟨Nat.le_refl _, q5.out.1.lt⟩ hn⟩, q4⟩

theorem toIntS_in (s : Sl Int) (v : Value) (w : World) (hv : IsInts .i64 (· < w.heap.size) w v s) (hs : s.n ≤ 1048576) :
    Calls Tryz.prog 147 #[v] w fun e w' => (∃ v', e = .returned v' ∧ IsInts .i64 (fun b => w.heap.size ≤ b ∧ b < w'.heap.size) w' v' s) ∧ Below w.heap.size w w' := by
  obtain ⟨ao, cap, rfl, hn, hc⟩ := hv
  obtain ⟨n, f⟩ := s
  simp only at hn hc  hs ⊢
  have hmk := run_make_rows 34 3 (.int .i64 0) 1 8 Tryz.underlying34 (by kernel_rfl) n (by omega) hn
  go_enter Tryz.func147, Tryz.ntmps147
  go_wp2_with fail
  obtain ⟨g0, hg0⟩ := rowIs_madeW w (.int .i64 0) n 1 3
  have bw0 := below_madeW w (.int .i64 0) n 1 3
  generalize madeW w (.int .i64 0) n 1 3 = w0 at hg0 bw0 ⊢
  clear hmk
  go_loopw [4] (fun i wr => ∃ (i' : Nat) (g : Nat → Value), i = .int .i64 i' ∧ i' ≤ n ∧ Below w.heap.size w wr ∧ Hid (wr.rowIs w.heap.size 3 (n * 1) g ∧ Filled g 1 i' (iC .i64 f))) (fun i _ => n - (intOf i).toNat)
  case atStart => exact ⟨0, g0, rfl, by omega, bw0, hg0, fun i hi => by omega⟩
  case round =>
    obtain ⟨i', g, rfl, q3, q4, q5⟩ := hrel
    by_cases hi : i' < n
    · obtain ⟨b, o, rfl, hb, hcc⟩ := hc (by omega)
      have hbl : b < w.heap.size := hb
      have hne : b ≠ w.heap.size := by omega
      have c0 := hcc i' hi 0 (by omega)
      rw [← q4.cell (p := ⟨b, _, none⟩) hb] at c0
      simp only [Nat.add_zero, Nat.mul_one, iC] at c0
      have d0 := q5.out.1.cell (lt_mul_of (z := 1) hi (show 0 < 1 by omega))
      have e0 := q5.out.1.frozen (i' * 1 + 0)
      simp only [Nat.add_zero, Nat.mul_one] at d0 e0
      clear hcc hc
      go_wp2_with fail
      go_roundw
      case rel =>
        have hrow := (q5.out.1.set (i' * 1 + 0) (.int .i64 (f i')))
        have hbel := (q4.setCell (p := ⟨w.heap.size, i' * 1 + 0, none⟩) (Nat.le_refl _) (.int .i64 (f i')))
        simp only [Nat.add_zero, Nat.mul_one] at hrow hbel
        rw [← Nat.mul_one n] at hrow
        refine ⟨i' + 1, _, rfl, by omega, hbel, hrow, fun k hk j hj => ?_⟩
        by_cases hki : k = i'
        · subst hki
          obtain rfl : j = 0 := by omega
          simp [iC]
        · have := q5.out.2 k (by omega) j hj
          rw [if_neg (show k * 1 + j ≠ i' by omega)]
          exact this
      case measure => simp [intOf]; omega
    · obtain rfl : i' = n := by omega
      go_wp2_with fail
      go_ret
      exact ⟨⟨_, rfl, isArr_of_row q5.out.1 q5.out.2 ⟨Nat.le_refl _, q5.out.1.lt⟩ hn⟩, q4⟩

theorem toStringS_in (s : Sl ByteArray) (v : Value) (w : World) (hv : IsStrs (· < w.heap.size) w v s) (hs : s.n ≤ 1048576) :
    Calls Tryz.prog 148 #[v] w fun e w' => (∃ v', e = .returned v' ∧ IsStrs (fun b => w.heap.size ≤ b ∧ b < w'.heap.size) w' v' s) ∧ Below w.heap.size w w' := by
  obtain ⟨⟨ao, cap, rfl, hn, hc⟩, ht⟩ := hv
  obtain ⟨n, f⟩ := s
  simp only at hn hc ht hs ⊢
  have hmk := run_make_rows 50 9 (.string ⟨#[]⟩) 1 16 Tryz.underlying50 (by kernel_rfl) n (by omega) hn
  go_enter Tryz.func148, Tryz.ntmps148
  go_wp2_with fail
  obtain ⟨g0, hg0⟩ := rowIs_madeW w (.string ⟨#[]⟩) n 1 9
  have bw0 := below_madeW w (.string ⟨#[]⟩) n 1 9
  generalize madeW w (.string ⟨#[]⟩) n 1 9 = w0 at hg0 bw0 ⊢
  clear hmk
  go_loopw [4] (fun i wr => ∃ (i' : Nat) (g : Nat → Value), i = .int .i64 i' ∧ i' ≤ n ∧ Below w.heap.size w wr ∧ Hid (wr.rowIs w.heap.size 9 (n * 1) g ∧ Filled g 1 i' (sC f))) (fun i _ => n - (intOf i).toNat)
  case atStart => exact ⟨0, g0, rfl, by omega, bw0, hg0, fun i hi => by omega⟩
  case round =>
    obtain ⟨i', g, rfl, q3, q4, q5⟩ := hrel
    by_cases hi : i' < n
    · obtain ⟨b, o, rfl, hb, hcc⟩ := hc (by omega)
      have hbl : b < w.heap.size := hb
      have hne : b ≠ w.heap.size := by omega
      have c0 := hcc i' hi 0 (by omega)
      rw [← q4.cell (p := ⟨b, _, none⟩) hb] at c0
      simp only [Nat.add_zero, Nat.mul_one, sC] at c0
      have d0 := q5.out.1.cell (lt_mul_of (z := 1) hi (show 0 < 1 by omega))
      have e0 := q5.out.1.frozen (i' * 1 + 0)
      simp only [Nat.add_zero, Nat.mul_one] at d0 e0
      clear hcc hc
      go_wp2_with fail
      go_roundw
      case rel =>
        have hrow := (q5.out.1.set (i' * 1 + 0) (.string (f i')))
        have hbel := (q4.setCell (p := ⟨w.heap.size, i' * 1 + 0, none⟩) (Nat.le_refl _) (.string (f i')))
        simp only [Nat.add_zero, Nat.mul_one] at hrow hbel
        rw [← Nat.mul_one n] at hrow
        refine ⟨i' + 1, _, rfl, by omega, hbel, hrow, fun k hk j hj => ?_⟩
        by_cases hki : k = i'
        · subst hki
          obtain rfl : j = 0 := by omega
          simp [sC]
        · have := q5.out.2 k (by omega) j hj
          rw [if_neg (show k * 1 + j ≠ i' by omega)]
          exact this
      case measure => simp [intOf]; omega
    · obtain rfl : i' = n := by omega
      go_wp2_with fail
      go_ret
      exact ⟨⟨_, rfl, isArr_of_row q5.out.1 q5.out.2 ⟨Nat.le_refl _, q5.out.1.lt⟩ hn, ht⟩, q4⟩

theorem toValue_in (d : VD) (w : World) :
    Calls Tryz.prog 183 #[.agg #[.int .i64 d.kind, .int .i64 d.num, .string d.text]] w fun e w' =>
      e = .returned (.agg #[.int .i64 d.kind, .int .i64 d.num, .string d.text]) ∧ Below w.heap.size w w' := by
  go_enter Tryz.func183, Tryz.ntmps183
  go_wp2_with fail
  exact bodyPost_ret (v := .agg #[.int .i64 d.kind, .int .i64 d.num, .string d.text]) (by simp [results, Tryz.results183, go_sem]) rfl ⟨rfl, by go_grown⟩
theorem toUp_in (d : UD) (w : World) :
    Calls Tryz.prog 184 #[.agg #[.bool d.stack, .int .i64 d.index]] w fun e w' =>
      e = .returned (.agg #[.bool d.stack, .int .i64 d.index]) ∧ Below w.heap.size w w' := by
  go_enter Tryz.func184, Tryz.ntmps184
  go_wp2_with fail
  exact bodyPost_ret (v := .agg #[.bool d.stack, .int .i64 d.index]) (by simp [results, Tryz.results184, go_sem]) rfl ⟨rfl, by go_grown⟩

theorem toValueS_in (s : Sl VD) (v : Value) (w : World) (hv : IsVals (· < w.heap.size) w v s) (hs : s.n ≤ 1048576) :
    Calls Tryz.prog 145 #[v] w fun e w' => (∃ v', e = .returned v' ∧ IsVals (fun b => w.heap.size ≤ b ∧ b < w'.heap.size) w' v' s) ∧ Below w.heap.size w w' := by
  obtain ⟨⟨ao, cap, rfl, hn, hc⟩, ht⟩ := hv
  obtain ⟨n, f⟩ := s
  simp only at hn hc ht hs ⊢
  have hmk := run_make_rows 48 104 (.agg #[.int .i64 0, .int .i64 0, .string ⟨#[]⟩]) 3 32 Tryz.underlying48 (by kernel_rfl) n (by omega) hn
  go_enter Tryz.func145, Tryz.ntmps145
  go_wp2_with fail
  obtain ⟨g0, hg0⟩ := rowIs_madeW w (.agg #[.int .i64 0, .int .i64 0, .string ⟨#[]⟩]) n 3 104
  have bw0 := below_madeW w (.agg #[.int .i64 0, .int .i64 0, .string ⟨#[]⟩]) n 3 104
  generalize madeW w (.agg #[.int .i64 0, .int .i64 0, .string ⟨#[]⟩]) n 3 104 = w0 at hg0 bw0 ⊢
  clear hmk
  go_loopw [4] (fun i wr => ∃ (i' : Nat) (g : Nat → Value), i = .int .i64 i' ∧ i' ≤ n ∧ Below w.heap.size w wr ∧ Hid (wr.rowIs w.heap.size 104 (n * 3) g ∧ Filled g 3 i' (vC f))) (fun i _ => n - (intOf i).toNat)
  case atStart => exact ⟨0, g0, rfl, by omega, bw0, hg0, fun i hi => by omega⟩
  case round =>
    obtain ⟨i', g, rfl, q3, q4, q5⟩ := hrel
    by_cases hi : i' < n
    · obtain ⟨b, o, rfl, hb, hcc⟩ := hc (by omega)
      have hbl : b < w.heap.size := hb
      have hne : b ≠ w.heap.size := by omega
      have c0 := hcc i' hi 0 (by omega)
      have c1 := hcc i' hi 1 (by omega)
      have c2 := hcc i' hi 2 (by omega)
      rw [← q4.cell (p := ⟨b, _, none⟩) hb] at c0 c1 c2
      simp only [Nat.add_zero, Nat.mul_one, vC] at c0 c1 c2
      clear hcc hc
      go_wp2_with fail
      refine (toValue_in (f i') _).mono ?_
      rintro e w1 ⟨rfl, b1⟩
      have hb1 : Below w.heap.size w w1 := q4.trans (b1.mono q4.size)
      have q6 := q5.out.1.of_block (w' := w1) (b1.block _ q5.out.1.lt)
      clear c0 c1 c2
      have d0 := q6.cell (lt_mul_of (z := 3) hi (show 0 < 3 by omega))
      have e0 := q6.frozen (i' * 3 + 0)
      have d1 := q6.cell (lt_mul_of (z := 3) hi (show 1 < 3 by omega))
      have e1 := q6.frozen (i' * 3 + 1)
      have d2 := q6.cell (lt_mul_of (z := 3) hi (show 2 < 3 by omega))
      have e2 := q6.frozen (i' * 3 + 2)
      simp only [Nat.add_zero, Nat.mul_one] at d0 e0 d1 e1 d2 e2
      have q6' : Hid (w1.rowIs w.heap.size 104 (n * 3) g) := q6
      clear q6
      go_wp2_with fail
      go_roundw
      case rel =>
        have hrow := (((q6'.out.set (i' * 3 + 0) (.int .i64 (f i').kind)).set (i' * 3 + 1) (.int .i64 (f i').num)).set (i' * 3 + 2) (.string (f i').text))
        have hbel := (((hb1.setCell (p := ⟨w.heap.size, i' * 3 + 0, none⟩) (Nat.le_refl _) (.int .i64 (f i').kind)).setCell (p := ⟨w.heap.size, i' * 3 + 1, none⟩) (Nat.le_refl _) (.int .i64 (f i').num)).setCell (p := ⟨w.heap.size, i' * 3 + 2, none⟩) (Nat.le_refl _) (.string (f i').text))
        simp only [Nat.add_zero, Nat.mul_one] at hrow hbel

        refine ⟨i' + 1, _, rfl, by omega, hbel, hrow, fun k hk j hj => ?_⟩
        by_cases hki : k = i'
        · subst hki
          rcases (show j = 0 ∨ j = 1 ∨ j = 2 by omega) with rfl | rfl | rfl <;> simp [vC]
        · have := q5.out.2 k (by omega) j hj
          rw [if_neg (show k * 3 + j ≠ i' * 3 + 2 by omega)]
          rw [if_neg (show k * 3 + j ≠ i' * 3 + 1 by omega)]
          rw [if_neg (show k * 3 + j ≠ i' * 3 by omega)]
          exact this
      case measure => simp [intOf]; omega
    · obtain rfl : i' = n := by omega
      go_wp2_with fail
      go_ret
      exact ⟨⟨_, rfl, isArr_of_row q5.out.1 q5.out.2 ⟨Nat.le_refl _, q5.out.1.lt⟩ hn, ht⟩, q4⟩

theorem toUpS_in (s : Sl UD) (v : Value) (w : World) (hv : IsUps (· < w.heap.size) w v s) (hs : s.n ≤ 1048576) :
    Calls Tryz.prog 146 #[v] w fun e w' => (∃ v', e = .returned v' ∧ IsUps (fun b => w.heap.size ≤ b ∧ b < w'.heap.size) w' v' s) ∧ Below w.heap.size w w' := by
  obtain ⟨ao, cap, rfl, hn, hc⟩ := hv
  obtain ⟨n, f⟩ := s
  simp only at hn hc  hs ⊢
  have hmk := run_make_rows 49 108 (.agg #[.bool false, .int .i64 0]) 2 16 Tryz.underlying49 (by kernel_rfl) n (by omega) hn
  go_enter Tryz.func146, Tryz.ntmps146
  go_wp2_with fail
  obtain ⟨g0, hg0⟩ := rowIs_madeW w (.agg #[.bool false, .int .i64 0]) n 2 108
  have bw0 := below_madeW w (.agg #[.bool false, .int .i64 0]) n 2 108
  generalize madeW w (.agg #[.bool false, .int .i64 0]) n 2 108 = w0 at hg0 bw0 ⊢
  clear hmk
  go_loopw [4] (fun i wr => ∃ (i' : Nat) (g : Nat → Value), i = .int .i64 i' ∧ i' ≤ n ∧ Below w.heap.size w wr ∧ Hid (wr.rowIs w.heap.size 108 (n * 2) g ∧ Filled g 2 i' (uC f))) (fun i _ => n - (intOf i).toNat)
  case atStart => exact ⟨0, g0, rfl, by omega, bw0, hg0, fun i hi => by omega⟩
  case round =>
    obtain ⟨i', g, rfl, q3, q4, q5⟩ := hrel
    by_cases hi : i' < n
    · obtain ⟨b, o, rfl, hb, hcc⟩ := hc (by omega)
      have hbl : b < w.heap.size := hb
      have hne : b ≠ w.heap.size := by omega
      have c0 := hcc i' hi 0 (by omega)
      have c1 := hcc i' hi 1 (by omega)
      rw [← q4.cell (p := ⟨b, _, none⟩) hb] at c0 c1
      simp only [Nat.add_zero, Nat.mul_one, uC] at c0 c1
      clear hcc hc
      go_wp2_with fail
      refine (toUp_in (f i') _).mono ?_
      rintro e w1 ⟨rfl, b1⟩
      have hb1 : Below w.heap.size w w1 := q4.trans (b1.mono q4.size)
      have q6 := q5.out.1.of_block (w' := w1) (b1.block _ q5.out.1.lt)
      clear c0 c1
      have d0 := q6.cell (lt_mul_of (z := 2) hi (show 0 < 2 by omega))
      have e0 := q6.frozen (i' * 2 + 0)
      have d1 := q6.cell (lt_mul_of (z := 2) hi (show 1 < 2 by omega))
      have e1 := q6.frozen (i' * 2 + 1)
      simp only [Nat.add_zero, Nat.mul_one] at d0 e0 d1 e1
      have q6' : Hid (w1.rowIs w.heap.size 108 (n * 2) g) := q6
      clear q6
      go_wp2_with fail
      go_roundw
      case rel =>
        have hrow := ((q6'.out.set (i' * 2 + 0) (.bool (f i').stack)).set (i' * 2 + 1) (.int .i64 (f i').index))
        have hbel := ((hb1.setCell (p := ⟨w.heap.size, i' * 2 + 0, none⟩) (Nat.le_refl _) (.bool (f i').stack)).setCell (p := ⟨w.heap.size, i' * 2 + 1, none⟩) (Nat.le_refl _) (.int .i64 (f i').index))
        simp only [Nat.add_zero, Nat.mul_one] at hrow hbel

        refine ⟨i' + 1, _, rfl, by omega, hbel, hrow, fun k hk j hj => ?_⟩
        by_cases hki : k = i'
        · subst hki
          rcases (show j = 0 ∨ j = 1 by omega) with rfl | rfl <;> simp [uC]
        · have := q5.out.2 k (by omega) j hj
          rw [if_neg (show k * 2 + j ≠ i' * 2 + 1 by omega)]
          rw [if_neg (show k * 2 + j ≠ i' * 2 by omega)]
          exact this
      case measure => simp [intOf]; omega
    · obtain rfl : i' = n := by omega
      go_wp2_with fail
      go_ret
      exact ⟨⟨_, rfl, isArr_of_row q5.out.1 q5.out.2 ⟨Nat.le_refl _, q5.out.1.lt⟩ hn⟩, q4⟩
end
section
open Go.RowKit
set_option linter.unusedVariables false
set_option linter.unusedSimpArgs false

set_option maxRecDepth 100000 in
set_option maxHeartbeats 2000000 in
theorem toProto_in (p : PD) (a3 a4 a5 a8 a9 : Value) (w : World) (hp : IsProto (· < w.heap.size) w a3 a4 a5 a8 a9 p) (hs : SmallP p) :
    Calls Tryz.prog 73 #[pAgg p a3 a4 a5 a8 a9] w fun e w' =>
      ∃ b3 b4 b5 b8 b9, e = .returned (pAgg p b3 b4 b5 b8 b9) ∧ IsProto (fun b => w.heap.size ≤ b ∧ b < w'.heap.size) w' b3 b4 b5 b8 b9 p ∧ Below w.heap.size w w' := by
  obtain ⟨s3, s4, s5, s8, s9⟩ := hs
  obtain ⟨p3, p4, p5, p8, p9, pn⟩ := hp
  have p3' := p3
  have p4' := p4
  have p5' := p5
  have p8' := p8
  have p9' := p9
  obtain ⟨o3, c3, rfl, -, -⟩ := p3
  obtain ⟨o5, c5, rfl, -, -⟩ := p5
  obtain ⟨o8, c8, rfl, -, -⟩ := p8
  obtain ⟨⟨o4, c4, rfl, -, -⟩, -⟩ := p4
  obtain ⟨⟨o9, c9, rfl, -, -⟩, -⟩ := p9
  unfold pAgg
  go_enter Tryz.func73, Tryz.ntmps73
  go_wp2_with fail
  have R0 : RowL (((w.alloc (.cells #[.int .i64 p.params, .bool p.vararg, .int .i64 p.regs, .slice o3 p.code.n c3, .slice o4 p.consts.n c4, .slice o5 p.ups.n c5, .int .i64 p.kids, .string p.name, .slice o8 p.lines.n c8, .slice o9 p.upNames.n c9] 137)).alloc (.cells #[.int .i64 0, .bool false, .int .i64 0, .slice none 0 0, .slice none 0 0, .slice none 0 0, .int .i64 0, .string ⟨#[]⟩, .slice none 0 0, .slice none 0 0] 52)).alloc (.cells #[.int .i64 p.params, .bool p.vararg, .int .i64 p.regs, .slice none 0 0, .slice none 0 0, .slice none 0 0, .int .i64 0, .string ⟨#[]⟩, .slice none 0 0, .slice none 0 0] 52)) w.heap.size 137 [.int .i64 p.params, .bool p.vararg, .int .i64 p.regs, .slice o3 p.code.n c3, .slice o4 p.consts.n c4, .slice o5 p.ups.n c5, .int .i64 p.kids, .string p.name, .slice o8 p.lines.n c8, .slice o9 p.upNames.n c9] := ((RowL.new w _ 137).alloc _).alloc _
  have R1 : RowL (((w.alloc (.cells #[.int .i64 p.params, .bool p.vararg, .int .i64 p.regs, .slice o3 p.code.n c3, .slice o4 p.consts.n c4, .slice o5 p.ups.n c5, .int .i64 p.kids, .string p.name, .slice o8 p.lines.n c8, .slice o9 p.upNames.n c9] 137)).alloc (.cells #[.int .i64 0, .bool false, .int .i64 0, .slice none 0 0, .slice none 0 0, .slice none 0 0, .int .i64 0, .string ⟨#[]⟩, .slice none 0 0, .slice none 0 0] 52)).alloc (.cells #[.int .i64 p.params, .bool p.vararg, .int .i64 p.regs, .slice none 0 0, .slice none 0 0, .slice none 0 0, .int .i64 0, .string ⟨#[]⟩, .slice none 0 0, .slice none 0 0] 52)) (w.heap.size + 1) 52 [.int .i64 0, .bool false, .int .i64 0, .slice none 0 0, .slice none 0 0, .slice none 0 0, .int .i64 0, .string ⟨#[]⟩, .slice none 0 0, .slice none 0 0] := by
    have := (RowL.new (w.alloc (.cells #[.int .i64 p.params, .bool p.vararg, .int .i64 p.regs, .slice o3 p.code.n c3, .slice o4 p.consts.n c4, .slice o5 p.ups.n c5, .int .i64 p.kids, .string p.name, .slice o8 p.lines.n c8, .slice o9 p.upNames.n c9] 137)) [.int .i64 0, .bool false, .int .i64 0, .slice none 0 0, .slice none 0 0, .slice none 0 0, .int .i64 0, .string ⟨#[]⟩, .slice none 0 0, .slice none 0 0] 52).alloc (.cells #[.int .i64 p.params, .bool p.vararg, .int .i64 p.regs, .slice none 0 0, .slice none 0 0, .slice none 0 0, .int .i64 0, .string ⟨#[]⟩, .slice none 0 0, .slice none 0 0] 52)
    rwa [World.size_alloc] at this
  have R2 : RowL (((w.alloc (.cells #[.int .i64 p.params, .bool p.vararg, .int .i64 p.regs, .slice o3 p.code.n c3, .slice o4 p.consts.n c4, .slice o5 p.ups.n c5, .int .i64 p.kids, .string p.name, .slice o8 p.lines.n c8, .slice o9 p.upNames.n c9] 137)).alloc (.cells #[.int .i64 0, .bool false, .int .i64 0, .slice none 0 0, .slice none 0 0, .slice none 0 0, .int .i64 0, .string ⟨#[]⟩, .slice none 0 0, .slice none 0 0] 52)).alloc (.cells #[.int .i64 p.params, .bool p.vararg, .int .i64 p.regs, .slice none 0 0, .slice none 0 0, .slice none 0 0, .int .i64 0, .string ⟨#[]⟩, .slice none 0 0, .slice none 0 0] 52)) (w.heap.size + 2) 52 [.int .i64 p.params, .bool p.vararg, .int .i64 p.regs, .slice none 0 0, .slice none 0 0, .slice none 0 0, .int .i64 0, .string ⟨#[]⟩, .slice none 0 0, .slice none 0 0] := by
    have := RowL.new ((w.alloc (.cells #[.int .i64 p.params, .bool p.vararg, .int .i64 p.regs, .slice o3 p.code.n c3, .slice o4 p.consts.n c4, .slice o5 p.ups.n c5, .int .i64 p.kids, .string p.name, .slice o8 p.lines.n c8, .slice o9 p.upNames.n c9] 137)).alloc (.cells #[.int .i64 0, .bool false, .int .i64 0, .slice none 0 0, .slice none 0 0, .slice none 0 0, .int .i64 0, .string ⟨#[]⟩, .slice none 0 0, .slice none 0 0] 52)) [.int .i64 p.params, .bool p.vararg, .int .i64 p.regs, .slice none 0 0, .slice none 0 0, .slice none 0 0, .int .i64 0, .string ⟨#[]⟩, .slice none 0 0, .slice none 0 0] 52
    rwa [World.size_alloc, World.size_alloc] at this
  have bw : Below w.heap.size w (((w.alloc (.cells #[.int .i64 p.params, .bool p.vararg, .int .i64 p.regs, .slice o3 p.code.n c3, .slice o4 p.consts.n c4, .slice o5 p.ups.n c5, .int .i64 p.kids, .string p.name, .slice o8 p.lines.n c8, .slice o9 p.upNames.n c9] 137)).alloc (.cells #[.int .i64 0, .bool false, .int .i64 0, .slice none 0 0, .slice none 0 0, .slice none 0 0, .int .i64 0, .string ⟨#[]⟩, .slice none 0 0, .slice none 0 0] 52)).alloc (.cells #[.int .i64 p.params, .bool p.vararg, .int .i64 p.regs, .slice none 0 0, .slice none 0 0, .slice none 0 0, .int .i64 0, .string ⟨#[]⟩, .slice none 0 0, .slice none 0 0] 52)) := by go_grown
  have sz : w.heap.size + 3 ≤ (((w.alloc (.cells #[.int .i64 p.params, .bool p.vararg, .int .i64 p.regs, .slice o3 p.code.n c3, .slice o4 p.consts.n c4, .slice o5 p.ups.n c5, .int .i64 p.kids, .string p.name, .slice o8 p.lines.n c8, .slice o9 p.upNames.n c9] 137)).alloc (.cells #[.int .i64 0, .bool false, .int .i64 0, .slice none 0 0, .slice none 0 0, .slice none 0 0, .int .i64 0, .string ⟨#[]⟩, .slice none 0 0, .slice none 0 0] 52)).alloc (.cells #[.int .i64 p.params, .bool p.vararg, .int .i64 p.regs, .slice none 0 0, .slice none 0 0, .slice none 0 0, .int .i64 0, .string ⟨#[]⟩, .slice none 0 0, .slice none 0 0] 52)).heap.size := by simp
  generalize ((w.alloc (.cells #[.int .i64 p.params, .bool p.vararg, .int .i64 p.regs, .slice o3 p.code.n c3, .slice o4 p.consts.n c4, .slice o5 p.ups.n c5, .int .i64 p.kids, .string p.name, .slice o8 p.lines.n c8, .slice o9 p.upNames.n c9] 137)).alloc (.cells #[.int .i64 0, .bool false, .int .i64 0, .slice none 0 0, .slice none 0 0, .slice none 0 0, .int .i64 0, .string ⟨#[]⟩, .slice none 0 0, .slice none 0 0] 52)).alloc (.cells #[.int .i64 p.params, .bool p.vararg, .int .i64 p.regs, .slice none 0 0, .slice none 0 0, .slice none 0 0, .int .i64 0, .string ⟨#[]⟩, .slice none 0 0, .slice none 0 0] 52) = wx at R0 R1 R2 bw sz ⊢
  refine (toUint32S_in p.code _ _ (p3'.later bw) s3).mono ?_
  rintro e y3 ⟨⟨v3, rfl, i3⟩, b3⟩
  have i3' := i3
  obtain ⟨q3, d3, rfl, -, -⟩ := i3'
  replace i3 : IsArr (fun b => w.heap.size + 3 ≤ b ∧ b < y3.heap.size) y3 _ _ _ _ := i3.mono fun b hb => ⟨by omega, hb.2⟩
  replace R0 := R0.call b3
  replace R1 := R1.call b3
  replace R2 := R2.call b3
  replace bw : Below w.heap.size w y3 := bw.trans (b3.mono bw.size)
  replace sz : w.heap.size + 3 ≤ y3.heap.size := Nat.le_trans sz b3.size
  clear b3
  have x3 := R2.cell 3 rfl
  have z3 := R2.frozen 3
  have u4 := R0.cell 4 rfl
  go_wp2_with fail
  clear x3 z3 u4
  replace i3 := i3.store (a := ⟨w.heap.size + 2, 3, none⟩) (by simp) (.slice q3 p.code.n d3)
  replace R0 := R0.other (a := ⟨w.heap.size + 2, 3, none⟩) (by simp) (.slice q3 p.code.n d3)
  replace R1 := R1.other (a := ⟨w.heap.size + 2, 3, none⟩) (by simp) (.slice q3 p.code.n d3)
  replace R2 := R2.set 3 (.slice q3 p.code.n d3)
  replace bw := bw.setCell (p := ⟨w.heap.size + 2, 3, none⟩) (by simp) (.slice q3 p.code.n d3)
  simp only [List.set] at R2
  replace sz : w.heap.size + 3 ≤ (y3.setCell ⟨w.heap.size + 2, 3, none⟩ (.slice q3 p.code.n d3)).heap.size := by simpa using sz
  generalize (y3.setCell ⟨w.heap.size + 2, 3, none⟩ (.slice q3 p.code.n d3)) = m3 at R0 R1 R2 bw sz i3 ⊢
  refine (toValueS_in p.consts _ _ ⟨p4'.1.later bw, p4'.2⟩ s4).mono ?_
  rintro e y4 ⟨⟨v4, rfl, i4⟩, b4⟩
  obtain ⟨i4, t4⟩ := i4
  have i4' := i4
  obtain ⟨q4, d4, rfl, -, -⟩ := i4'
  replace i4 : IsArr (fun b => w.heap.size + 3 ≤ b ∧ b < y4.heap.size) y4 _ _ _ _ := i4.mono fun b hb => ⟨by omega, hb.2⟩
  replace i3 := i3.call b4
  replace R0 := R0.call b4
  replace R1 := R1.call b4
  replace R2 := R2.call b4
  replace bw : Below w.heap.size w y4 := bw.trans (b4.mono bw.size)
  replace sz : w.heap.size + 3 ≤ y4.heap.size := Nat.le_trans sz b4.size
  clear b4
  have x4 := R2.cell 4 rfl
  have z4 := R2.frozen 4
  have u5 := R0.cell 5 rfl
  go_wp2_with fail
  clear x4 z4 u5
  replace i3 := i3.store (a := ⟨w.heap.size + 2, 4, none⟩) (by simp) (.slice q4 p.consts.n d4)
  replace i4 := i4.store (a := ⟨w.heap.size + 2, 4, none⟩) (by simp) (.slice q4 p.consts.n d4)
  replace R0 := R0.other (a := ⟨w.heap.size + 2, 4, none⟩) (by simp) (.slice q4 p.consts.n d4)
  replace R1 := R1.other (a := ⟨w.heap.size + 2, 4, none⟩) (by simp) (.slice q4 p.consts.n d4)
  replace R2 := R2.set 4 (.slice q4 p.consts.n d4)
  replace bw := bw.setCell (p := ⟨w.heap.size + 2, 4, none⟩) (by simp) (.slice q4 p.consts.n d4)
  simp only [List.set] at R2
  replace sz : w.heap.size + 3 ≤ (y4.setCell ⟨w.heap.size + 2, 4, none⟩ (.slice q4 p.consts.n d4)).heap.size := by simpa using sz
  generalize (y4.setCell ⟨w.heap.size + 2, 4, none⟩ (.slice q4 p.consts.n d4)) = m4 at R0 R1 R2 bw sz i3 i4 ⊢
  refine (toUpS_in p.ups _ _ (p5'.later bw) s5).mono ?_
  rintro e y5 ⟨⟨v5, rfl, i5⟩, b5⟩
  have i5' := i5
  obtain ⟨q5, d5, rfl, -, -⟩ := i5'
  replace i5 : IsArr (fun b => w.heap.size + 3 ≤ b ∧ b < y5.heap.size) y5 _ _ _ _ := i5.mono fun b hb => ⟨by omega, hb.2⟩
  replace i3 := i3.call b5
  replace i4 := i4.call b5
  replace R0 := R0.call b5
  replace R1 := R1.call b5
  replace R2 := R2.call b5
  replace bw : Below w.heap.size w y5 := bw.trans (b5.mono bw.size)
  replace sz : w.heap.size + 3 ≤ y5.heap.size := Nat.le_trans sz b5.size
  clear b5
  have x5 := R2.cell 5 rfl
  have z5 := R2.frozen 5
  have x6 := R2.cell 6 rfl
  have z6 := R2.frozen 6
  have x7 := R2.cell 7 rfl
  have z7 := R2.frozen 7
  have u6 := R0.cell 6 rfl
  have u7 := R0.cell 7 rfl
  have u8 := R0.cell 8 rfl
  go_wp2_with fail
  clear x5 z5 x6 z6 x7 z7 u6 u7 u8
  replace i3 := i3.store (a := ⟨w.heap.size + 2, 5, none⟩) (by simp) (.slice q5 p.ups.n d5)
  replace i4 := i4.store (a := ⟨w.heap.size + 2, 5, none⟩) (by simp) (.slice q5 p.ups.n d5)
  replace i5 := i5.store (a := ⟨w.heap.size + 2, 5, none⟩) (by simp) (.slice q5 p.ups.n d5)
  replace R0 := R0.other (a := ⟨w.heap.size + 2, 5, none⟩) (by simp) (.slice q5 p.ups.n d5)
  replace R1 := R1.other (a := ⟨w.heap.size + 2, 5, none⟩) (by simp) (.slice q5 p.ups.n d5)
  replace R2 := R2.set 5 (.slice q5 p.ups.n d5)
  replace bw := bw.setCell (p := ⟨w.heap.size + 2, 5, none⟩) (by simp) (.slice q5 p.ups.n d5)
  replace i3 := i3.store (a := ⟨w.heap.size + 2, 6, none⟩) (by simp) (.int .i64 p.kids)
  replace i4 := i4.store (a := ⟨w.heap.size + 2, 6, none⟩) (by simp) (.int .i64 p.kids)
  replace i5 := i5.store (a := ⟨w.heap.size + 2, 6, none⟩) (by simp) (.int .i64 p.kids)
  replace R0 := R0.other (a := ⟨w.heap.size + 2, 6, none⟩) (by simp) (.int .i64 p.kids)
  replace R1 := R1.other (a := ⟨w.heap.size + 2, 6, none⟩) (by simp) (.int .i64 p.kids)
  replace R2 := R2.set 6 (.int .i64 p.kids)
  replace bw := bw.setCell (p := ⟨w.heap.size + 2, 6, none⟩) (by simp) (.int .i64 p.kids)
  replace i3 := i3.store (a := ⟨w.heap.size + 2, 7, none⟩) (by simp) (.string p.name)
  replace i4 := i4.store (a := ⟨w.heap.size + 2, 7, none⟩) (by simp) (.string p.name)
  replace i5 := i5.store (a := ⟨w.heap.size + 2, 7, none⟩) (by simp) (.string p.name)
  replace R0 := R0.other (a := ⟨w.heap.size + 2, 7, none⟩) (by simp) (.string p.name)
  replace R1 := R1.other (a := ⟨w.heap.size + 2, 7, none⟩) (by simp) (.string p.name)
  replace R2 := R2.set 7 (.string p.name)
  replace bw := bw.setCell (p := ⟨w.heap.size + 2, 7, none⟩) (by simp) (.string p.name)
  simp only [List.set] at R2
  replace sz : w.heap.size + 3 ≤ (((y5.setCell ⟨w.heap.size + 2, 5, none⟩ (.slice q5 p.ups.n d5)).setCell ⟨w.heap.size + 2, 6, none⟩ (.int .i64 p.kids)).setCell ⟨w.heap.size + 2, 7, none⟩ (.string p.name)).heap.size := by simpa using sz
  generalize (((y5.setCell ⟨w.heap.size + 2, 5, none⟩ (.slice q5 p.ups.n d5)).setCell ⟨w.heap.size + 2, 6, none⟩ (.int .i64 p.kids)).setCell ⟨w.heap.size + 2, 7, none⟩ (.string p.name)) = m5 at R0 R1 R2 bw sz i3 i4 i5 ⊢
  refine (toIntS_in p.lines _ _ (p8'.later bw) s8).mono ?_
  rintro e y8 ⟨⟨v8, rfl, i8⟩, b8⟩
  have i8' := i8
  obtain ⟨q8, d8, rfl, -, -⟩ := i8'
  replace i8 : IsArr (fun b => w.heap.size + 3 ≤ b ∧ b < y8.heap.size) y8 _ _ _ _ := i8.mono fun b hb => ⟨by omega, hb.2⟩
  replace i3 := i3.call b8
  replace i4 := i4.call b8
  replace i5 := i5.call b8
  replace R0 := R0.call b8
  replace R1 := R1.call b8
  replace R2 := R2.call b8
  replace bw : Below w.heap.size w y8 := bw.trans (b8.mono bw.size)
  replace sz : w.heap.size + 3 ≤ y8.heap.size := Nat.le_trans sz b8.size
  clear b8
  have x8 := R2.cell 8 rfl
  have z8 := R2.frozen 8
  have u9 := R0.cell 9 rfl
  go_wp2_with fail
  clear x8 z8 u9
  replace i3 := i3.store (a := ⟨w.heap.size + 2, 8, none⟩) (by simp) (.slice q8 p.lines.n d8)
  replace i4 := i4.store (a := ⟨w.heap.size + 2, 8, none⟩) (by simp) (.slice q8 p.lines.n d8)
  replace i5 := i5.store (a := ⟨w.heap.size + 2, 8, none⟩) (by simp) (.slice q8 p.lines.n d8)
  replace i8 := i8.store (a := ⟨w.heap.size + 2, 8, none⟩) (by simp) (.slice q8 p.lines.n d8)
  replace R0 := R0.other (a := ⟨w.heap.size + 2, 8, none⟩) (by simp) (.slice q8 p.lines.n d8)
  replace R1 := R1.other (a := ⟨w.heap.size + 2, 8, none⟩) (by simp) (.slice q8 p.lines.n d8)
  replace R2 := R2.set 8 (.slice q8 p.lines.n d8)
  replace bw := bw.setCell (p := ⟨w.heap.size + 2, 8, none⟩) (by simp) (.slice q8 p.lines.n d8)
  simp only [List.set] at R2
  replace sz : w.heap.size + 3 ≤ (y8.setCell ⟨w.heap.size + 2, 8, none⟩ (.slice q8 p.lines.n d8)).heap.size := by simpa using sz
  generalize (y8.setCell ⟨w.heap.size + 2, 8, none⟩ (.slice q8 p.lines.n d8)) = m8 at R0 R1 R2 bw sz i3 i4 i5 i8 ⊢
  refine (toStringS_in p.upNames _ _ ⟨p9'.1.later bw, p9'.2⟩ s9).mono ?_
  rintro e y9 ⟨⟨v9, rfl, i9⟩, b9⟩
  obtain ⟨i9, t9⟩ := i9
  have i9' := i9
  obtain ⟨q9, d9, rfl, -, -⟩ := i9'
  replace i9 : IsArr (fun b => w.heap.size + 3 ≤ b ∧ b < y9.heap.size) y9 _ _ _ _ := i9.mono fun b hb => ⟨by omega, hb.2⟩
  replace i3 := i3.call b9
  replace i4 := i4.call b9
  replace i5 := i5.call b9
  replace i8 := i8.call b9
  replace R0 := R0.call b9
  replace R1 := R1.call b9
  replace R2 := R2.call b9
  replace bw : Below w.heap.size w y9 := bw.trans (b9.mono bw.size)
  replace sz : w.heap.size + 3 ≤ y9.heap.size := Nat.le_trans sz b9.size
  clear b9
  have x9 := R2.cell 9 rfl
  have z9 := R2.frozen 9
  have x0 := R2.cell 0 rfl
  have o0 := R1.cell 0 rfl
  have f0 := R1.frozen 0
  have x1 := R2.cell 1 rfl
  have o1 := R1.cell 1 rfl
  have f1 := R1.frozen 1
  have x2 := R2.cell 2 rfl
  have o2 := R1.cell 2 rfl
  have f2 := R1.frozen 2
  have x3 := R2.cell 3 rfl
  have o3 := R1.cell 3 rfl
  have f3 := R1.frozen 3
  have x4 := R2.cell 4 rfl
  have o4 := R1.cell 4 rfl
  have f4 := R1.frozen 4
  have x5 := R2.cell 5 rfl
  have o5 := R1.cell 5 rfl
  have f5 := R1.frozen 5
  have x6 := R2.cell 6 rfl
  have o6 := R1.cell 6 rfl
  have f6 := R1.frozen 6
  have x7 := R2.cell 7 rfl
  have o7 := R1.cell 7 rfl
  have f7 := R1.frozen 7
  have x8 := R2.cell 8 rfl
  have o8 := R1.cell 8 rfl
  have f8 := R1.frozen 8
  have o9 := R1.cell 9 rfl
  have f9 := R1.frozen 9
  go_wp2_with fail
  clear x0 o0 f0 x1 o1 f1 x2 o2 f2 x3 o3 f3 x4 o4 f4 x5 o5 f5 x6 o6 f6 x7 o7 f7 x8 o8 f8 x9 o9 f9 z9
  clear R0 R2
  replace i3 := i3.store (a := ⟨w.heap.size + 2, 9, none⟩) (by simp) (.slice q9 p.upNames.n d9)
  replace i4 := i4.store (a := ⟨w.heap.size + 2, 9, none⟩) (by simp) (.slice q9 p.upNames.n d9)
  replace i5 := i5.store (a := ⟨w.heap.size + 2, 9, none⟩) (by simp) (.slice q9 p.upNames.n d9)
  replace i8 := i8.store (a := ⟨w.heap.size + 2, 9, none⟩) (by simp) (.slice q9 p.upNames.n d9)
  replace i9 := i9.store (a := ⟨w.heap.size + 2, 9, none⟩) (by simp) (.slice q9 p.upNames.n d9)
  replace R1 := R1.other (a := ⟨w.heap.size + 2, 9, none⟩) (by simp) (.slice q9 p.upNames.n d9)
  replace bw := bw.setCell (p := ⟨w.heap.size + 2, 9, none⟩) (by simp) (.slice q9 p.upNames.n d9)
  replace i3 := i3.store (a := ⟨w.heap.size + 1, 0, none⟩) (by simp) (.int .i64 p.params)
  replace i4 := i4.store (a := ⟨w.heap.size + 1, 0, none⟩) (by simp) (.int .i64 p.params)
  replace i5 := i5.store (a := ⟨w.heap.size + 1, 0, none⟩) (by simp) (.int .i64 p.params)
  replace i8 := i8.store (a := ⟨w.heap.size + 1, 0, none⟩) (by simp) (.int .i64 p.params)
  replace i9 := i9.store (a := ⟨w.heap.size + 1, 0, none⟩) (by simp) (.int .i64 p.params)
  replace R1 := R1.set 0 (.int .i64 p.params)
  replace bw := bw.setCell (p := ⟨w.heap.size + 1, 0, none⟩) (by simp) (.int .i64 p.params)
  replace i3 := i3.store (a := ⟨w.heap.size + 1, 1, none⟩) (by simp) (.bool p.vararg)
  replace i4 := i4.store (a := ⟨w.heap.size + 1, 1, none⟩) (by simp) (.bool p.vararg)
  replace i5 := i5.store (a := ⟨w.heap.size + 1, 1, none⟩) (by simp) (.bool p.vararg)
  replace i8 := i8.store (a := ⟨w.heap.size + 1, 1, none⟩) (by simp) (.bool p.vararg)
  replace i9 := i9.store (a := ⟨w.heap.size + 1, 1, none⟩) (by simp) (.bool p.vararg)
  replace R1 := R1.set 1 (.bool p.vararg)
  replace bw := bw.setCell (p := ⟨w.heap.size + 1, 1, none⟩) (by simp) (.bool p.vararg)
  replace i3 := i3.store (a := ⟨w.heap.size + 1, 2, none⟩) (by simp) (.int .i64 p.regs)
  replace i4 := i4.store (a := ⟨w.heap.size + 1, 2, none⟩) (by simp) (.int .i64 p.regs)
  replace i5 := i5.store (a := ⟨w.heap.size + 1, 2, none⟩) (by simp) (.int .i64 p.regs)
  replace i8 := i8.store (a := ⟨w.heap.size + 1, 2, none⟩) (by simp) (.int .i64 p.regs)
  replace i9 := i9.store (a := ⟨w.heap.size + 1, 2, none⟩) (by simp) (.int .i64 p.regs)
  replace R1 := R1.set 2 (.int .i64 p.regs)
  replace bw := bw.setCell (p := ⟨w.heap.size + 1, 2, none⟩) (by simp) (.int .i64 p.regs)
  replace i3 := i3.store (a := ⟨w.heap.size + 1, 3, none⟩) (by simp) (.slice q3 p.code.n d3)
  replace i4 := i4.store (a := ⟨w.heap.size + 1, 3, none⟩) (by simp) (.slice q3 p.code.n d3)
  replace i5 := i5.store (a := ⟨w.heap.size + 1, 3, none⟩) (by simp) (.slice q3 p.code.n d3)
  replace i8 := i8.store (a := ⟨w.heap.size + 1, 3, none⟩) (by simp) (.slice q3 p.code.n d3)
  replace i9 := i9.store (a := ⟨w.heap.size + 1, 3, none⟩) (by simp) (.slice q3 p.code.n d3)
  replace R1 := R1.set 3 (.slice q3 p.code.n d3)
  replace bw := bw.setCell (p := ⟨w.heap.size + 1, 3, none⟩) (by simp) (.slice q3 p.code.n d3)
  replace i3 := i3.store (a := ⟨w.heap.size + 1, 4, none⟩) (by simp) (.slice q4 p.consts.n d4)
  replace i4 := i4.store (a := ⟨w.heap.size + 1, 4, none⟩) (by simp) (.slice q4 p.consts.n d4)
  replace i5 := i5.store (a := ⟨w.heap.size + 1, 4, none⟩) (by simp) (.slice q4 p.consts.n d4)
  replace i8 := i8.store (a := ⟨w.heap.size + 1, 4, none⟩) (by simp) (.slice q4 p.consts.n d4)
  replace i9 := i9.store (a := ⟨w.heap.size + 1, 4, none⟩) (by simp) (.slice q4 p.consts.n d4)
  replace R1 := R1.set 4 (.slice q4 p.consts.n d4)
  replace bw := bw.setCell (p := ⟨w.heap.size + 1, 4, none⟩) (by simp) (.slice q4 p.consts.n d4)
  replace i3 := i3.store (a := ⟨w.heap.size + 1, 5, none⟩) (by simp) (.slice q5 p.ups.n d5)
  replace i4 := i4.store (a := ⟨w.heap.size + 1, 5, none⟩) (by simp) (.slice q5 p.ups.n d5)
  replace i5 := i5.store (a := ⟨w.heap.size + 1, 5, none⟩) (by simp) (.slice q5 p.ups.n d5)
  replace i8 := i8.store (a := ⟨w.heap.size + 1, 5, none⟩) (by simp) (.slice q5 p.ups.n d5)
  replace i9 := i9.store (a := ⟨w.heap.size + 1, 5, none⟩) (by simp) (.slice q5 p.ups.n d5)
  replace R1 := R1.set 5 (.slice q5 p.ups.n d5)
  replace bw := bw.setCell (p := ⟨w.heap.size + 1, 5, none⟩) (by simp) (.slice q5 p.ups.n d5)
  replace i3 := i3.store (a := ⟨w.heap.size + 1, 6, none⟩) (by simp) (.int .i64 p.kids)
  replace i4 := i4.store (a := ⟨w.heap.size + 1, 6, none⟩) (by simp) (.int .i64 p.kids)
  replace i5 := i5.store (a := ⟨w.heap.size + 1, 6, none⟩) (by simp) (.int .i64 p.kids)
  replace i8 := i8.store (a := ⟨w.heap.size + 1, 6, none⟩) (by simp) (.int .i64 p.kids)
  replace i9 := i9.store (a := ⟨w.heap.size + 1, 6, none⟩) (by simp) (.int .i64 p.kids)
  replace R1 := R1.set 6 (.int .i64 p.kids)
  replace bw := bw.setCell (p := ⟨w.heap.size + 1, 6, none⟩) (by simp) (.int .i64 p.kids)
  replace i3 := i3.store (a := ⟨w.heap.size + 1, 7, none⟩) (by simp) (.string p.name)
  replace i4 := i4.store (a := ⟨w.heap.size + 1, 7, none⟩) (by simp) (.string p.name)
  replace i5 := i5.store (a := ⟨w.heap.size + 1, 7, none⟩) (by simp) (.string p.name)
  replace i8 := i8.store (a := ⟨w.heap.size + 1, 7, none⟩) (by simp) (.string p.name)
  replace i9 := i9.store (a := ⟨w.heap.size + 1, 7, none⟩) (by simp) (.string p.name)
  replace R1 := R1.set 7 (.string p.name)
  replace bw := bw.setCell (p := ⟨w.heap.size + 1, 7, none⟩) (by simp) (.string p.name)
  replace i3 := i3.store (a := ⟨w.heap.size + 1, 8, none⟩) (by simp) (.slice q8 p.lines.n d8)
  replace i4 := i4.store (a := ⟨w.heap.size + 1, 8, none⟩) (by simp) (.slice q8 p.lines.n d8)
  replace i5 := i5.store (a := ⟨w.heap.size + 1, 8, none⟩) (by simp) (.slice q8 p.lines.n d8)
  replace i8 := i8.store (a := ⟨w.heap.size + 1, 8, none⟩) (by simp) (.slice q8 p.lines.n d8)
  replace i9 := i9.store (a := ⟨w.heap.size + 1, 8, none⟩) (by simp) (.slice q8 p.lines.n d8)
  replace R1 := R1.set 8 (.slice q8 p.lines.n d8)
  replace bw := bw.setCell (p := ⟨w.heap.size + 1, 8, none⟩) (by simp) (.slice q8 p.lines.n d8)
  replace i3 := i3.store (a := ⟨w.heap.size + 1, 9, none⟩) (by simp) (.slice q9 p.upNames.n d9)
  replace i4 := i4.store (a := ⟨w.heap.size + 1, 9, none⟩) (by simp) (.slice q9 p.upNames.n d9)
  replace i5 := i5.store (a := ⟨w.heap.size + 1, 9, none⟩) (by simp) (.slice q9 p.upNames.n d9)
  replace i8 := i8.store (a := ⟨w.heap.size + 1, 9, none⟩) (by simp) (.slice q9 p.upNames.n d9)
  replace i9 := i9.store (a := ⟨w.heap.size + 1, 9, none⟩) (by simp) (.slice q9 p.upNames.n d9)
  replace R1 := R1.set 9 (.slice q9 p.upNames.n d9)
  replace bw := bw.setCell (p := ⟨w.heap.size + 1, 9, none⟩) (by simp) (.slice q9 p.upNames.n d9)
  simp only [List.set] at R1
  generalize (((((((((((y9.setCell ⟨w.heap.size + 2, 9, none⟩ (.slice q9 p.upNames.n d9)).setCell ⟨w.heap.size + 1, 0, none⟩ (.int .i64 p.params)).setCell ⟨w.heap.size + 1, 1, none⟩ (.bool p.vararg)).setCell ⟨w.heap.size + 1, 2, none⟩ (.int .i64 p.regs)).setCell ⟨w.heap.size + 1, 3, none⟩ (.slice q3 p.code.n d3)).setCell ⟨w.heap.size + 1, 4, none⟩ (.slice q4 p.consts.n d4)).setCell ⟨w.heap.size + 1, 5, none⟩ (.slice q5 p.ups.n d5)).setCell ⟨w.heap.size + 1, 6, none⟩ (.int .i64 p.kids)).setCell ⟨w.heap.size + 1, 7, none⟩ (.string p.name)).setCell ⟨w.heap.size + 1, 8, none⟩ (.slice q8 p.lines.n d8)).setCell ⟨w.heap.size + 1, 9, none⟩ (.slice q9 p.upNames.n d9)) = wf at R1 bw i3 i4 i5 i8 i9 ⊢
  have o0 := R1.cell 0 rfl
  have o1 := R1.cell 1 rfl
  have o2 := R1.cell 2 rfl
  have o3 := R1.cell 3 rfl
  have o4 := R1.cell 4 rfl
  have o5 := R1.cell 5 rfl
  have o6 := R1.cell 6 rfl
  have o7 := R1.cell 7 rfl
  have o8 := R1.cell 8 rfl
  have o9 := R1.cell 9 rfl
  refine bodyPost_ret (v := .agg #[(.int .i64 p.params), (.bool p.vararg), (.int .i64 p.regs), (.slice q3 p.code.n d3), (.slice q4 p.consts.n d4), (.slice q5 p.ups.n d5), (.int .i64 p.kids), (.string p.name), (.slice q8 p.lines.n d8), (.slice q9 p.upNames.n d9)]) (by simp [results, Tryz.results73, go_sem, o0, o1, o2, o3, o4, o5, o6, o7, o8, o9]) rfl ?_
  exact ⟨_, _, _, _, _, rfl, ⟨i3.mono fun b hb => ⟨by omega, hb.2⟩, ⟨i4.mono fun b hb => ⟨by omega, hb.2⟩, t4⟩, i5.mono fun b hb => ⟨by omega, hb.2⟩, i8.mono fun b hb => ⟨by omega, hb.2⟩, ⟨i9.mono fun b hb => ⟨by omega, hb.2⟩, t9⟩, pn⟩, bw⟩
end
section
open Go.RowKit
set_option linter.unusedVariables false
set_option linter.unusedSimpArgs false
theorem IsProto.call {lo : Nat} {w w' : World} {a3 a4 a5 a8 a9 : Value} {p : PD} (h : IsProto (fun b => lo ≤ b ∧ b < w.heap.size) w a3 a4 a5 a8 a9 p) (hb : Below w.heap.size w w') : IsProto (fun b => lo ≤ b ∧ b < w'.heap.size) w' a3 a4 a5 a8 a9 p :=
  (h.keep fun b hb' => hb.block b hb'.2).mono fun b hb' => ⟨hb'.1, Nat.lt_of_lt_of_le hb'.2 hb.size⟩
theorem IsProto.store {lo : Nat} {w : World} {a3 a4 a5 a8 a9 : Value} {p : PD} (h : IsProto (fun b => lo ≤ b ∧ b < w.heap.size) w a3 a4 a5 a8 a9 p) {a : Addr} (ha : a.block < lo) (u : Value) : IsProto (fun b => lo ≤ b ∧ b < (w.setCell a u).heap.size) (w.setCell a u) a3 a4 a5 a8 a9 p := by
  refine (h.keep (w' := w.setCell a u) fun b hb' => Below.heap_setCell w a u b (by omega)).mono fun b hb' => ⟨hb'.1, ?_⟩
  rw [World.size_setCell]
  exact hb'.2
/-- the part of the new chunk that is made. -/
def Made (w : World) (lo B n i : Nat) (f : Nat → PD) : Prop :=
  ∃ (g : Nat → Value) (a3 a4 a5 a8 a9 : Nat → Value), w.rowIs B 52 (n * 10) g ∧ Filled g 10 i (pC f a3 a4 a5 a8 a9) ∧ ∀ j, j < i → IsProto (fun b => lo ≤ b ∧ b < w.heap.size) w (a3 j) (a4 j) (a5 j) (a8 j) (a9 j) (f j)
theorem Made.call {w w' : World} {lo B n i : Nat} {f : Nat → PD} (h : Made w lo B n i f) (hb : Below w.heap.size w w') : Made w' lo B n i f := by
  obtain ⟨g, a3, a4, a5, a8, a9, h1, h2, h3⟩ := h
  exact ⟨g, a3, a4, a5, a8, a9, h1.of_block (hb.block _ h1.lt), h2, fun j hj => (h3 j hj).call hb⟩

theorem Made.step {w : World} {lo B n i : Nat} {f : Nat → PD} {b3 b4 b5 b8 b9 : Value} (h : Made w lo B n i f) (hi : i < n) (hB : B < lo) (hp : IsProto (fun b => lo ≤ b ∧ b < w.heap.size) w b3 b4 b5 b8 b9 (f i)) :
    Made ((((((((((w.setCell ⟨B, i * 10, none⟩ (.int .i64 (f i).params)).setCell ⟨B, i * 10 + 1, none⟩ (.bool (f i).vararg)).setCell ⟨B, i * 10 + 2, none⟩ (.int .i64 (f i).regs)).setCell ⟨B, i * 10 + 3, none⟩ (b3)).setCell ⟨B, i * 10 + 4, none⟩ (b4)).setCell ⟨B, i * 10 + 5, none⟩ (b5)).setCell ⟨B, i * 10 + 6, none⟩ (.int .i64 (f i).kids)).setCell ⟨B, i * 10 + 7, none⟩ (.string (f i).name)).setCell ⟨B, i * 10 + 8, none⟩ (b8)).setCell ⟨B, i * 10 + 9, none⟩ (b9)) lo B n (i + 1) f := by
  obtain ⟨g, a3, a4, a5, a8, a9, h1, h2, h3⟩ := h
  have hrow := ((((((((((h1.set (i * 10) (.int .i64 (f i).params)).set (i * 10 + 1) (.bool (f i).vararg)).set (i * 10 + 2) (.int .i64 (f i).regs)).set (i * 10 + 3) (b3)).set (i * 10 + 4) (b4)).set (i * 10 + 5) (b5)).set (i * 10 + 6) (.int .i64 (f i).kids)).set (i * 10 + 7) (.string (f i).name)).set (i * 10 + 8) (b8)).set (i * 10 + 9) (b9))
  have hnew := ((((((((((hp.store (a := ⟨B, i * 10, none⟩) hB (.int .i64 (f i).params)).store (a := ⟨B, i * 10 + 1, none⟩) hB (.bool (f i).vararg)).store (a := ⟨B, i * 10 + 2, none⟩) hB (.int .i64 (f i).regs)).store (a := ⟨B, i * 10 + 3, none⟩) hB (b3)).store (a := ⟨B, i * 10 + 4, none⟩) hB (b4)).store (a := ⟨B, i * 10 + 5, none⟩) hB (b5)).store (a := ⟨B, i * 10 + 6, none⟩) hB (.int .i64 (f i).kids)).store (a := ⟨B, i * 10 + 7, none⟩) hB (.string (f i).name)).store (a := ⟨B, i * 10 + 8, none⟩) hB (b8)).store (a := ⟨B, i * 10 + 9, none⟩) hB (b9))
  have hold := fun j (hj : j < i) => (((((((((((h3 j hj).store (a := ⟨B, i * 10, none⟩) hB (.int .i64 (f i).params)).store (a := ⟨B, i * 10 + 1, none⟩) hB (.bool (f i).vararg)).store (a := ⟨B, i * 10 + 2, none⟩) hB (.int .i64 (f i).regs)).store (a := ⟨B, i * 10 + 3, none⟩) hB (b3)).store (a := ⟨B, i * 10 + 4, none⟩) hB (b4)).store (a := ⟨B, i * 10 + 5, none⟩) hB (b5)).store (a := ⟨B, i * 10 + 6, none⟩) hB (.int .i64 (f i).kids)).store (a := ⟨B, i * 10 + 7, none⟩) hB (.string (f i).name)).store (a := ⟨B, i * 10 + 8, none⟩) hB (b8)).store (a := ⟨B, i * 10 + 9, none⟩) hB (b9))
  refine ⟨_, fun k => if k = i then b3 else a3 k, fun k => if k = i then b4 else a4 k, fun k => if k = i then b5 else a5 k, fun k => if k = i then b8 else a8 k, fun k => if k = i then b9 else a9 k, hrow, ?_, ?_⟩
  · intro k hk j hj
    by_cases hki : k = i
    · subst hki
      rcases (show j = 0 ∨ j = 1 ∨ j = 2 ∨ j = 3 ∨ j = 4 ∨ j = 5 ∨ j = 6 ∨ j = 7 ∨ j = 8 ∨ j = 9 by omega) with rfl | rfl | rfl | rfl | rfl | rfl | rfl | rfl | rfl | rfl <;> simp [pC]
    · have := h2 k (by omega) j hj
      dsimp only
      rw [if_neg (show k * 10 + j ≠ i * 10 + 9 by omega)]
      rw [if_neg (show k * 10 + j ≠ i * 10 + 8 by omega)]
      rw [if_neg (show k * 10 + j ≠ i * 10 + 7 by omega)]
      rw [if_neg (show k * 10 + j ≠ i * 10 + 6 by omega)]
      rw [if_neg (show k * 10 + j ≠ i * 10 + 5 by omega)]
      rw [if_neg (show k * 10 + j ≠ i * 10 + 4 by omega)]
      rw [if_neg (show k * 10 + j ≠ i * 10 + 3 by omega)]
      rw [if_neg (show k * 10 + j ≠ i * 10 + 2 by omega)]
      rw [if_neg (show k * 10 + j ≠ i * 10 + 1 by omega)]
      rw [if_neg (show k * 10 + j ≠ i * 10 by omega)]
      rw [this]
      simp only [pC, if_neg hki]
  · intro j hj
    by_cases hji : j = i
    · subst hji
      simpa only [if_true] using hnew
    · simp only [if_neg hji]
      exact hold j (by omega)
set_option maxRecDepth 100000 in
set_option maxHeartbeats 2000000 in
theorem toProtoS_in (s : Sl PD) (v : Value) (w : World) (hv : IsProtos (· < w.heap.size) w v s) (hs : SmallC s) :
    Calls Tryz.prog 31 #[v] w fun e w' => (∃ v', e = .returned v' ∧ IsProtos (fun b => w.heap.size ≤ b ∧ b < w'.heap.size) w' v' s) ∧ Below w.heap.size w w' := by
  obtain ⟨a3, a4, a5, a8, a9, ⟨ao, cap, rfl, hn, hc⟩, ht⟩ := hv
  obtain ⟨n, f⟩ := s
  obtain ⟨hs, hss⟩ := hs
  simp only at hn hc ht hs hss ⊢
  have hmk := run_make_rows 22 52 (.agg #[.int .i64 0, .bool false, .int .i64 0, .slice none 0 0, .slice none 0 0, .slice none 0 0, .int .i64 0, .string ⟨#[]⟩, .slice none 0 0, .slice none 0 0]) 10 168 Tryz.underlying22 (by kernel_rfl) n (by omega) hn
  go_enter Tryz.func31, Tryz.ntmps31
  go_wp2_with fail
  obtain ⟨g0, hg0⟩ := rowIs_madeW w (.agg #[.int .i64 0, .bool false, .int .i64 0, .slice none 0 0, .slice none 0 0, .slice none 0 0, .int .i64 0, .string ⟨#[]⟩, .slice none 0 0, .slice none 0 0]) n 10 52
  have bw0 := below_madeW w (.agg #[.int .i64 0, .bool false, .int .i64 0, .slice none 0 0, .slice none 0 0, .slice none 0 0, .int .i64 0, .string ⟨#[]⟩, .slice none 0 0, .slice none 0 0]) n 10 52
  generalize madeW w (.agg #[.int .i64 0, .bool false, .int .i64 0, .slice none 0 0, .slice none 0 0, .slice none 0 0, .int .i64 0, .string ⟨#[]⟩, .slice none 0 0, .slice none 0 0]) n 10 52 = w0 at hg0 bw0 ⊢
  clear hmk
  go_loopw [4] (fun i wr => ∃ (i' : Nat), i = .int .i64 i' ∧ i' ≤ n ∧ Below w.heap.size w wr ∧ Hid (Made wr (w.heap.size + 1) w.heap.size n i' f)) (fun i _ => n - (intOf i).toNat)
  case atStart => exact ⟨0, rfl, by omega, bw0, g0, a3, a3, a3, a3, a3, hg0, fun i hi => by omega, fun i hi => by omega⟩
  case round =>
    obtain ⟨i', rfl, q3, q4, q5⟩ := hrel
    by_cases hi : i' < n
    · obtain ⟨b, o, rfl, hb, hcc⟩ := hc (by omega)
      have hbl : b < w.heap.size := hb
      have hne : b ≠ w.heap.size := by omega
      have c0 := hcc i' hi 0 (by omega)
      have c1 := hcc i' hi 1 (by omega)
      have c2 := hcc i' hi 2 (by omega)
      have c3 := hcc i' hi 3 (by omega)
      have c4 := hcc i' hi 4 (by omega)
      have c5 := hcc i' hi 5 (by omega)
      have c6 := hcc i' hi 6 (by omega)
      have c7 := hcc i' hi 7 (by omega)
      have c8 := hcc i' hi 8 (by omega)
      have c9 := hcc i' hi 9 (by omega)
      rw [← q4.cell (p := ⟨b, _, none⟩) hb] at c0 c1 c2 c3 c4 c5 c6 c7 c8 c9
      simp only [Nat.add_zero, Nat.mul_one, pC] at c0 c1 c2 c3 c4 c5 c6 c7 c8 c9
      have hti : IsProto (· < wr.heap.size) wr (a3 i') (a4 i') (a5 i') (a8 i') (a9 i') (f i') := (ht i' hi).later q4
      have hsi := hss i' hi
      have hBlt : w.heap.size < wr.heap.size := by
        obtain ⟨g, _, _, _, _, _, h1, _, _⟩ := q5.out
        exact h1.lt
      clear hcc hc ht hss
      go_wp2_with fail
      refine (toProto_in (f i') (a3 i') (a4 i') (a5 i') (a8 i') (a9 i') _ hti hsi).mono ?_
      rintro e w1 ⟨b3, b4, b5, b8, b9, rfl, hp, b1⟩
      have hb1 : Below w.heap.size w w1 := q4.trans (b1.mono q4.size)
      have q6 : Hid (Made w1 (w.heap.size + 1) w.heap.size n i' f) := q5.out.call b1
      have hp' : Hid (IsProto (fun b => w.heap.size + 1 ≤ b ∧ b < w1.heap.size) w1 b3 b4 b5 b8 b9 (f i')) := hp.mono fun b hb => ⟨by omega, hb.2⟩
      obtain ⟨⟨x3, y3, rfl, -, -⟩, ⟨⟨x4, y4, rfl, -, -⟩, -⟩, ⟨x5, y5, rfl, -, -⟩, ⟨x8, y8, rfl, -, -⟩, ⟨⟨x9, y9, rfl, -, -⟩, -⟩, -⟩ := hp
      clear c0 c1 c2 c3 c4 c5 c6 c7 c8 c9 hti hsi q5
      unfold pAgg
      obtain ⟨g, -, -, -, -, -, hrow, -, -⟩ := id q6.out
      have d0 := hrow.cell (lt_mul_of (z := 10) hi (show 0 < 10 by omega))
      have e0 := hrow.frozen (i' * 10 + 0)
      have d1 := hrow.cell (lt_mul_of (z := 10) hi (show 1 < 10 by omega))
      have e1 := hrow.frozen (i' * 10 + 1)
      have d2 := hrow.cell (lt_mul_of (z := 10) hi (show 2 < 10 by omega))
      have e2 := hrow.frozen (i' * 10 + 2)
      have d3 := hrow.cell (lt_mul_of (z := 10) hi (show 3 < 10 by omega))
      have e3 := hrow.frozen (i' * 10 + 3)
      have d4 := hrow.cell (lt_mul_of (z := 10) hi (show 4 < 10 by omega))
      have e4 := hrow.frozen (i' * 10 + 4)
      have d5 := hrow.cell (lt_mul_of (z := 10) hi (show 5 < 10 by omega))
      have e5 := hrow.frozen (i' * 10 + 5)
      have d6 := hrow.cell (lt_mul_of (z := 10) hi (show 6 < 10 by omega))
      have e6 := hrow.frozen (i' * 10 + 6)
      have d7 := hrow.cell (lt_mul_of (z := 10) hi (show 7 < 10 by omega))
      have e7 := hrow.frozen (i' * 10 + 7)
      have d8 := hrow.cell (lt_mul_of (z := 10) hi (show 8 < 10 by omega))
      have e8 := hrow.frozen (i' * 10 + 8)
      have d9 := hrow.cell (lt_mul_of (z := 10) hi (show 9 < 10 by omega))
      have e9 := hrow.frozen (i' * 10 + 9)
      simp only [Nat.add_zero] at d0 e0 d1 e1 d2 e2 d3 e3 d4 e4 d5 e5 d6 e6 d7 e7 d8 e8 d9 e9
      clear hrow
      go_wp2_with fail
      go_roundw
      case rel =>
        refine ⟨i' + 1, rfl, by omega, ?_, ?_⟩
        · exact ((((((((((hb1.setCell (p := ⟨w.heap.size, i' * 10, none⟩) (Nat.le_refl _) (.int .i64 (f i').params)).setCell (p := ⟨w.heap.size, i' * 10 + 1, none⟩) (Nat.le_refl _) (.bool (f i').vararg)).setCell (p := ⟨w.heap.size, i' * 10 + 2, none⟩) (Nat.le_refl _) (.int .i64 (f i').regs)).setCell (p := ⟨w.heap.size, i' * 10 + 3, none⟩) (Nat.le_refl _) (.slice x3 (f i').code.n y3)).setCell (p := ⟨w.heap.size, i' * 10 + 4, none⟩) (Nat.le_refl _) (.slice x4 (f i').consts.n y4)).setCell (p := ⟨w.heap.size, i' * 10 + 5, none⟩) (Nat.le_refl _) (.slice x5 (f i').ups.n y5)).setCell (p := ⟨w.heap.size, i' * 10 + 6, none⟩) (Nat.le_refl _) (.int .i64 (f i').kids)).setCell (p := ⟨w.heap.size, i' * 10 + 7, none⟩) (Nat.le_refl _) (.string (f i').name)).setCell (p := ⟨w.heap.size, i' * 10 + 8, none⟩) (Nat.le_refl _) (.slice x8 (f i').lines.n y8)).setCell (p := ⟨w.heap.size, i' * 10 + 9, none⟩) (Nat.le_refl _) (.slice x9 (f i').upNames.n y9))
        · exact q6.out.step hi (by omega) hp'.out
      case measure => simp [intOf]; omega
    · obtain rfl : i' = n := by omega
      obtain ⟨g, x3, x4, x5, x8, x9, h1, h2, h3⟩ := id q5.out
      have hfin : Hid (IsProtos (fun b => w.heap.size ≤ b ∧ b < wr.heap.size) wr (.slice (some ⟨w.heap.size, 0, none⟩) i' i') ⟨i', f⟩) :=
        ⟨x3, x4, x5, x8, x9, isArr_of_row h1 h2 ⟨Nat.le_refl _, h1.lt⟩ hn, fun j hj => (h3 j hj).mono fun b hb => ⟨by omega, hb.2⟩⟩
      clear h1 h2 h3 q5
      go_wp2_with fail
      go_ret
      exact ⟨⟨_, rfl, hfin.out⟩, q4⟩

theorem toChunk_in (s : Sl PD) (v : Value) (w : World) (hv : IsProtos (· < w.heap.size) w v s) (hs : SmallC s) :
    Calls Tryz.prog 13 #[.agg #[v]] w fun e w' => (∃ v', e = .returned (.agg #[v']) ∧ IsProtos (fun b => w.heap.size ≤ b ∧ b < w'.heap.size) w' v' s) ∧ Below w.heap.size w w' := by
  have hv' := hv
  obtain ⟨a3, a4, a5, a8, a9, ⟨ao, cap, rfl, hn, hc⟩, ht⟩ := hv
  clear hc ht
  go_enter Tryz.func13, Tryz.ntmps13
  go_wp2_with fail
  have R1 : RowL (((w.alloc (.cells #[.slice ao s.n cap] 32)).alloc (.cells #[.slice none 0 0] 24)).alloc (.cells #[.slice none 0 0] 24)) (w.heap.size + 1) 24 [.slice none 0 0] := by
    have := (RowL.new (w.alloc (.cells #[.slice ao s.n cap] 32)) [.slice none 0 0] 24).alloc (.cells #[.slice none 0 0] 24)
    rwa [World.size_alloc] at this
  have R2 : RowL (((w.alloc (.cells #[.slice ao s.n cap] 32)).alloc (.cells #[.slice none 0 0] 24)).alloc (.cells #[.slice none 0 0] 24)) (w.heap.size + 2) 24 [.slice none 0 0] := by
    have := RowL.new ((w.alloc (.cells #[.slice ao s.n cap] 32)).alloc (.cells #[.slice none 0 0] 24)) [.slice none 0 0] 24
    rwa [World.size_alloc, World.size_alloc] at this
  have bw : Below w.heap.size w (((w.alloc (.cells #[.slice ao s.n cap] 32)).alloc (.cells #[.slice none 0 0] 24)).alloc (.cells #[.slice none 0 0] 24)) := by go_grown
  have sz : w.heap.size + 3 ≤ (((w.alloc (.cells #[.slice ao s.n cap] 32)).alloc (.cells #[.slice none 0 0] 24)).alloc (.cells #[.slice none 0 0] 24)).heap.size := by simp
  generalize ((w.alloc (.cells #[.slice ao s.n cap] 32)).alloc (.cells #[.slice none 0 0] 24)).alloc (.cells #[.slice none 0 0] 24) = wx at R1 R2 bw sz ⊢
  refine (toProtoS_in s _ _ (hv'.later bw) hs).mono ?_
  rintro e y ⟨⟨v, rfl, hp⟩, b1⟩
  replace R1 := R1.call b1
  replace R2 := R2.call b1
  replace bw := bw.trans (b1.mono bw.size)
  have hp' : Hid (IsProtos (fun b => w.heap.size + 3 ≤ b ∧ b < y.heap.size) y v s) := hp.mono fun b hb => ⟨by omega, hb.2⟩
  obtain ⟨-, -, -, -, -, ⟨ao', cap', rfl, -, -⟩, -⟩ := hp
  have x0 := R2.cell 0 rfl
  have z0 := R2.frozen 0
  have o0 := R1.cell 0 rfl
  have f0 := R1.frozen 0
  go_wp2_with fail
  refine bodyPost_ret (v := .agg #[.slice ao' s.n cap']) (by simp [results, Tryz.results13, go_sem, o0]) rfl ⟨⟨_, rfl, ?_⟩, ?_⟩
  · refine (hp'.out.keep (w' := (y.setCell ⟨w.heap.size + 2, 0, none⟩ (.slice ao' s.n cap')).setCell ⟨w.heap.size + 1, 0, none⟩ (.slice ao' s.n cap')) fun b hb => ?_).mono fun b hb => ⟨by omega, by simpa using hb.2⟩
    rw [Below.heap_setCell _ _ _ _ (by show b ≠ w.heap.size + 1; omega), Below.heap_setCell _ _ _ _ (by show b ≠ w.heap.size + 2; omega)]
  · exact (bw.setCell (p := ⟨w.heap.size + 2, 0, none⟩) (by simp) _).setCell (p := ⟨w.heap.size + 1, 0, none⟩) (by simp) _
end
end Go.Proofs.YtckapapejfnojaaGreatDoor

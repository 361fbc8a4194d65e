import Derived.Test.YtkanjbopfflioaaGreatDoorG19
namespace Go.Proofs.YtkanjbopfflioaaGreatDoor
section
open Go.RowKit
set_option linter.unusedVariables false
set_option linter.unusedSimpArgs false

set_option maxRecDepth 100000 in
set_option maxHeartbeats 8000000 in
theorem l2ProtoOk_yes01 (p : PD) (a3 a4 a5 a8 a9 : Value) (w : World) (hp : IsProto (· < w.heap.size) w a3 a4 a5 a8 a9 p) (g0 : ¬ p.regs < 1) (g1 : ¬ 250 < p.regs) (g2 : ¬ p.params < 0) (g3 : ¬ p.regs < p.params) (g4 : ¬ p.code.n < 1) (g5 : ¬ 2000 < p.code.n) (g6 : ¬ 500 < p.consts.n) (g7 : ¬ 60 < p.ups.n) (g8 : ¬ 1000 < p.name.size) (gl1 : ¬ 0 < p.lines.n) (gu1 : 0 < p.upNames.n) (gu2 : (p.upNames.n : Int) = (p.ups.n : Int)) :
    Calls Tryz.prog 25 #[pAgg p a3 a4 a5 a8 a9] w fun e w' => Says e (ProtoOk p) ∧ Below w.heap.size w w' := by
  obtain ⟨p3, p4, p5, p8, p9, -⟩ := hp
  obtain ⟨o3, c3, rfl, n3, -⟩ := p3
  obtain ⟨o5, c5, rfl, n5, k5⟩ := p5
  obtain ⟨o8, c8, rfl, n8, k8⟩ := p8
  obtain ⟨⟨o4, c4, rfl, n4, k4⟩, -⟩ := p4
  obtain ⟨⟨o9, c9, rfl, n9, k9⟩, -⟩ := p9
  unfold pAgg
  go_enter Tryz.func25, Tryz.ntmps25
  go_wp2_with fail
  have R0 : RowL (w.alloc (.cells #[.int .i64 p.params, .bool p.vararg, .int .i64 p.regs, .slice o3 p.code.n c3, .slice o4 p.consts.n c4, .slice o5 p.ups.n c5, .int .i64 p.kids, .string p.name, .slice o8 p.lines.n c8, .slice o9 p.upNames.n c9] 53)) w.heap.size 53 [.int .i64 p.params, .bool p.vararg, .int .i64 p.regs, .slice o3 p.code.n c3, .slice o4 p.consts.n c4, .slice o5 p.ups.n c5, .int .i64 p.kids, .string p.name, .slice o8 p.lines.n c8, .slice o9 p.upNames.n c9] := RowL.new w _ 53
  have bw : Below w.heap.size w (w.alloc (.cells #[.int .i64 p.params, .bool p.vararg, .int .i64 p.regs, .slice o3 p.code.n c3, .slice o4 p.consts.n c4, .slice o5 p.ups.n c5, .int .i64 p.kids, .string p.name, .slice o8 p.lines.n c8, .slice o9 p.upNames.n c9] 53)) := by go_grown
  generalize w.alloc (.cells #[.int .i64 p.params, .bool p.vararg, .int .i64 p.regs, .slice o3 p.code.n c3, .slice o4 p.consts.n c4, .slice o5 p.ups.n c5, .int .i64 p.kids, .string p.name, .slice o8 p.lines.n c8, .slice o9 p.upNames.n c9] 53) = wx at R0 bw ⊢
  go_loopw [3] (fun i wr => ∃ (i' : Nat), i = .int .i64 i' ∧ i' ≤ p.consts.n ∧ Below wx.heap.size wx wr ∧ Hid (∀ j, j < i' → Plain (p.consts.f j))) (fun i _ => p.consts.n - (intOf i).toNat)
  case atStart => exact ⟨0, rfl, by omega, Below.refl _ _, fun j hj => by omega⟩
  case round =>
    obtain ⟨i', rfl, q1, q2, q3⟩ := hrel
    have r4 := (R0.call q2).cell 4 rfl
    have q4 := bw.trans (q2.mono bw.size)
    by_cases hi : i' < p.consts.n
    · obtain ⟨b, o, rfl, hb, hcc⟩ := k4 (by omega)
      have c0 := hcc i' hi 0 (by omega)
      have c1 := hcc i' hi 1 (by omega)
      have c2 := hcc i' hi 2 (by omega)
      rw [← q4.cell (p := ⟨b, _, none⟩) hb] at c0 c1 c2
      simp only [Nat.add_zero, Nat.mul_one, vC] at c0 c1 c2
      clear hcc k4 k5 k8 k9
      go_wp2_with fail
      refine (l2Plain_in (p.consts.f i') _).mono ?_
      rintro e w1 ⟨⟨r, rfl, hr⟩, b1⟩
      have hb1 : Below wx.heap.size wx w1 := q2.trans (b1.mono q2.size)
      clear c0 c1 c2 r4
      cases r with
      | false =>
        have hno : Hid (¬ ProtoOk p) := fun h => by simpa using hr.2 (h.allConsts i' hi)
        clear hr
        go_wp2_with fail
        go_ret
        exact ⟨Says.no rfl hno.out, bw.trans (hb1.mono bw.size)⟩
      | true =>
        have q5 : Hid (∀ j, j < i' + 1 → Plain (p.consts.f j)) := fun j hj => by
          by_cases hji : j = i'
          · subst hji; exact hr.1 rfl
          · exact q3.out j (by omega)
        clear hr q3
        go_wp2_with fail
        go_roundw
        case rel => exact ⟨i' + 1, rfl, by omega, hb1, q5⟩
        case measure => simp [intOf]; omega
    · have bb1 : Below wx.heap.size wx wr := q2
      have z1 : Hid (∀ j, j < p.consts.n → Plain (p.consts.f j)) := fun j hj => q3.out j (by omega)
      clear q3 q4
      go_wp2_with fail
      clear r4
      go_loopw [4] (fun i wr => ∃ (i' : Nat), i = .int .i64 i' ∧ i' ≤ p.ups.n ∧ Below wx.heap.size wx wr ∧ Hid (∀ j, j < i' → NumOk (p.ups.f j).index)) (fun i _ => p.ups.n - (intOf i).toNat)
      case atStart => exact ⟨0, rfl, by omega, bb1, fun j hj => by omega⟩
      case round =>
        obtain ⟨i', rfl, q1, q2, q3⟩ := hrel
        have r5 := (R0.call q2).cell 5 rfl
        have q4 := bw.trans (q2.mono bw.size)
        by_cases hi : i' < p.ups.n
        · obtain ⟨b, o, rfl, hb, hcc⟩ := k5 (by omega)
          have c1 := hcc i' hi 1 (by omega)
          rw [← q4.cell (p := ⟨b, _, none⟩) hb] at c1
          simp only [Nat.add_zero, Nat.mul_one, uC] at c1
          clear hcc k4 k5 k8 k9
          go_wp2_with fail
          refine (l2NumOk_in (p.ups.f i').index _).mono ?_
          rintro e w1 ⟨⟨r, rfl, hr⟩, b1⟩
          have hb1 : Below wx.heap.size wx w1 := q2.trans (b1.mono q2.size)
          clear c1 r5
          cases r with
          | false =>
            have hno : Hid (¬ ProtoOk p) := fun h => by simpa using hr.2 (h.allUps i' hi)
            clear hr
            go_wp2_with fail
            go_ret
            exact ⟨Says.no rfl hno.out, bw.trans (hb1.mono bw.size)⟩
          | true =>
            have q5 : Hid (∀ j, j < i' + 1 → NumOk (p.ups.f j).index) := fun j hj => by
              by_cases hji : j = i'
              · subst hji; exact hr.1 rfl
              · exact q3.out j (by omega)
            clear hr q3
            go_wp2_with fail
            go_roundw
            case rel => exact ⟨i' + 1, rfl, by omega, hb1, q5⟩
            case measure => simp [intOf]; omega
        · have bb2 : Below wx.heap.size wx wr := q2
          have z2 : Hid (∀ j, j < p.ups.n → NumOk (p.ups.f j).index) := fun j hj => q3.out j (by omega)
          clear q3 q4
          go_wp2_with fail
          clear r5
          go_loopw [5] (fun i wr => ∃ (i' : Nat), i = .int .i64 i' ∧ i' ≤ p.lines.n ∧ Below wx.heap.size wx wr ∧ Hid (∀ j, j < i' → NumOk (p.lines.f j))) (fun i _ => p.lines.n - (intOf i).toNat)
          case atStart => exact ⟨0, rfl, by omega, bb2, fun j hj => by omega⟩
          case round =>
            obtain ⟨i', rfl, q1, q2, q3⟩ := hrel
            have r8 := (R0.call q2).cell 8 rfl
            have q4 := bw.trans (q2.mono bw.size)
            by_cases hi : i' < p.lines.n
            · exfalso; omega
            · have bb3 : Below wx.heap.size wx wr := q2
              have z3 : Hid (∀ j, j < p.lines.n → NumOk (p.lines.f j)) := fun j hj => q3.out j (by omega)
              clear q3 q4
              go_wp2_with fail
              clear r8
              go_loopw [6] (fun i wr => ∃ (i' : Nat), i = .int .i64 i' ∧ i' ≤ p.upNames.n ∧ Below wx.heap.size wx wr ∧ Hid (∀ j, j < i' → (p.upNames.f j).size ≤ 1000)) (fun i _ => p.upNames.n - (intOf i).toNat)
              case atStart => exact ⟨0, rfl, by omega, bb3, fun j hj => by omega⟩
              case round =>
                obtain ⟨i', rfl, q1, q2, q3⟩ := hrel
                have r9 := (R0.call q2).cell 9 rfl
                have q4 := bw.trans (q2.mono bw.size)
                by_cases hi : i' < p.upNames.n
                · obtain ⟨b, o, rfl, hb, hcc⟩ := k9 (by omega)
                  have c0 := hcc i' hi 0 (by omega)
                  rw [← q4.cell (p := ⟨b, _, none⟩) hb] at c0
                  simp only [Nat.add_zero, Nat.mul_one, sC] at c0
                  clear hcc k4 k5 k8 k9
                  by_cases hs : (p.upNames.f i').size ≤ 1000
                  · have q5 : Hid (∀ j, j < i' + 1 → (p.upNames.f j).size ≤ 1000) := fun j hj => by
                      by_cases hji : j = i'
                      · subst hji; exact hs
                      · exact q3.out j (by omega)
                    clear q3
                    go_wp2_with fail
                    go_roundw
                    case rel => exact ⟨i' + 1, rfl, by omega, q2, q5⟩
                    case measure => simp [intOf]; omega
                  · have hno : Hid (¬ ProtoOk p) := fun h => hs (h.allUpNames i' hi)
                    go_wp2_with fail
                    go_ret
                    exact ⟨Says.no rfl hno.out, q4⟩
                · have bb4 : Below wx.heap.size wx wr := q2
                  have z4 : Hid (∀ j, j < p.upNames.n → (p.upNames.f j).size ≤ 1000) := fun j hj => q3.out j (by omega)
                  clear q3 q4
                  go_wp2_with fail
                  go_ret
                  exact ⟨Says.yes rfl ⟨by omega, by omega, by omega, by omega, by omega, by omega, by omega, by omega, by omega, by omega, by omega, z1.out, z2.out, z3.out, z4.out⟩, bw.trans (bb4.mono bw.size)⟩
end
section
open Go.RowKit
set_option linter.unusedVariables false
set_option linter.unusedSimpArgs false

set_option maxRecDepth 100000 in
set_option maxHeartbeats 8000000 in
theorem l2ProtoOk_yes10 (p : PD) (a3 a4 a5 a8 a9 : Value) (w : World) (hp : IsProto (· < w.heap.size) w a3 a4 a5 a8 a9 p) (g0 : ¬ p.regs < 1) (g1 : ¬ 250 < p.regs) (g2 : ¬ p.params < 0) (g3 : ¬ p.regs < p.params) (g4 : ¬ p.code.n < 1) (g5 : ¬ 2000 < p.code.n) (g6 : ¬ 500 < p.consts.n) (g7 : ¬ 60 < p.ups.n) (g8 : ¬ 1000 < p.name.size) (gl1 : 0 < p.lines.n) (gl2 : (p.lines.n : Int) = (p.code.n : Int)) (gu1 : ¬ 0 < p.upNames.n) :
    Calls Tryz.prog 25 #[pAgg p a3 a4 a5 a8 a9] w fun e w' => Says e (ProtoOk p) ∧ Below w.heap.size w w' := by
  obtain ⟨p3, p4, p5, p8, p9, -⟩ := hp
  obtain ⟨o3, c3, rfl, n3, -⟩ := p3
  obtain ⟨o5, c5, rfl, n5, k5⟩ := p5
  obtain ⟨o8, c8, rfl, n8, k8⟩ := p8
  obtain ⟨⟨o4, c4, rfl, n4, k4⟩, -⟩ := p4
  obtain ⟨⟨o9, c9, rfl, n9, k9⟩, -⟩ := p9
  unfold pAgg
  go_enter Tryz.func25, Tryz.ntmps25
  go_wp2_with fail
  have R0 : RowL (w.alloc (.cells #[.int .i64 p.params, .bool p.vararg, .int .i64 p.regs, .slice o3 p.code.n c3, .slice o4 p.consts.n c4, .slice o5 p.ups.n c5, .int .i64 p.kids, .string p.name, .slice o8 p.lines.n c8, .slice o9 p.upNames.n c9] 53)) w.heap.size 53 [.int .i64 p.params, .bool p.vararg, .int .i64 p.regs, .slice o3 p.code.n c3, .slice o4 p.consts.n c4, .slice o5 p.ups.n c5, .int .i64 p.kids, .string p.name, .slice o8 p.lines.n c8, .slice o9 p.upNames.n c9] := RowL.new w _ 53
  have bw : Below w.heap.size w (w.alloc (.cells #[.int .i64 p.params, .bool p.vararg, .int .i64 p.regs, .slice o3 p.code.n c3, .slice o4 p.consts.n c4, .slice o5 p.ups.n c5, .int .i64 p.kids, .string p.name, .slice o8 p.lines.n c8, .slice o9 p.upNames.n c9] 53)) := by go_grown
  generalize w.alloc (.cells #[.int .i64 p.params, .bool p.vararg, .int .i64 p.regs, .slice o3 p.code.n c3, .slice o4 p.consts.n c4, .slice o5 p.ups.n c5, .int .i64 p.kids, .string p.name, .slice o8 p.lines.n c8, .slice o9 p.upNames.n c9] 53) = wx at R0 bw ⊢
  go_loopw [3] (fun i wr => ∃ (i' : Nat), i = .int .i64 i' ∧ i' ≤ p.consts.n ∧ Below wx.heap.size wx wr ∧ Hid (∀ j, j < i' → Plain (p.consts.f j))) (fun i _ => p.consts.n - (intOf i).toNat)
  case atStart => exact ⟨0, rfl, by omega, Below.refl _ _, fun j hj => by omega⟩
  case round =>
    obtain ⟨i', rfl, q1, q2, q3⟩ := hrel
    have r4 := (R0.call q2).cell 4 rfl
    have q4 := bw.trans (q2.mono bw.size)
    by_cases hi : i' < p.consts.n
    · obtain ⟨b, o, rfl, hb, hcc⟩ := k4 (by omega)
      have c0 := hcc i' hi 0 (by omega)
      have c1 := hcc i' hi 1 (by omega)
      have c2 := hcc i' hi 2 (by omega)
      rw [← q4.cell (p := ⟨b, _, none⟩) hb] at c0 c1 c2
      simp only [Nat.add_zero, Nat.mul_one, vC] at c0 c1 c2
      clear hcc k4 k5 k8 k9
      go_wp2_with fail
      refine (l2Plain_in (p.consts.f i') _).mono ?_
      rintro e w1 ⟨⟨r, rfl, hr⟩, b1⟩
      have hb1 : Below wx.heap.size wx w1 := q2.trans (b1.mono q2.size)
      clear c0 c1 c2 r4
      cases r with
      | false =>
        have hno : Hid (¬ ProtoOk p) := fun h => by simpa using hr.2 (h.allConsts i' hi)
        clear hr
        go_wp2_with fail
        go_ret
        exact ⟨Says.no rfl hno.out, bw.trans (hb1.mono bw.size)⟩
      | true =>
        have q5 : Hid (∀ j, j < i' + 1 → Plain (p.consts.f j)) := fun j hj => by
          by_cases hji : j = i'
          · subst hji; exact hr.1 rfl
          · exact q3.out j (by omega)
        clear hr q3
        go_wp2_with fail
        go_roundw
        case rel => exact ⟨i' + 1, rfl, by omega, hb1, q5⟩
        case measure => simp [intOf]; omega
    · have bb1 : Below wx.heap.size wx wr := q2
      have z1 : Hid (∀ j, j < p.consts.n → Plain (p.consts.f j)) := fun j hj => q3.out j (by omega)
      clear q3 q4
      go_wp2_with fail
      clear r4
      go_loopw [4] (fun i wr => ∃ (i' : Nat), i = .int .i64 i' ∧ i' ≤ p.ups.n ∧ Below wx.heap.size wx wr ∧ Hid (∀ j, j < i' → NumOk (p.ups.f j).index)) (fun i _ => p.ups.n - (intOf i).toNat)
      case atStart => exact ⟨0, rfl, by omega, bb1, fun j hj => by omega⟩
      case round =>
        obtain ⟨i', rfl, q1, q2, q3⟩ := hrel
        have r5 := (R0.call q2).cell 5 rfl
        have q4 := bw.trans (q2.mono bw.size)
        by_cases hi : i' < p.ups.n
        · obtain ⟨b, o, rfl, hb, hcc⟩ := k5 (by omega)
          have c1 := hcc i' hi 1 (by omega)
          rw [← q4.cell (p := ⟨b, _, none⟩) hb] at c1
          simp only [Nat.add_zero, Nat.mul_one, uC] at c1
          clear hcc k4 k5 k8 k9
          go_wp2_with fail
          refine (l2NumOk_in (p.ups.f i').index _).mono ?_
          rintro e w1 ⟨⟨r, rfl, hr⟩, b1⟩
          have hb1 : Below wx.heap.size wx w1 := q2.trans (b1.mono q2.size)
          clear c1 r5
          cases r with
          | false =>
            have hno : Hid (¬ ProtoOk p) := fun h => by simpa using hr.2 (h.allUps i' hi)
            clear hr
            go_wp2_with fail
            go_ret
            exact ⟨Says.no rfl hno.out, bw.trans (hb1.mono bw.size)⟩
          | true =>
            have q5 : Hid (∀ j, j < i' + 1 → NumOk (p.ups.f j).index) := fun j hj => by
              by_cases hji : j = i'
              · subst hji; exact hr.1 rfl
              · exact q3.out j (by omega)
            clear hr q3
            go_wp2_with fail
            go_roundw
            case rel => exact ⟨i' + 1, rfl, by omega, hb1, q5⟩
            case measure => simp [intOf]; omega
        · have bb2 : Below wx.heap.size wx wr := q2
          have z2 : Hid (∀ j, j < p.ups.n → NumOk (p.ups.f j).index) := fun j hj => q3.out j (by omega)
          clear q3 q4
          go_wp2_with fail
          clear r5
          go_loopw [5] (fun i wr => ∃ (i' : Nat), i = .int .i64 i' ∧ i' ≤ p.lines.n ∧ Below wx.heap.size wx wr ∧ Hid (∀ j, j < i' → NumOk (p.lines.f j))) (fun i _ => p.lines.n - (intOf i).toNat)
          case atStart => exact ⟨0, rfl, by omega, bb2, fun j hj => by omega⟩
          case round =>
            obtain ⟨i', rfl, q1, q2, q3⟩ := hrel
            have r8 := (R0.call q2).cell 8 rfl
            have q4 := bw.trans (q2.mono bw.size)
            by_cases hi : i' < p.lines.n
            · obtain ⟨b, o, rfl, hb, hcc⟩ := k8 (by omega)
              have c0 := hcc i' hi 0 (by omega)
              rw [← q4.cell (p := ⟨b, _, none⟩) hb] at c0
              simp only [Nat.add_zero, Nat.mul_one, iC] at c0
              clear hcc k4 k5 k8 k9
              go_wp2_with fail
              refine (l2NumOk_in (p.lines.f i') _).mono ?_
              rintro e w1 ⟨⟨r, rfl, hr⟩, b1⟩
              have hb1 : Below wx.heap.size wx w1 := q2.trans (b1.mono q2.size)
              clear c0 r8
              cases r with
              | false =>
                have hno : Hid (¬ ProtoOk p) := fun h => by simpa using hr.2 (h.allLines i' hi)
                clear hr
                go_wp2_with fail
                go_ret
                exact ⟨Says.no rfl hno.out, bw.trans (hb1.mono bw.size)⟩
              | true =>
                have q5 : Hid (∀ j, j < i' + 1 → NumOk (p.lines.f j)) := fun j hj => by
                  by_cases hji : j = i'
                  · subst hji; exact hr.1 rfl
                  · exact q3.out j (by omega)
                clear hr q3
                go_wp2_with fail
                go_roundw
                case rel => exact ⟨i' + 1, rfl, by omega, hb1, q5⟩
                case measure => simp [intOf]; omega
            · have bb3 : Below wx.heap.size wx wr := q2
              have z3 : Hid (∀ j, j < p.lines.n → NumOk (p.lines.f j)) := fun j hj => q3.out j (by omega)
              clear q3 q4
              go_wp2_with fail
              clear r8
              go_loopw [6] (fun i wr => ∃ (i' : Nat), i = .int .i64 i' ∧ i' ≤ p.upNames.n ∧ Below wx.heap.size wx wr ∧ Hid (∀ j, j < i' → (p.upNames.f j).size ≤ 1000)) (fun i _ => p.upNames.n - (intOf i).toNat)
              case atStart => exact ⟨0, rfl, by omega, bb3, fun j hj => by omega⟩
              case round =>
                obtain ⟨i', rfl, q1, q2, q3⟩ := hrel
                have r9 := (R0.call q2).cell 9 rfl
                have q4 := bw.trans (q2.mono bw.size)
                by_cases hi : i' < p.upNames.n
                · exfalso; omega
                · have bb4 : Below wx.heap.size wx wr := q2
                  have z4 : Hid (∀ j, j < p.upNames.n → (p.upNames.f j).size ≤ 1000) := fun j hj => q3.out j (by omega)
                  clear q3 q4
                  go_wp2_with fail
                  go_ret
                  exact ⟨Says.yes rfl ⟨by omega, by omega, by omega, by omega, by omega, by omega, by omega, by omega, by omega, by omega, by omega, z1.out, z2.out, z3.out, z4.out⟩, bw.trans (bb4.mono bw.size)⟩
end
section
open Go.RowKit
set_option linter.unusedVariables false
set_option linter.unusedSimpArgs false

set_option maxRecDepth 100000 in
set_option maxHeartbeats 8000000 in
theorem l2ProtoOk_yes11 (p : PD) (a3 a4 a5 a8 a9 : Value) (w : World) (hp : IsProto (· < w.heap.size) w a3 a4 a5 a8 a9 p) (g0 : ¬ p.regs < 1) (g1 : ¬ 250 < p.regs) (g2 : ¬ p.params < 0) (g3 : ¬ p.regs < p.params) (g4 : ¬ p.code.n < 1) (g5 : ¬ 2000 < p.code.n) (g6 : ¬ 500 < p.consts.n) (g7 : ¬ 60 < p.ups.n) (g8 : ¬ 1000 < p.name.size) (gl1 : 0 < p.lines.n) (gl2 : (p.lines.n : Int) = (p.code.n : Int)) (gu1 : 0 < p.upNames.n) (gu2 : (p.upNames.n : Int) = (p.ups.n : Int)) :
    Calls Tryz.prog 25 #[pAgg p a3 a4 a5 a8 a9] w fun e w' => Says e (ProtoOk p) ∧ Below w.heap.size w w' := by
  obtain ⟨p3, p4, p5, p8, p9, -⟩ := hp
  obtain ⟨o3, c3, rfl, n3, -⟩ := p3
  obtain ⟨o5, c5, rfl, n5, k5⟩ := p5
  obtain ⟨o8, c8, rfl, n8, k8⟩ := p8
  obtain ⟨⟨o4, c4, rfl, n4, k4⟩, -⟩ := p4
  obtain ⟨⟨o9, c9, rfl, n9, k9⟩, -⟩ := p9
  unfold pAgg
  go_enter Tryz.func25, Tryz.ntmps25
  go_wp2_with fail
  have R0 : RowL (w.alloc (.cells #[.int .i64 p.params, .bool p.vararg, .int .i64 p.regs, .slice o3 p.code.n c3, .slice o4 p.consts.n c4, .slice o5 p.ups.n c5, .int .i64 p.kids, .string p.name, .slice o8 p.lines.n c8, .slice o9 p.upNames.n c9] 53)) w.heap.size 53 [.int .i64 p.params, .bool p.vararg, .int .i64 p.regs, .slice o3 p.code.n c3, .slice o4 p.consts.n c4, .slice o5 p.ups.n c5, .int .i64 p.kids, .string p.name, .slice o8 p.lines.n c8, .slice o9 p.upNames.n c9] := RowL.new w _ 53
  have bw : Below w.heap.size w (w.alloc (.cells #[.int .i64 p.params, .bool p.vararg, .int .i64 p.regs, .slice o3 p.code.n c3, .slice o4 p.consts.n c4, .slice o5 p.ups.n c5, .int .i64 p.kids, .string p.name, .slice o8 p.lines.n c8, .slice o9 p.upNames.n c9] 53)) := by go_grown
  generalize w.alloc (.cells #[.int .i64 p.params, .bool p.vararg, .int .i64 p.regs, .slice o3 p.code.n c3, .slice o4 p.consts.n c4, .slice o5 p.ups.n c5, .int .i64 p.kids, .string p.name, .slice o8 p.lines.n c8, .slice o9 p.upNames.n c9] 53) = wx at R0 bw ⊢
  go_loopw [3] (fun i wr => ∃ (i' : Nat), i = .int .i64 i' ∧ i' ≤ p.consts.n ∧ Below wx.heap.size wx wr ∧ Hid (∀ j, j < i' → Plain (p.consts.f j))) (fun i _ => p.consts.n - (intOf i).toNat)
  case atStart => exact ⟨0, rfl, by omega, Below.refl _ _, fun j hj => by omega⟩
  case round =>
    obtain ⟨i', rfl, q1, q2, q3⟩ := hrel
    have r4 := (R0.call q2).cell 4 rfl
    have q4 := bw.trans (q2.mono bw.size)
    by_cases hi : i' < p.consts.n
    · obtain ⟨b, o, rfl, hb, hcc⟩ := k4 (by omega)
      have c0 := hcc i' hi 0 (by omega)
      have c1 := hcc i' hi 1 (by omega)
      have c2 := hcc i' hi 2 (by omega)
      rw [← q4.cell (p := ⟨b, _, none⟩) hb] at c0 c1 c2
      simp only [Nat.add_zero, Nat.mul_one, vC] at c0 c1 c2
      clear hcc k4 k5 k8 k9
      go_wp2_with fail
      refine (l2Plain_in (p.consts.f i') _).mono ?_
      rintro e w1 ⟨⟨r, rfl, hr⟩, b1⟩
      have hb1 : Below wx.heap.size wx w1 := q2.trans (b1.mono q2.size)
      clear c0 c1 c2 r4
      cases r with
      | false =>
        have hno : Hid (¬ ProtoOk p) := fun h => by simpa using hr.2 (h.allConsts i' hi)
        clear hr
        go_wp2_with fail
        go_ret
        exact ⟨Says.no rfl hno.out, bw.trans (hb1.mono bw.size)⟩
      | true =>
        have q5 : Hid (∀ j, j < i' + 1 → Plain (p.consts.f j)) := fun j hj => by
          by_cases hji : j = i'
          · subst hji; exact hr.1 rfl
          · exact q3.out j (by omega)
        clear hr q3
        go_wp2_with fail
        go_roundw
        case rel => exact ⟨i' + 1, rfl, by omega, hb1, q5⟩
        case measure => simp [intOf]; omega
    · have bb1 : Below wx.heap.size wx wr := q2
      have z1 : Hid (∀ j, j < p.consts.n → Plain (p.consts.f j)) := fun j hj => q3.out j (by omega)
      clear q3 q4
      go_wp2_with fail
      clear r4
      go_loopw [4] (fun i wr => ∃ (i' : Nat), i = .int .i64 i' ∧ i' ≤ p.ups.n ∧ Below wx.heap.size wx wr ∧ Hid (∀ j, j < i' → NumOk (p.ups.f j).index)) (fun i _ => p.ups.n - (intOf i).toNat)
      case atStart => exact ⟨0, rfl, by omega, bb1, fun j hj => by omega⟩
      case round =>
        obtain ⟨i', rfl, q1, q2, q3⟩ := hrel
        have r5 := (R0.call q2).cell 5 rfl
        have q4 := bw.trans (q2.mono bw.size)
        by_cases hi : i' < p.ups.n
        · obtain ⟨b, o, rfl, hb, hcc⟩ := k5 (by omega)
          have c1 := hcc i' hi 1 (by omega)
          rw [← q4.cell (p := ⟨b, _, none⟩) hb] at c1
          simp only [Nat.add_zero, Nat.mul_one, uC] at c1
          clear hcc k4 k5 k8 k9
          go_wp2_with fail
          refine (l2NumOk_in (p.ups.f i').index _).mono ?_
          rintro e w1 ⟨⟨r, rfl, hr⟩, b1⟩
          have hb1 : Below wx.heap.size wx w1 := q2.trans (b1.mono q2.size)
          clear c1 r5
          cases r with
          | false =>
            have hno : Hid (¬ ProtoOk p) := fun h => by simpa using hr.2 (h.allUps i' hi)
            clear hr
            go_wp2_with fail
            go_ret
            exact ⟨Says.no rfl hno.out, bw.trans (hb1.mono bw.size)⟩
          | true =>
            have q5 : Hid (∀ j, j < i' + 1 → NumOk (p.ups.f j).index) := fun j hj => by
              by_cases hji : j = i'
              · subst hji; exact hr.1 rfl
              · exact q3.out j (by omega)
            clear hr q3
            go_wp2_with fail
            go_roundw
            case rel => exact ⟨i' + 1, rfl, by omega, hb1, q5⟩
            case measure => simp [intOf]; omega
        · have bb2 : Below wx.heap.size wx wr := q2
          have z2 : Hid (∀ j, j < p.ups.n → NumOk (p.ups.f j).index) := fun j hj => q3.out j (by omega)
          clear q3 q4
          go_wp2_with fail
          clear r5
          go_loopw [5] (fun i wr => ∃ (i' : Nat), i = .int .i64 i' ∧ i' ≤ p.lines.n ∧ Below wx.heap.size wx wr ∧ Hid (∀ j, j < i' → NumOk (p.lines.f j))) (fun i _ => p.lines.n - (intOf i).toNat)
          case atStart => exact ⟨0, rfl, by omega, bb2, fun j hj => by omega⟩
          case round =>
            obtain ⟨i', rfl, q1, q2, q3⟩ := hrel
            have r8 := (R0.call q2).cell 8 rfl
            have q4 := bw.trans (q2.mono bw.size)
            by_cases hi : i' < p.lines.n
            · obtain ⟨b, o, rfl, hb, hcc⟩ := k8 (by omega)
              have c0 := hcc i' hi 0 (by omega)
              rw [← q4.cell (p := ⟨b, _, none⟩) hb] at c0
              simp only [Nat.add_zero, Nat.mul_one, iC] at c0
              clear hcc k4 k5 k8 k9
              go_wp2_with fail
              refine (l2NumOk_in (p.lines.f i') _).mono ?_
              rintro e w1 ⟨⟨r, rfl, hr⟩, b1⟩
              have hb1 : Below wx.heap.size wx w1 := q2.trans (b1.mono q2.size)
              clear c0 r8
              cases r with
              | false =>
                have hno : Hid (¬ ProtoOk p) := fun h => by simpa using hr.2 (h.allLines i' hi)
                clear hr
                go_wp2_with fail
                go_ret
                exact ⟨Says.no rfl hno.out, bw.trans (hb1.mono bw.size)⟩
              | true =>
                have q5 : Hid (∀ j, j < i' + 1 → NumOk (p.lines.f j)) := fun j hj => by
                  by_cases hji : j = i'
                  · subst hji; exact hr.1 rfl
                  · exact q3.out j (by omega)
                clear hr q3
                go_wp2_with fail
                go_roundw
                case rel => exact ⟨i' + 1, rfl, by omega, hb1, q5⟩
                case measure => simp [intOf]; omega
            · have bb3 : Below wx.heap.size wx wr := q2
              have z3 : Hid (∀ j, j < p.lines.n → NumOk (p.lines.f j)) := fun j hj => q3.out j (by omega)
              clear q3 q4
              go_wp2_with fail
              clear r8
              go_loopw [6] (fun i wr => ∃ (i' : Nat), i = .int .i64 i' ∧ i' ≤ p.upNames.n ∧ Below wx.heap.size wx wr ∧ Hid (∀ j, j < i' → (p.upNames.f j).size ≤ 1000)) (fun i _ => p.upNames.n - (intOf i).toNat)
              case atStart => exact ⟨0, rfl, by omega, bb3, fun j hj => by omega⟩
              case round =>
                obtain ⟨i', rfl, q1, q2, q3⟩ := hrel
                have r9 := (R0.call q2).cell 9 rfl
                have q4 := bw.trans (q2.mono bw.size)
                by_cases hi : i' < p.upNames.n
                · obtain ⟨b, o, rfl, hb, hcc⟩ := k9 (by omega)
                  have c0 := hcc i' hi 0 (by omega)
                  rw [← q4.cell (p := ⟨b, _, none⟩) hb] at c0
                  simp only [Nat.add_zero, Nat.mul_one, sC] at c0
                  clear hcc k4 k5 k8 k9
                  by_cases hs : (p.upNames.f i').size ≤ 1000
                  · have q5 : Hid (∀ j, j < i' + 1 → (p.upNames.f j).size ≤ 1000) := fun j hj => by
                      by_cases hji : j = i'
                      · subst hji; exact hs
                      · exact q3.out j (by omega)
                    clear q3
                    go_wp2_with fail
                    go_roundw
                    case rel => exact ⟨i' + 1, rfl, by omega, q2, q5⟩
                    case measure => simp [intOf]; omega
                  · have hno : Hid (¬ ProtoOk p) := fun h => hs (h.allUpNames i' hi)
                    go_wp2_with fail
                    go_ret
                    exact ⟨Says.no rfl hno.out, q4⟩
                · have bb4 : Below wx.heap.size wx wr := q2
                  have z4 : Hid (∀ j, j < p.upNames.n → (p.upNames.f j).size ≤ 1000) := fun j hj => q3.out j (by omega)
                  clear q3 q4
                  go_wp2_with fail
                  go_ret
                  exact ⟨Says.yes rfl ⟨by omega, by omega, by omega, by omega, by omega, by omega, by omega, by omega, by omega, by omega, by omega, z1.out, z2.out, z3.out, z4.out⟩, bw.trans (bb4.mono bw.size)⟩
end
section
open Go.RowKit
set_option linter.unusedVariables false
set_option linter.unusedSimpArgs false
theorem l2ProtoOk_in (p : PD) (a3 a4 a5 a8 a9 : Value) (w : World) (hp : IsProto (· < w.heap.size) w a3 a4 a5 a8 a9 p) :
    Calls Tryz.prog 25 #[pAgg p a3 a4 a5 a8 a9] w fun e w' => Says e (ProtoOk p) ∧ Below w.heap.size w w' := by
  by_cases c0 : p.regs < 1 ∨ 250 < p.regs ∨ p.params < 0 ∨ p.regs < p.params ∨ p.code.n < 1
  · exact l2ProtoOk_no0 p a3 a4 a5 a8 a9 w hp c0
  by_cases c1 : 2000 < p.code.n ∨ 500 < p.consts.n ∨ 60 < p.ups.n ∨ 1000 < p.name.size
  · exact l2ProtoOk_no1 p a3 a4 a5 a8 a9 w hp (by omega) (by omega) (by omega) (by omega) (by omega) c1
  by_cases l1 : 0 < p.lines.n
  · by_cases l2 : (p.lines.n : Int) = (p.code.n : Int)
    · by_cases u1 : 0 < p.upNames.n
      · by_cases u2 : (p.upNames.n : Int) = (p.ups.n : Int)
        · exact l2ProtoOk_yes11 p a3 a4 a5 a8 a9 w hp (by omega) (by omega) (by omega) (by omega) (by omega) (by omega) (by omega) (by omega) (by omega) l1 l2 u1 u2
        · exact l2ProtoOk_no3 p a3 a4 a5 a8 a9 w hp (by omega) (by omega) (by omega) (by omega) (by omega) (by omega) (by omega) (by omega) (by omega) l1 l2 u1 u2
      · exact l2ProtoOk_yes10 p a3 a4 a5 a8 a9 w hp (by omega) (by omega) (by omega) (by omega) (by omega) (by omega) (by omega) (by omega) (by omega) l1 l2 u1
    · exact l2ProtoOk_no2 p a3 a4 a5 a8 a9 w hp (by omega) (by omega) (by omega) (by omega) (by omega) (by omega) (by omega) (by omega) (by omega) l1 l2
  · by_cases u1 : 0 < p.upNames.n
    · by_cases u2 : (p.upNames.n : Int) = (p.ups.n : Int)
      · exact l2ProtoOk_yes01 p a3 a4 a5 a8 a9 w hp (by omega) (by omega) (by omega) (by omega) (by omega) (by omega) (by omega) (by omega) (by omega) l1 u1 u2
      · exact l2ProtoOk_no4 p a3 a4 a5 a8 a9 w hp (by omega) (by omega) (by omega) (by omega) (by omega) (by omega) (by omega) (by omega) (by omega) l1 u1 u2
    · exact l2ProtoOk_yes00 p a3 a4 a5 a8 a9 w hp (by omega) (by omega) (by omega) (by omega) (by omega) (by omega) (by omega) (by omega) (by omega) l1 u1

def kidsOf (s : Sl PD) (i : Nat) : Int := (s.f i).kids
/-- a well-formed chunk. -/
structure Wf (s : Sl PD) : Prop where
  low : 1 ≤ s.n
  high : s.n ≤ 200
  tree : ∃ h, Fo (kidsOf s) s.n 1 0 s.n h ∧ h ≤ 64
  each : ∀ i, i < s.n → ProtoOk (s.f i)

theorem IsProtos.kids {av : Nat → Prop} {w : World} {ao : Option Addr} {cap : Nat} {s : Sl PD} (h : IsProtos av w (.slice ao s.n cap) s) : 0 < s.n → ∃ b o, ao = some ⟨b, o, none⟩ ∧ av b ∧ ∀ i, i < s.n → w.cell? ⟨b, o + i * 10 + 6, none⟩ = some (.int .i64 (kidsOf s i)) := by
  obtain ⟨a3, a4, a5, a8, a9, ⟨ao', cap', he, hn, hc⟩, ht⟩ := h
  intro hp
  simp only [Value.slice.injEq] at he
  obtain ⟨rfl, _, rfl⟩ := he
  obtain ⟨b, o, rfl, hb, hcc⟩ := hc hp
  exact ⟨b, o, rfl, hb, fun i hi => hcc i hi 6 (by omega)⟩

set_option maxRecDepth 100000 in
set_option maxHeartbeats 2000000 in
theorem specWF_in (s : Sl PD) (v : Value) (w : World) (hv : IsProtos (· < w.heap.size) w v s) :
    Calls Tryz.prog 11 #[.agg #[v]] w fun e w' => Says e (Wf s) ∧ Below w.heap.size w w' := by
  have hv' := hv
  obtain ⟨a3, a4, a5, a8, a9, ⟨ao, cap, rfl, hn, hc⟩, ht⟩ := hv
  have hkids := hv'.kids
  by_cases h1 : s.n < 1
  · clear hc ht hkids hv'
    go_enter Tryz.func11, Tryz.ntmps11
    go_wp2_with fail
    go_ret
    exact ⟨Says.no rfl (fun h => by have := h.low; omega), by go_grown⟩
  by_cases h2 : 200 < s.n
  · clear hc ht hkids hv'
    go_enter Tryz.func11, Tryz.ntmps11
    go_wp2_with fail
    go_ret
    exact ⟨Says.no rfl (fun h => by have := h.high; omega), by go_grown⟩
  have R0 := RowL.new w [.slice ao s.n cap] 24
  have bw : Below w.heap.size w (w.alloc (.cells #[.slice ao s.n cap] 24)) := by go_grown
  have hk : 0 < s.n → ∃ b o, ao = some ⟨b, o, none⟩ ∧ ∀ i, i < s.n → (w.alloc (.cells #[.slice ao s.n cap] 24)).cell? ⟨b, o + i * 10 + 6, none⟩ = some (.int .i64 (kidsOf s i)) := fun hp => by
    obtain ⟨b, o, e, hb, hcc⟩ := hkids hp
    exact ⟨b, o, e, fun i hi => (bw.cell (p := ⟨b, _, none⟩) hb).trans (hcc i hi)⟩
  have hE := l2End_in ao s.n cap (kidsOf s) _ hn hk s.n 0 0 (by omega) (by omega) (by omega)
  clear hk hkids
  have hc' : Hid (0 < s.n → ∃ b o, ao = some ⟨b, o, none⟩ ∧ b < w.heap.size ∧ ∀ i, i < s.n → ∀ j, j < 10 → w.cell? ⟨b, o + i * 10 + j, none⟩ = some (pC s.f a3 a4 a5 a8 a9 i j)) := hc
  have ht' : Hid (∀ i, i < s.n → IsProto (· < w.heap.size) w (a3 i) (a4 i) (a5 i) (a8 i) (a9 i) (s.f i)) := ht
  clear hc ht hv'
  go_enter Tryz.func11, Tryz.ntmps11
  go_wp2_with fail
  generalize w.alloc (.cells #[.slice ao s.n cap] 24) = wx at R0 bw hE ⊢
  refine hE.mono ?_
  rintro e w1 ⟨⟨r, rfl, hr⟩, rfl⟩
  have r0 := R0.cell 0 rfl
  by_cases hrn : r = (s.n : Int)
  rotate_left
  · have hno : Hid (¬ Wf s) := fun h => by
      obtain ⟨g, t, hg⟩ := h.tree
      rcases hr with ⟨e', h', t', hh, rfl⟩ | ⟨rfl, hno⟩
      · exact hrn (by rw [(t.det t').1])
      · have := hno _ _ t
        omega
    clear hr
    have hne : (r != (s.n : Int)) = true := by simpa using hrn
    go_wp2_with fail
    go_ret
    exact ⟨Says.no rfl hno.out, bw⟩
  have htree : Hid (∃ h, Fo (kidsOf s) s.n 1 0 s.n h ∧ h ≤ 64) := by
    subst hrn
    rcases hr with ⟨e', h', t', hh, he⟩ | ⟨he, _⟩
    · obtain rfl : s.n = e' := by omega
      exact ⟨h', t', by omega⟩
    · omega
  clear hr
  subst hrn
  go_wp2_with fail
  go_loopw [4] (fun i wr => ∃ (i' : Nat), i = .int .i64 i' ∧ i' ≤ s.n ∧ Below wx.heap.size wx wr ∧ Hid (∀ j, j < i' → ProtoOk (s.f j))) (fun i _ => s.n - (intOf i).toNat)
  case atStart => exact ⟨0, rfl, by omega, Below.refl _ _, fun j hj => by omega⟩
  case round =>
    obtain ⟨i', rfl, q1, q2, q3⟩ := hrel
    have r0 := (R0.call q2).cell 0 rfl
    have q4 := bw.trans (q2.mono bw.size)
    by_cases hi : i' < s.n
    · obtain ⟨b, o, rfl, hb, hcc⟩ := hc'.out (by omega)
      have c0 := hcc i' hi 0 (by omega)
      have c1 := hcc i' hi 1 (by omega)
      have c2 := hcc i' hi 2 (by omega)
      have c3 := hcc i' hi 3 (by omega)
      have c4 := hcc i' hi 4 (by omega)
      have c5 := hcc i' hi 5 (by omega)
      have c6 := hcc i' hi 6 (by omega)
      have c7 := hcc i' hi 7 (by omega)
      have c8 := hcc i' hi 8 (by omega)
      have c9 := hcc i' hi 9 (by omega)
      rw [← q4.cell (p := ⟨b, _, none⟩) hb] at c0 c1 c2 c3 c4 c5 c6 c7 c8 c9
      simp only [Nat.add_zero, pC] at c0 c1 c2 c3 c4 c5 c6 c7 c8 c9
      have hti : IsProto (· < wr.heap.size) wr (a3 i') (a4 i') (a5 i') (a8 i') (a9 i') (s.f i') := (ht'.out i' hi).later q4
      clear hcc hc' ht'
      go_wp2_with fail
      refine (l2ProtoOk_in (s.f i') (a3 i') (a4 i') (a5 i') (a8 i') (a9 i') _ hti).mono ?_
      rintro e w1 ⟨⟨r, rfl, hr⟩, b1⟩
      have hb1 : Below wx.heap.size wx w1 := q2.trans (b1.mono q2.size)
      clear c0 c1 c2 c3 c4 c5 c6 c7 c8 c9 r0
      cases r with
      | false =>
        have hno : Hid (¬ Wf s) := fun h => by simpa using hr.2 (h.each i' hi)
        clear hr
        go_wp2_with fail
        go_ret
        exact ⟨Says.no rfl hno.out, bw.trans (hb1.mono bw.size)⟩
      | true =>
        have q5 : Hid (∀ j, j < i' + 1 → ProtoOk (s.f j)) := fun j hj => by
          by_cases hji : j = i'
          · subst hji; exact hr.1 rfl
          · exact q3.out j (by omega)
        clear hr q3
        go_wp2_with fail
        go_roundw
        case rel => exact ⟨i' + 1, rfl, by omega, hb1, q5⟩
        case measure => simp [intOf]; omega
    · have z1 : Hid (∀ j, j < s.n → ProtoOk (s.f j)) := fun j hj => q3.out j (by omega)
      clear q3
      go_wp2_with fail
      go_ret
      exact ⟨Says.yes rfl ⟨by omega, by omega, htree.out, z1.out⟩, q4⟩
end
section
open Go.RowKit
set_option linter.unusedVariables false
set_option linter.unusedSimpArgs false
theorem within_in (n a b : Int) (w : World) : Calls Tryz.prog 44 #[.int .i64 n, .int .i64 a, .int .i64 b] w fun e w' => Says e (a ≤ n ∧ n ≤ b) ∧ w = w' := by
  by_cases h1 : a ≤ n
  · by_cases h2 : n ≤ b
    · go_enter Tryz.func44, Tryz.ntmps44
      go_wp2_with fail
      go_ret
      exact ⟨Says.yes (by first | rfl | (simp; omega)) ⟨h1, h2⟩, rfl⟩
    · go_enter Tryz.func44, Tryz.ntmps44
      go_wp2_with fail
      go_ret
      exact ⟨Says.no (by first | rfl | (simp; omega)) (by omega), rfl⟩
  · go_enter Tryz.func44, Tryz.ntmps44
    go_wp2_with fail
    go_ret
    exact ⟨Says.no (by first | rfl | (simp; omega)) (by omega), rfl⟩
theorem noneOrAll_in (n a : Nat) (w : World) : Calls Tryz.prog 111 #[.int .i64 (n : Int), .int .i64 (a : Int)] w fun e w' => Says e (n = 0 ∨ n = a) ∧ w = w' := by
  by_cases h1 : (n : Int) = 0
  · go_enter Tryz.func111, Tryz.ntmps111
    go_wp2_with fail
    go_ret
    exact ⟨Says.yes (by first | rfl | (simp; omega)) (by omega), rfl⟩
  · by_cases h2 : (n : Int) = (a : Int)
    · go_enter Tryz.func111, Tryz.ntmps111
      go_wp2_with fail
      go_ret
      exact ⟨Says.yes (by first | rfl | (simp; omega)) (by omega), rfl⟩
    · go_enter Tryz.func111, Tryz.ntmps111
      go_wp2_with fail
      go_ret
      exact ⟨Says.no (by first | rfl | (simp; omega)) (by omega), rfl⟩
theorem textFits_in (t : ByteArray) (w : World) : Calls Tryz.prog 110 #[.string t] w fun e w' => Says e (t.size ≤ 1000) ∧ w = w' := by
  by_cases h1 : t.size ≤ 1000
  · go_enter Tryz.func110, Tryz.ntmps110
    go_wp2_with fail
    go_ret
    exact ⟨Says.yes (by first | rfl | (simp; omega)) h1, rfl⟩
  · go_enter Tryz.func110, Tryz.ntmps110
    go_wp2_with fail
    go_ret
    exact ⟨Says.no (by first | rfl | (simp; omega)) h1, rfl⟩
theorem numberFits_in (x : Int) (w : World) : Calls Tryz.prog 70 #[.int .i64 x] w fun e w' => Says e (NumOk x) ∧ w = w' := by
  go_enter Tryz.func70, Tryz.ntmps70
  go_wp2_with fail
  refine (within_in x 0 16777215 _).mono ?_
  rintro e w1 ⟨⟨r, rfl, hr⟩, rfl⟩
  have hr' : Hid (r = true ↔ NumOk x) := hr
  clear hr
  go_wp2_with fail
  go_ret
  exact ⟨Says.of rfl hr'.out, rfl⟩
theorem upFits_in (d : UD) (w : World) : Calls Tryz.prog 109 #[.agg #[.bool d.stack, .int .i64 d.index]] w fun e w' => Says e (NumOk d.index) ∧ Below w.heap.size w w' := by
  go_enter Tryz.func109, Tryz.ntmps109
  go_wp2_with fail
  refine (numberFits_in d.index _).mono ?_
  rintro e w1 ⟨⟨r, rfl, hr⟩, rfl⟩
  have hr' : Hid (r = true ↔ NumOk d.index) := hr
  clear hr
  go_wp2_with fail
  go_ret
  exact ⟨Says.of rfl hr'.out, by go_grown⟩
theorem text_empty (t : ByteArray) (h : t.size = 0) : t = ⟨#[]⟩ := by
  cases t with
  | mk d => 
    have : d.size = 0 := h
    rw [Array.eq_empty_of_size_eq_zero this]
theorem text_some (t : ByteArray) (h : ¬ t.size = 0) : t.toList.isEmpty = false := by
  cases he : t.toList.isEmpty with
  | false => rfl
  | true =>
    exfalso
    apply h
    have h2 := decide_eq_emptyBytes t
    rw [he] at h2
    have : t = ByteArray.empty := of_decide_eq_true h2
    rw [this]
    rfl
theorem plain_in (d : VD) (w : World) :
    Calls Tryz.prog 107 #[.agg #[.int .i64 d.kind, .int .i64 d.num, .string d.text]] w fun e w' => Says e (Plain d) ∧ Below w.heap.size w w' := by
  obtain ⟨k, n, t⟩ := d
  dsimp only
  by_cases ht : t.size = 0
  · obtain rfl := text_empty t ht
    by_cases k0 : k = 0
    · subst k0
      by_cases n0 : n = 0
      · subst n0
        go_enter Tryz.func107, Tryz.ntmps107
        go_wp2_with fail
        go_ret
        exact ⟨Says.yes (by first | rfl | (simp; omega)) (by unfold Plain; dsimp only; omega), by go_grown⟩
      · go_enter Tryz.func107, Tryz.ntmps107
        go_wp2_with fail
        go_ret
        exact ⟨Says.no (by first | rfl | (simp; omega)) (by unfold Plain; dsimp only; omega), by go_grown⟩
    by_cases k1 : k = 1
    · subst k1
      by_cases n0 : n = 0
      · subst n0
        go_enter Tryz.func107, Tryz.ntmps107
        go_wp2_with fail
        go_ret
        exact ⟨Says.yes (by first | rfl | (simp; omega)) (by unfold Plain; dsimp only; omega), by go_grown⟩
      by_cases n1 : n = 1
      · subst n1
        go_enter Tryz.func107, Tryz.ntmps107
        go_wp2_with fail
        go_ret
        exact ⟨Says.yes (by first | rfl | (simp; omega)) (by unfold Plain; dsimp only; omega), by go_grown⟩
      · go_enter Tryz.func107, Tryz.ntmps107
        go_wp2_with fail
        go_ret
        exact ⟨Says.no (by first | rfl | (simp; omega)) (by unfold Plain; dsimp only; omega), by go_grown⟩
    by_cases k2 : k = 2
    · subst k2
      go_enter Tryz.func107, Tryz.ntmps107
      go_wp2_with fail
      go_ret
      exact ⟨Says.yes (by first | rfl | (simp; omega)) (by unfold Plain; dsimp only; omega), by go_grown⟩
    by_cases k3 : k = 3
    · subst k3
      by_cases n0 : n = 0
      · subst n0
        go_enter Tryz.func107, Tryz.ntmps107
        go_wp2_with fail
        refine (textFits_in _ _).mono ?_
        rintro e w1 ⟨⟨r, rfl, hr⟩, rfl⟩
        have hr' : Hid (r = true ↔ Plain ⟨3, 0, ⟨#[]⟩⟩) := hr.trans (by unfold Plain; dsimp only; omega)
        clear hr
        go_wp2_with fail
        go_ret
        exact ⟨Says.of rfl hr'.out, by go_grown⟩
      · go_enter Tryz.func107, Tryz.ntmps107
        go_wp2_with fail
        go_ret
        exact ⟨Says.no (by first | rfl | (simp; omega)) (by unfold Plain; dsimp only; omega), by go_grown⟩
    go_enter Tryz.func107, Tryz.ntmps107
    go_wp2_with fail
    go_ret
    exact ⟨Says.no (by first | rfl | (simp; omega)) (by unfold Plain; dsimp only; omega), by go_grown⟩
  · have hte := text_some t ht
    by_cases k0 : k = 0
    · subst k0
      by_cases n0 : n = 0
      · subst n0
        go_enter Tryz.func107, Tryz.ntmps107
        go_wp2_with fail
        go_ret
        exact ⟨Says.no (by first | rfl | (simp; omega)) (by unfold Plain; dsimp only; omega), by go_grown⟩
      · go_enter Tryz.func107, Tryz.ntmps107
        go_wp2_with fail
        go_ret
        exact ⟨Says.no (by first | rfl | (simp; omega)) (by unfold Plain; dsimp only; omega), by go_grown⟩
    by_cases k1 : k = 1
    · subst k1
      by_cases n0 : n = 0
      · subst n0
        go_enter Tryz.func107, Tryz.ntmps107
        go_wp2_with fail
        go_ret
        exact ⟨Says.no (by first | rfl | (simp; omega)) (by unfold Plain; dsimp only; omega), by go_grown⟩
      by_cases n1 : n = 1
      · subst n1
        go_enter Tryz.func107, Tryz.ntmps107
        go_wp2_with fail
        go_ret
        exact ⟨Says.no (by first | rfl | (simp; omega)) (by unfold Plain; dsimp only; omega), by go_grown⟩
      · go_enter Tryz.func107, Tryz.ntmps107
        go_wp2_with fail
        go_ret
        exact ⟨Says.no (by first | rfl | (simp; omega)) (by unfold Plain; dsimp only; omega), by go_grown⟩
    by_cases k2 : k = 2
    · subst k2
      go_enter Tryz.func107, Tryz.ntmps107
      go_wp2_with fail
      go_ret
      exact ⟨Says.no (by first | rfl | (simp; omega)) (by unfold Plain; dsimp only; omega), by go_grown⟩
    by_cases k3 : k = 3
    · subst k3
      by_cases n0 : n = 0
      · subst n0
        go_enter Tryz.func107, Tryz.ntmps107
        go_wp2_with fail
        refine (textFits_in _ _).mono ?_
        rintro e w1 ⟨⟨r, rfl, hr⟩, rfl⟩
        have hr' : Hid (r = true ↔ Plain ⟨3, 0, t⟩) := hr.trans (by unfold Plain; dsimp only; omega)
        clear hr
        go_wp2_with fail
        go_ret
        exact ⟨Says.of rfl hr'.out, by go_grown⟩
      · go_enter Tryz.func107, Tryz.ntmps107
        go_wp2_with fail
        go_ret
        exact ⟨Says.no (by first | rfl | (simp; omega)) (by unfold Plain; dsimp only; omega), by go_grown⟩
    go_enter Tryz.func107, Tryz.ntmps107
    go_wp2_with fail
    go_ret
    exact ⟨Says.no (by first | rfl | (simp; omega)) (by unfold Plain; dsimp only; omega), by go_grown⟩

theorem everyValue_in (s : Sl VD) (v : Value) (w : World) (hv : IsVals (· < w.heap.size) w v s) :
    Calls Tryz.prog 106 #[v, .func (.func 107) #[] #[]] w fun e w' => Says e (∀ i, i < s.n → Plain (s.f i)) ∧ Below w.heap.size w w' := by
  obtain ⟨⟨ao, cap, rfl, hn, hc⟩, -⟩ := hv
  obtain ⟨n, f⟩ := s
  simp only at hn hc ⊢
  go_enter Tryz.func106, Tryz.ntmps106
  go_wp2_with fail
  go_loopw [9] (fun i wr => ∃ (i' : Nat), i = .int .i64 i' ∧ i' ≤ n ∧ Below w.heap.size w wr ∧ Hid (∀ j, j < i' → Plain (f j))) (fun i _ => n - (intOf i).toNat)
  case atStart => exact ⟨0, rfl, by omega, Below.refl _ _, fun j hj => by omega⟩
  case round =>
    obtain ⟨i', rfl, q1, q2, q3⟩ := hrel
    by_cases hi : i' < n
    · obtain ⟨b, o, rfl, hb, hcc⟩ := hc (by omega)
      have c0 := hcc i' hi 0 (by omega)
      have c1 := hcc i' hi 1 (by omega)
      have c2 := hcc i' hi 2 (by omega)
      rw [← q2.cell (p := ⟨b, _, none⟩) hb] at c0 c1 c2
      simp only [Nat.add_zero, Nat.mul_one, vC] at c0 c1 c2
      clear hcc hc
      go_wp2_with fail
      refine (plain_in (f i') _).mono ?_
      rintro e w1 ⟨⟨r, rfl, hr⟩, b1⟩
      have hb1 : Below w.heap.size w w1 := (q2.alloc q2.size _).trans (b1.mono (by have := q2.size; simp; omega))
      clear c0 c1 c2
      cases r with
      | false =>
        have hno : Hid (¬ ∀ i, i < n → Plain (f i)) := fun h => by simpa using hr.2 (h i' hi)
        clear hr
        go_wp2_with fail
        go_ret
        exact ⟨Says.no rfl hno.out, hb1⟩
      | true =>
        have q5 : Hid (∀ j, j < i' + 1 → Plain (f j)) := fun j hj => by
          by_cases hji : j = i'
          · subst hji; exact hr.1 rfl
          · exact q3.out j (by omega)
        clear hr q3
        go_wp2_with fail
        go_roundw
        case rel => exact ⟨i' + 1, rfl, by omega, hb1, q5⟩
        case measure => simp [intOf]; omega
    · have z1 : Hid (∀ i, i < n → Plain (f i)) := fun j hj => q3.out j (by omega)
      clear q3
      go_wp2_with fail
      go_ret
      exact ⟨Says.yes rfl z1.out, q2⟩

theorem everyUp_in (s : Sl UD) (v : Value) (w : World) (hv : IsUps (· < w.heap.size) w v s) :
    Calls Tryz.prog 108 #[v, .func (.func 109) #[] #[]] w fun e w' => Says e (∀ i, i < s.n → NumOk (s.f i).index) ∧ Below w.heap.size w w' := by
  obtain ⟨ao, cap, rfl, hn, hc⟩ := hv
  obtain ⟨n, f⟩ := s
  simp only at hn hc ⊢
  go_enter Tryz.func108, Tryz.ntmps108
  go_wp2_with fail
  go_loopw [9] (fun i wr => ∃ (i' : Nat), i = .int .i64 i' ∧ i' ≤ n ∧ Below w.heap.size w wr ∧ Hid (∀ j, j < i' → NumOk (f j).index)) (fun i _ => n - (intOf i).toNat)
  case atStart => exact ⟨0, rfl, by omega, Below.refl _ _, fun j hj => by omega⟩
  case round =>
    obtain ⟨i', rfl, q1, q2, q3⟩ := hrel
    by_cases hi : i' < n
    · obtain ⟨b, o, rfl, hb, hcc⟩ := hc (by omega)
      have c0 := hcc i' hi 0 (by omega)
      have c1 := hcc i' hi 1 (by omega)
      rw [← q2.cell (p := ⟨b, _, none⟩) hb] at c0 c1
      simp only [Nat.add_zero, Nat.mul_one, uC] at c0 c1
      clear hcc hc
      go_wp2_with fail
      refine (upFits_in (f i') _).mono ?_
      rintro e w1 ⟨⟨r, rfl, hr⟩, b1⟩
      have hb1 : Below w.heap.size w w1 := (q2.alloc q2.size _).trans (b1.mono (by have := q2.size; simp; omega))
      clear c0 c1
      cases r with
      | false =>
        have hno : Hid (¬ ∀ i, i < n → NumOk (f i).index) := fun h => by simpa using hr.2 (h i' hi)
        clear hr
        go_wp2_with fail
        go_ret
        exact ⟨Says.no rfl hno.out, hb1⟩
      | true =>
        have q5 : Hid (∀ j, j < i' + 1 → NumOk (f j).index) := fun j hj => by
          by_cases hji : j = i'
          · subst hji; exact hr.1 rfl
          · exact q3.out j (by omega)
        clear hr q3
        go_wp2_with fail
        go_roundw
        case rel => exact ⟨i' + 1, rfl, by omega, hb1, q5⟩
        case measure => simp [intOf]; omega
    · have z1 : Hid (∀ i, i < n → NumOk (f i).index) := fun j hj => q3.out j (by omega)
      clear q3
      go_wp2_with fail
      go_ret
      exact ⟨Says.yes rfl z1.out, q2⟩

theorem everyInt_in (s : Sl Int) (v : Value) (w : World) (hv : IsInts .i64 (· < w.heap.size) w v s) :
    Calls Tryz.prog 112 #[v, .func (.func 70) #[] #[]] w fun e w' => Says e (∀ i, i < s.n → NumOk (s.f i)) ∧ Below w.heap.size w w' := by
  obtain ⟨ao, cap, rfl, hn, hc⟩ := hv
  obtain ⟨n, f⟩ := s
  simp only at hn hc ⊢
  go_enter Tryz.func112, Tryz.ntmps112
  go_wp2_with fail
  go_loopw [9] (fun i wr => ∃ (i' : Nat), i = .int .i64 i' ∧ i' ≤ n ∧ Below w.heap.size w wr ∧ Hid (∀ j, j < i' → NumOk (f j))) (fun i _ => n - (intOf i).toNat)
  case atStart => exact ⟨0, rfl, by omega, Below.refl _ _, fun j hj => by omega⟩
  case round =>
    obtain ⟨i', rfl, q1, q2, q3⟩ := hrel
    by_cases hi : i' < n
    · obtain ⟨b, o, rfl, hb, hcc⟩ := hc (by omega)
      have c0 := hcc i' hi 0 (by omega)
      rw [← q2.cell (p := ⟨b, _, none⟩) hb] at c0
      simp only [Nat.add_zero, Nat.mul_one, iC] at c0
      clear hcc hc
      go_wp2_with fail
      refine (numberFits_in (f i') _).mono ?_
      rintro e w1 ⟨⟨r, rfl, hr⟩, rfl⟩
      have hb1 := q2
      clear c0
      cases r with
      | false =>
        have hno : Hid (¬ ∀ i, i < n → NumOk (f i)) := fun h => by simpa using hr.2 (h i' hi)
        clear hr
        go_wp2_with fail
        go_ret
        exact ⟨Says.no rfl hno.out, hb1⟩
      | true =>
        have q5 : Hid (∀ j, j < i' + 1 → NumOk (f j)) := fun j hj => by
          by_cases hji : j = i'
          · subst hji; exact hr.1 rfl
          · exact q3.out j (by omega)
        clear hr q3
        go_wp2_with fail
        go_roundw
        case rel => exact ⟨i' + 1, rfl, by omega, hb1, q5⟩
        case measure => simp [intOf]; omega
    · have z1 : Hid (∀ i, i < n → NumOk (f i)) := fun j hj => q3.out j (by omega)
      clear q3
      go_wp2_with fail
      go_ret
      exact ⟨Says.yes rfl z1.out, q2⟩

theorem everyStr_in (s : Sl ByteArray) (v : Value) (w : World) (hv : IsStrs (· < w.heap.size) w v s) :
    Calls Tryz.prog 113 #[v, .func (.func 110) #[] #[]] w fun e w' => Says e (∀ i, i < s.n → (s.f i).size ≤ 1000) ∧ Below w.heap.size w w' := by
  obtain ⟨⟨ao, cap, rfl, hn, hc⟩, -⟩ := hv
  obtain ⟨n, f⟩ := s
  simp only at hn hc ⊢
  go_enter Tryz.func113, Tryz.ntmps113
  go_wp2_with fail
  go_loopw [9] (fun i wr => ∃ (i' : Nat), i = .int .i64 i' ∧ i' ≤ n ∧ Below w.heap.size w wr ∧ Hid (∀ j, j < i' → (f j).size ≤ 1000)) (fun i _ => n - (intOf i).toNat)
  case atStart => exact ⟨0, rfl, by omega, Below.refl _ _, fun j hj => by omega⟩
  case round =>
    obtain ⟨i', rfl, q1, q2, q3⟩ := hrel
    by_cases hi : i' < n
    · obtain ⟨b, o, rfl, hb, hcc⟩ := hc (by omega)
      have c0 := hcc i' hi 0 (by omega)
      rw [← q2.cell (p := ⟨b, _, none⟩) hb] at c0
      simp only [Nat.add_zero, Nat.mul_one, sC] at c0
      clear hcc hc
      go_wp2_with fail
      refine (textFits_in (f i') _).mono ?_
      rintro e w1 ⟨⟨r, rfl, hr⟩, rfl⟩
      have hb1 := q2
      clear c0
      cases r with
      | false =>
        have hno : Hid (¬ ∀ i, i < n → (f i).size ≤ 1000) := fun h => by simpa using hr.2 (h i' hi)
        clear hr
        go_wp2_with fail
        go_ret
        exact ⟨Says.no rfl hno.out, hb1⟩
      | true =>
        have q5 : Hid (∀ j, j < i' + 1 → (f j).size ≤ 1000) := fun j hj => by
          by_cases hji : j = i'
          · subst hji; exact hr.1 rfl
          · exact q3.out j (by omega)
        clear hr q3
        go_wp2_with fail
        go_roundw
        case rel => exact ⟨i' + 1, rfl, by omega, hb1, q5⟩
        case measure => simp [intOf]; omega
    · have z1 : Hid (∀ i, i < n → (f i).size ≤ 1000) := fun j hj => q3.out j (by omega)
      clear q3
      go_wp2_with fail
      go_ret
      exact ⟨Says.yes rfl z1.out, q2⟩
end
end Go.Proofs.YtkanjbopfflioaaGreatDoor

import Derived.Test.YtckapapejfnojaaGreatDoorGEV
namespace Go.Proofs.YtckapapejfnojaaGreatDoor
open Go.RowKit
set_option linter.unusedVariables false
set_option linter.unusedSimpArgs false

set_option maxRecDepth 100000 in
set_option maxHeartbeats 8000000 in
theorem l2ProtoOk_yes00 (p : PD) (a3 a4 a5 a8 a9 : Value) (w : World) (hp : IsProto (· < w.heap.size) w a3 a4 a5 a8 a9 p) (g0 : ¬ p.regs < 1) (g1 : ¬ 250 < p.regs) (g2 : ¬ p.params < 0) (g3 : ¬ p.regs < p.params) (g4 : ¬ p.code.n < 1) (g5 : ¬ 2000 < p.code.n) (g6 : ¬ 500 < p.consts.n) (g7 : ¬ 60 < p.ups.n) (g8 : ¬ 1000 < p.name.size) (gl1 : ¬ 0 < p.lines.n) (gu1 : ¬ 0 < p.upNames.n) :
    Calls Tryz.prog 69 #[pAgg p a3 a4 a5 a8 a9] w fun e w' => Says e (ProtoOk p) ∧ Below w.heap.size w w' := by
  obtain ⟨p3, p4, p5, p8, p9, -⟩ := hp
  obtain ⟨o3, c3, rfl, n3, -⟩ := p3
  obtain ⟨o5, c5, rfl, n5, k5⟩ := p5
  obtain ⟨o8, c8, rfl, n8, k8⟩ := p8
  obtain ⟨⟨o4, c4, rfl, n4, k4⟩, -⟩ := p4
  obtain ⟨⟨o9, c9, rfl, n9, k9⟩, -⟩ := p9
  unfold pAgg
  go_enter Tryz.func69, Tryz.ntmps69
  go_wp2_with fail
  have R0 : RowL (w.alloc (.cells #[.int .i64 p.params, .bool p.vararg, .int .i64 p.regs, .slice o3 p.code.n c3, .slice o4 p.consts.n c4, .slice o5 p.ups.n c5, .int .i64 p.kids, .string p.name, .slice o8 p.lines.n c8, .slice o9 p.upNames.n c9] 52)) w.heap.size 52 [.int .i64 p.params, .bool p.vararg, .int .i64 p.regs, .slice o3 p.code.n c3, .slice o4 p.consts.n c4, .slice o5 p.ups.n c5, .int .i64 p.kids, .string p.name, .slice o8 p.lines.n c8, .slice o9 p.upNames.n c9] := RowL.new w _ 52
  have bw : Below w.heap.size w (w.alloc (.cells #[.int .i64 p.params, .bool p.vararg, .int .i64 p.regs, .slice o3 p.code.n c3, .slice o4 p.consts.n c4, .slice o5 p.ups.n c5, .int .i64 p.kids, .string p.name, .slice o8 p.lines.n c8, .slice o9 p.upNames.n c9] 52)) := by go_grown
  generalize w.alloc (.cells #[.int .i64 p.params, .bool p.vararg, .int .i64 p.regs, .slice o3 p.code.n c3, .slice o4 p.consts.n c4, .slice o5 p.ups.n c5, .int .i64 p.kids, .string p.name, .slice o8 p.lines.n c8, .slice o9 p.upNames.n c9] 52) = wx at R0 bw ⊢
  go_loopw [3] (fun i wr => ∃ (i' : Nat), i = .int .i64 i' ∧ i' ≤ p.consts.n ∧ Below wx.heap.size wx wr ∧ Hid (∀ j, j < i' → Plain (p.consts.f j))) (fun i _ => p.consts.n - (intOf i).toNat)
  case atStart => exact ⟨0, rfl, by omega, Below.refl _ _, fun j hj => by omega⟩
  case round =>
    obtain ⟨i', rfl, q1, q2, q3⟩ := hrel
    have r4 := (R0.call q2).cell 4 rfl
    have q4 := bw.trans (q2.mono bw.size)
    by_cases hi : i' < p.consts.n
    · obtain ⟨b, o, rfl, hb, hcc⟩ := k4 (by omega)
      have c0 := hcc i' hi 0 (by omega)
      have c1 := hcc i' hi 1 (by omega)
      have c2 := hcc i' hi 2 (by omega)
      rw [← q4.cell (p := ⟨b, _, none⟩) hb] at c0 c1 c2
      simp only [Nat.add_zero, Nat.mul_one, vC] at c0 c1 c2
      clear hcc k4 k5 k8 k9
      go_wp2_with fail
      refine (l2Plain_in (p.consts.f i') _).mono ?_
      rintro e w1 ⟨⟨r, rfl, hr⟩, b1⟩
      have hb1 : Below wx.heap.size wx w1 := q2.trans (b1.mono q2.size)
      clear c0 c1 c2 r4
      cases r with
      | false =>
        have hno : Hid (¬ ProtoOk p) := fun h => by simpa using hr.2 (h.allConsts i' hi)
        clear hr
        go_wp2_with fail
        go_ret
        exact ⟨Says.no rfl hno.out, bw.trans (hb1.mono bw.size)⟩
      | true =>
        have q5 : Hid (∀ j, j < i' + 1 → Plain (p.consts.f j)) := fun j hj => by
          by_cases hji : j = i'
          · subst hji; exact hr.1 rfl
          · exact q3.out j (by omega)
        clear hr q3
        go_wp2_with fail
        go_roundw
        case rel => exact ⟨i' + 1, rfl, by omega, hb1, q5⟩
        case measure => simp [intOf]; omega
    · have bb1 : Below wx.heap.size wx wr := q2
      have z1 : Hid (∀ j, j < p.consts.n → Plain (p.consts.f j)) := fun j hj => q3.out j (by omega)
      clear q3 q4
      go_wp2_with fail
      clear r4
      go_loopw [4] (fun i wr => ∃ (i' : Nat), i = .int .i64 i' ∧ i' ≤ p.ups.n ∧ Below wx.heap.size wx wr ∧ Hid (∀ j, j < i' → NumOk (p.ups.f j).index)) (fun i _ => p.ups.n - (intOf i).toNat)
      case atStart => exact ⟨0, rfl, by omega, bb1, fun j hj => by omega⟩
      case round =>
        obtain ⟨i', rfl, q1, q2, q3⟩ := hrel
        have r5 := (R0.call q2).cell 5 rfl
        have q4 := bw.trans (q2.mono bw.size)
        by_cases hi : i' < p.ups.n
        · obtain ⟨b, o, rfl, hb, hcc⟩ := k5 (by omega)
          have c1 := hcc i' hi 1 (by omega)
          rw [← q4.cell (p := ⟨b, _, none⟩) hb] at c1
          simp only [Nat.add_zero, Nat.mul_one, uC] at c1
          clear hcc k4 k5 k8 k9
          go_wp2_with fail
          refine (l2NumOk_in (p.ups.f i').index _).mono ?_
          rintro e w1 ⟨⟨r, rfl, hr⟩, b1⟩
          have hb1 : Below wx.heap.size wx w1 := q2.trans (b1.mono q2.size)
          clear c1 r5
          cases r with
          | false =>
            have hno : Hid (¬ ProtoOk p) := fun h => by simpa using hr.2 (h.allUps i' hi)
            clear hr
            go_wp2_with fail
            go_ret
            exact ⟨Says.no rfl hno.out, bw.trans (hb1.mono bw.size)⟩
          | true =>
            have q5 : Hid (∀ j, j < i' + 1 → NumOk (p.ups.f j).index) := fun j hj => by
              by_cases hji : j = i'
              · subst hji; exact hr.1 rfl
              · exact q3.out j (by omega)
            clear hr q3
            go_wp2_with fail
            go_roundw
            case rel => exact ⟨i' + 1, rfl, by omega, hb1, q5⟩
            case measure => simp [intOf]; omega
        · have bb2 : Below wx.heap.size wx wr := q2
          have z2 : Hid (∀ j, j < p.ups.n → NumOk (p.ups.f j).index) := fun j hj => q3.out j (by omega)
          clear q3 q4
          go_wp2_with fail
          clear r5
          go_loopw [5] (fun i wr => ∃ (i' : Nat), i = .int .i64 i' ∧ i' ≤ p.lines.n ∧ Below wx.heap.size wx wr ∧ Hid (∀ j, j < i' → NumOk (p.lines.f j))) (fun i _ => p.lines.n - (intOf i).toNat)
          case atStart => exact ⟨0, rfl, by omega, bb2, fun j hj => by omega⟩
          case round =>
            obtain ⟨i', rfl, q1, q2, q3⟩ := hrel
            have r8 := (R0.call q2).cell 8 rfl
            have q4 := bw.trans (q2.mono bw.size)
            by_cases hi : i' < p.lines.n
            · exfalso; omega
            · have bb3 : Below wx.heap.size wx wr := q2
              have z3 : Hid (∀ j, j < p.lines.n → NumOk (p.lines.f j)) := fun j hj => q3.out j (by omega)
              clear q3 q4
              go_wp2_with fail
              clear r8
              go_loopw [6] (fun i wr => ∃ (i' : Nat), i = .int .i64 i' ∧ i' ≤ p.upNames.n ∧ Below wx.heap.size wx wr ∧ Hid (∀ j, j < i' → (p.upNames.f j).size ≤ 1000)) (fun i _ => p.upNames.n - (intOf i).toNat)
              case atStart => exact ⟨0, rfl, by omega, bb3, fun j hj => by omega⟩
              case round =>
                obtain ⟨i', rfl, q1, q2, q3⟩ := hrel
                have r9 := (R0.call q2).cell 9 rfl
                have q4 := bw.trans (q2.mono bw.size)
                by_cases hi : i' < p.upNames.n
                · exfalso; omega
                · have bb4 : Below wx.heap.size wx wr := q2
                  have z4 : Hid (∀ j, j < p.upNames.n → (p.upNames.f j).size ≤ 1000) := fun j hj => q3.out j (by omega)
                  clear q3 q4
                  go_wp2_with fail
                  go_ret
                  exact ⟨Says.yes rfl ⟨by omega, by omega, by omega, by omega, by omega, by omega, by omega, by omega, by omega, by omega, by omega, z1.out, z2.out, z3.out, z4.out⟩, bw.trans (bb4.mono bw.size)⟩
end Go.Proofs.YtckapapejfnojaaGreatDoor

import Derived.Test.YtckapapejfnojaaGreatDoorStE
namespace Go.Proofs.YtckapapejfnojaaGreatDoor
open Go.RowKit
set_option linter.unusedVariables false
set_option linter.unusedSimpArgs false
theorem OwnArr.call {w w' : World} {v : Value} {z n B : Nat} {C : Nat → Nat → Value} (h : OwnArr w v z n C B) (hb : Below w.heap.size w w') : OwnArr w' v z n C B := h.keep fun hp => hb.block _ (h.lt hp)
theorem OwnArr.store {w : World} {v : Value} {z n B : Nat} {C : Nat → Nat → Value} (h : OwnArr w v z n C B) {a : Addr} (ha : B ≠ a.block) (u : Value) : OwnArr (w.setCell a u) v z n C B := h.keep fun hp => Below.heap_setCell w a u B ha
set_option maxRecDepth 100000 in
set_option maxHeartbeats 2000000 in
theorem toProto_own (p : PD) (a3 a4 a5 a8 a9 : Value) (w : World) (hp : IsProto (· < w.heap.size) w a3 a4 a5 a8 a9 p) (hs : SmallP p) :
    Calls Tryz.prog 73 #[pAgg p a3 a4 a5 a8 a9] w fun e w' =>
      ∃ b3 b4 b5 b8 b9 B3 B4 B5 B8 B9, e = .returned (pAgg p b3 b4 b5 b8 b9) ∧ OwnProto w' w.heap.size w'.heap.size b3 b4 b5 b8 b9 B3 B4 B5 B8 B9 p ∧ Below w.heap.size w w' := by
  obtain ⟨s3, s4, s5, s8, s9⟩ := hs
  obtain ⟨p3, p4, p5, p8, p9, pn⟩ := hp
  have p3' := p3
  have p4' := p4
  have p5' := p5
  have p8' := p8
  have p9' := p9
  obtain ⟨o3, c3, rfl, -, -⟩ := p3
  obtain ⟨o5, c5, rfl, -, -⟩ := p5
  obtain ⟨o8, c8, rfl, -, -⟩ := p8
  obtain ⟨⟨o4, c4, rfl, -, -⟩, -⟩ := p4
  obtain ⟨⟨o9, c9, rfl, -, -⟩, -⟩ := p9
  unfold pAgg
  go_enter Tryz.func73, Tryz.ntmps73
  go_wp2_with fail
  have R0 : RowL (((w.alloc (.cells #[.int .i64 p.params, .bool p.vararg, .int .i64 p.regs, .slice o3 p.code.n c3, .slice o4 p.consts.n c4, .slice o5 p.ups.n c5, .int .i64 p.kids, .string p.name, .slice o8 p.lines.n c8, .slice o9 p.upNames.n c9] 137)).alloc (.cells #[.int .i64 0, .bool false, .int .i64 0, .slice none 0 0, .slice none 0 0, .slice none 0 0, .int .i64 0, .string ⟨#[]⟩, .slice none 0 0, .slice none 0 0] 52)).alloc (.cells #[.int .i64 p.params, .bool p.vararg, .int .i64 p.regs, .slice none 0 0, .slice none 0 0, .slice none 0 0, .int .i64 0, .string ⟨#[]⟩, .slice none 0 0, .slice none 0 0] 52)) w.heap.size 137 [.int .i64 p.params, .bool p.vararg, .int .i64 p.regs, .slice o3 p.code.n c3, .slice o4 p.consts.n c4, .slice o5 p.ups.n c5, .int .i64 p.kids, .string p.name, .slice o8 p.lines.n c8, .slice o9 p.upNames.n c9] := ((RowL.new w _ 137).alloc _).alloc _
  have R1 : RowL (((w.alloc (.cells #[.int .i64 p.params, .bool p.vararg, .int .i64 p.regs, .slice o3 p.code.n c3, .slice o4 p.consts.n c4, .slice o5 p.ups.n c5, .int .i64 p.kids, .string p.name, .slice o8 p.lines.n c8, .slice o9 p.upNames.n c9] 137)).alloc (.cells #[.int .i64 0, .bool false, .int .i64 0, .slice none 0 0, .slice none 0 0, .slice none 0 0, .int .i64 0, .string ⟨#[]⟩, .slice none 0 0, .slice none 0 0] 52)).alloc (.cells #[.int .i64 p.params, .bool p.vararg, .int .i64 p.regs, .slice none 0 0, .slice none 0 0, .slice none 0 0, .int .i64 0, .string ⟨#[]⟩, .slice none 0 0, .slice none 0 0] 52)) (w.heap.size + 1) 52 [.int .i64 0, .bool false, .int .i64 0, .slice none 0 0, .slice none 0 0, .slice none 0 0, .int .i64 0, .string ⟨#[]⟩, .slice none 0 0, .slice none 0 0] := by
    have := (RowL.new (w.alloc (.cells #[.int .i64 p.params, .bool p.vararg, .int .i64 p.regs, .slice o3 p.code.n c3, .slice o4 p.consts.n c4, .slice o5 p.ups.n c5, .int .i64 p.kids, .string p.name, .slice o8 p.lines.n c8, .slice o9 p.upNames.n c9] 137)) [.int .i64 0, .bool false, .int .i64 0, .slice none 0 0, .slice none 0 0, .slice none 0 0, .int .i64 0, .string ⟨#[]⟩, .slice none 0 0, .slice none 0 0] 52).alloc (.cells #[.int .i64 p.params, .bool p.vararg, .int .i64 p.regs, .slice none 0 0, .slice none 0 0, .slice none 0 0, .int .i64 0, .string ⟨#[]⟩, .slice none 0 0, .slice none 0 0] 52)
    rwa [World.size_alloc] at this
  have R2 : RowL (((w.alloc (.cells #[.int .i64 p.params, .bool p.vararg, .int .i64 p.regs, .slice o3 p.code.n c3, .slice o4 p.consts.n c4, .slice o5 p.ups.n c5, .int .i64 p.kids, .string p.name, .slice o8 p.lines.n c8, .slice o9 p.upNames.n c9] 137)).alloc (.cells #[.int .i64 0, .bool false, .int .i64 0, .slice none 0 0, .slice none 0 0, .slice none 0 0, .int .i64 0, .string ⟨#[]⟩, .slice none 0 0, .slice none 0 0] 52)).alloc (.cells #[.int .i64 p.params, .bool p.vararg, .int .i64 p.regs, .slice none 0 0, .slice none 0 0, .slice none 0 0, .int .i64 0, .string ⟨#[]⟩, .slice none 0 0, .slice none 0 0] 52)) (w.heap.size + 2) 52 [.int .i64 p.params, .bool p.vararg, .int .i64 p.regs, .slice none 0 0, .slice none 0 0, .slice none 0 0, .int .i64 0, .string ⟨#[]⟩, .slice none 0 0, .slice none 0 0] := by
    have := RowL.new ((w.alloc (.cells #[.int .i64 p.params, .bool p.vararg, .int .i64 p.regs, .slice o3 p.code.n c3, .slice o4 p.consts.n c4, .slice o5 p.ups.n c5, .int .i64 p.kids, .string p.name, .slice o8 p.lines.n c8, .slice o9 p.upNames.n c9] 137)).alloc (.cells #[.int .i64 0, .bool false, .int .i64 0, .slice none 0 0, .slice none 0 0, .slice none 0 0, .int .i64 0, .string ⟨#[]⟩, .slice none 0 0, .slice none 0 0] 52)) [.int .i64 p.params, .bool p.vararg, .int .i64 p.regs, .slice none 0 0, .slice none 0 0, .slice none 0 0, .int .i64 0, .string ⟨#[]⟩, .slice none 0 0, .slice none 0 0] 52
    rwa [World.size_alloc, World.size_alloc] at this
  have bw : Below w.heap.size w (((w.alloc (.cells #[.int .i64 p.params, .bool p.vararg, .int .i64 p.regs, .slice o3 p.code.n c3, .slice o4 p.consts.n c4, .slice o5 p.ups.n c5, .int .i64 p.kids, .string p.name, .slice o8 p.lines.n c8, .slice o9 p.upNames.n c9] 137)).alloc (.cells #[.int .i64 0, .bool false, .int .i64 0, .slice none 0 0, .slice none 0 0, .slice none 0 0, .int .i64 0, .string ⟨#[]⟩, .slice none 0 0, .slice none 0 0] 52)).alloc (.cells #[.int .i64 p.params, .bool p.vararg, .int .i64 p.regs, .slice none 0 0, .slice none 0 0, .slice none 0 0, .int .i64 0, .string ⟨#[]⟩, .slice none 0 0, .slice none 0 0] 52)) := by go_grown
  have sz : w.heap.size + 3 ≤ (((w.alloc (.cells #[.int .i64 p.params, .bool p.vararg, .int .i64 p.regs, .slice o3 p.code.n c3, .slice o4 p.consts.n c4, .slice o5 p.ups.n c5, .int .i64 p.kids, .string p.name, .slice o8 p.lines.n c8, .slice o9 p.upNames.n c9] 137)).alloc (.cells #[.int .i64 0, .bool false, .int .i64 0, .slice none 0 0, .slice none 0 0, .slice none 0 0, .int .i64 0, .string ⟨#[]⟩, .slice none 0 0, .slice none 0 0] 52)).alloc (.cells #[.int .i64 p.params, .bool p.vararg, .int .i64 p.regs, .slice none 0 0, .slice none 0 0, .slice none 0 0, .int .i64 0, .string ⟨#[]⟩, .slice none 0 0, .slice none 0 0] 52)).heap.size := by simp
  generalize ((w.alloc (.cells #[.int .i64 p.params, .bool p.vararg, .int .i64 p.regs, .slice o3 p.code.n c3, .slice o4 p.consts.n c4, .slice o5 p.ups.n c5, .int .i64 p.kids, .string p.name, .slice o8 p.lines.n c8, .slice o9 p.upNames.n c9] 137)).alloc (.cells #[.int .i64 0, .bool false, .int .i64 0, .slice none 0 0, .slice none 0 0, .slice none 0 0, .int .i64 0, .string ⟨#[]⟩, .slice none 0 0, .slice none 0 0] 52)).alloc (.cells #[.int .i64 p.params, .bool p.vararg, .int .i64 p.regs, .slice none 0 0, .slice none 0 0, .slice none 0 0, .int .i64 0, .string ⟨#[]⟩, .slice none 0 0, .slice none 0 0] 52) = wx at R0 R1 R2 bw sz ⊢
  refine (toUint32S_own p.code _ _ (p3'.later bw) s3).mono ?_
  rintro e y3 ⟨⟨v3, rfl, i3⟩, b3, l3⟩
  have i3' := i3
  obtain ⟨q3, d3, rfl, -, -⟩ := i3'
  have g3 : w.heap.size + 3 ≤ wx.heap.size := sz
  replace R0 := R0.call b3
  replace R1 := R1.call b3
  replace R2 := R2.call b3
  replace bw : Below w.heap.size w y3 := bw.trans (b3.mono bw.size)
  replace sz : w.heap.size + 3 ≤ y3.heap.size := Nat.le_trans sz b3.size
  clear b3
  have x3 := R2.cell 3 rfl
  have z3 := R2.frozen 3
  have u4 := R0.cell 4 rfl
  go_wp2_with fail
  clear x3 z3 u4
  replace i3 := i3.store (a := ⟨w.heap.size + 2, 3, none⟩) (show wx.heap.size ≠ w.heap.size + 2 by omega) (.slice q3 p.code.n d3)
  replace R0 := R0.other (a := ⟨w.heap.size + 2, 3, none⟩) (by simp) (.slice q3 p.code.n d3)
  replace R1 := R1.other (a := ⟨w.heap.size + 2, 3, none⟩) (by simp) (.slice q3 p.code.n d3)
  replace R2 := R2.set 3 (.slice q3 p.code.n d3)
  replace bw := bw.setCell (p := ⟨w.heap.size + 2, 3, none⟩) (by simp) (.slice q3 p.code.n d3)
  simp only [List.set] at R2
  replace sz : w.heap.size + 3 ≤ (y3.setCell ⟨w.heap.size + 2, 3, none⟩ (.slice q3 p.code.n d3)).heap.size := by simpa using sz
  replace l3 : wx.heap.size < (y3.setCell ⟨w.heap.size + 2, 3, none⟩ (.slice q3 p.code.n d3)).heap.size := by simpa using l3
  generalize (y3.setCell ⟨w.heap.size + 2, 3, none⟩ (.slice q3 p.code.n d3)) = m3 at R0 R1 R2 bw sz i3 l3 ⊢
  refine (toValueS_own p.consts _ _ ⟨p4'.1.later bw, p4'.2⟩ s4).mono ?_
  rintro e y4 ⟨⟨v4, rfl, i4⟩, b4, l4⟩
  have i4' := i4
  obtain ⟨q4, d4, rfl, -, -⟩ := i4'
  have g4 : w.heap.size + 3 ≤ m3.heap.size := sz
  have p3_4 : wx.heap.size < m3.heap.size := l3
  have l3_4 : wx.heap.size < y4.heap.size := Nat.lt_of_lt_of_le l3 (by have := b4.size; omega)
  replace i3 := i3.call b4
  replace l3 := l3_4
  clear l3_4
  replace R0 := R0.call b4
  replace R1 := R1.call b4
  replace R2 := R2.call b4
  replace bw : Below w.heap.size w y4 := bw.trans (b4.mono bw.size)
  replace sz : w.heap.size + 3 ≤ y4.heap.size := Nat.le_trans sz b4.size
  clear b4
  have x4 := R2.cell 4 rfl
  have z4 := R2.frozen 4
  have u5 := R0.cell 5 rfl
  go_wp2_with fail
  clear x4 z4 u5
  replace i3 := i3.store (a := ⟨w.heap.size + 2, 4, none⟩) (show wx.heap.size ≠ w.heap.size + 2 by omega) (.slice q4 p.consts.n d4)
  replace i4 := i4.store (a := ⟨w.heap.size + 2, 4, none⟩) (show m3.heap.size ≠ w.heap.size + 2 by omega) (.slice q4 p.consts.n d4)
  replace R0 := R0.other (a := ⟨w.heap.size + 2, 4, none⟩) (by simp) (.slice q4 p.consts.n d4)
  replace R1 := R1.other (a := ⟨w.heap.size + 2, 4, none⟩) (by simp) (.slice q4 p.consts.n d4)
  replace R2 := R2.set 4 (.slice q4 p.consts.n d4)
  replace bw := bw.setCell (p := ⟨w.heap.size + 2, 4, none⟩) (by simp) (.slice q4 p.consts.n d4)
  simp only [List.set] at R2
  replace sz : w.heap.size + 3 ≤ (y4.setCell ⟨w.heap.size + 2, 4, none⟩ (.slice q4 p.consts.n d4)).heap.size := by simpa using sz
  replace l3 : wx.heap.size < (y4.setCell ⟨w.heap.size + 2, 4, none⟩ (.slice q4 p.consts.n d4)).heap.size := by simpa using l3
  replace l4 : m3.heap.size < (y4.setCell ⟨w.heap.size + 2, 4, none⟩ (.slice q4 p.consts.n d4)).heap.size := by simpa using l4
  generalize (y4.setCell ⟨w.heap.size + 2, 4, none⟩ (.slice q4 p.consts.n d4)) = m4 at R0 R1 R2 bw sz i3 l3 i4 l4 ⊢
  refine (toUpS_own p.ups _ _ (p5'.later bw) s5).mono ?_
  rintro e y5 ⟨⟨v5, rfl, i5⟩, b5, l5⟩
  have i5' := i5
  obtain ⟨q5, d5, rfl, -, -⟩ := i5'
  have g5 : w.heap.size + 3 ≤ m4.heap.size := sz
  have p3_5 : wx.heap.size < m4.heap.size := l3
  have p4_5 : m3.heap.size < m4.heap.size := l4
  have l3_5 : wx.heap.size < y5.heap.size := Nat.lt_of_lt_of_le l3 (by have := b5.size; omega)
  have l4_5 : m3.heap.size < y5.heap.size := Nat.lt_of_lt_of_le l4 (by have := b5.size; omega)
  replace i3 := i3.call b5
  replace i4 := i4.call b5
  replace l3 := l3_5
  clear l3_5
  replace l4 := l4_5
  clear l4_5
  replace R0 := R0.call b5
  replace R1 := R1.call b5
  replace R2 := R2.call b5
  replace bw : Below w.heap.size w y5 := bw.trans (b5.mono bw.size)
  replace sz : w.heap.size + 3 ≤ y5.heap.size := Nat.le_trans sz b5.size
  clear b5
  have x5 := R2.cell 5 rfl
  have z5 := R2.frozen 5
  have x6 := R2.cell 6 rfl
  have z6 := R2.frozen 6
  have x7 := R2.cell 7 rfl
  have z7 := R2.frozen 7
  have u6 := R0.cell 6 rfl
  have u7 := R0.cell 7 rfl
  have u8 := R0.cell 8 rfl
  go_wp2_with fail
  clear x5 z5 x6 z6 x7 z7 u6 u7 u8
  replace i3 := i3.store (a := ⟨w.heap.size + 2, 5, none⟩) (show wx.heap.size ≠ w.heap.size + 2 by omega) (.slice q5 p.ups.n d5)
  replace i4 := i4.store (a := ⟨w.heap.size + 2, 5, none⟩) (show m3.heap.size ≠ w.heap.size + 2 by omega) (.slice q5 p.ups.n d5)
  replace i5 := i5.store (a := ⟨w.heap.size + 2, 5, none⟩) (show m4.heap.size ≠ w.heap.size + 2 by omega) (.slice q5 p.ups.n d5)
  replace R0 := R0.other (a := ⟨w.heap.size + 2, 5, none⟩) (by simp) (.slice q5 p.ups.n d5)
  replace R1 := R1.other (a := ⟨w.heap.size + 2, 5, none⟩) (by simp) (.slice q5 p.ups.n d5)
  replace R2 := R2.set 5 (.slice q5 p.ups.n d5)
  replace bw := bw.setCell (p := ⟨w.heap.size + 2, 5, none⟩) (by simp) (.slice q5 p.ups.n d5)
  replace i3 := i3.store (a := ⟨w.heap.size + 2, 6, none⟩) (show wx.heap.size ≠ w.heap.size + 2 by omega) (.int .i64 p.kids)
  replace i4 := i4.store (a := ⟨w.heap.size + 2, 6, none⟩) (show m3.heap.size ≠ w.heap.size + 2 by omega) (.int .i64 p.kids)
  replace i5 := i5.store (a := ⟨w.heap.size + 2, 6, none⟩) (show m4.heap.size ≠ w.heap.size + 2 by omega) (.int .i64 p.kids)
  replace R0 := R0.other (a := ⟨w.heap.size + 2, 6, none⟩) (by simp) (.int .i64 p.kids)
  replace R1 := R1.other (a := ⟨w.heap.size + 2, 6, none⟩) (by simp) (.int .i64 p.kids)
  replace R2 := R2.set 6 (.int .i64 p.kids)
  replace bw := bw.setCell (p := ⟨w.heap.size + 2, 6, none⟩) (by simp) (.int .i64 p.kids)
  replace i3 := i3.store (a := ⟨w.heap.size + 2, 7, none⟩) (show wx.heap.size ≠ w.heap.size + 2 by omega) (.string p.name)
  replace i4 := i4.store (a := ⟨w.heap.size + 2, 7, none⟩) (show m3.heap.size ≠ w.heap.size + 2 by omega) (.string p.name)
  replace i5 := i5.store (a := ⟨w.heap.size + 2, 7, none⟩) (show m4.heap.size ≠ w.heap.size + 2 by omega) (.string p.name)
  replace R0 := R0.other (a := ⟨w.heap.size + 2, 7, none⟩) (by simp) (.string p.name)
  replace R1 := R1.other (a := ⟨w.heap.size + 2, 7, none⟩) (by simp) (.string p.name)
  replace R2 := R2.set 7 (.string p.name)
  replace bw := bw.setCell (p := ⟨w.heap.size + 2, 7, none⟩) (by simp) (.string p.name)
  simp only [List.set] at R2
  replace sz : w.heap.size + 3 ≤ (((y5.setCell ⟨w.heap.size + 2, 5, none⟩ (.slice q5 p.ups.n d5)).setCell ⟨w.heap.size + 2, 6, none⟩ (.int .i64 p.kids)).setCell ⟨w.heap.size + 2, 7, none⟩ (.string p.name)).heap.size := by simpa using sz
  replace l3 : wx.heap.size < (((y5.setCell ⟨w.heap.size + 2, 5, none⟩ (.slice q5 p.ups.n d5)).setCell ⟨w.heap.size + 2, 6, none⟩ (.int .i64 p.kids)).setCell ⟨w.heap.size + 2, 7, none⟩ (.string p.name)).heap.size := by simpa using l3
  replace l4 : m3.heap.size < (((y5.setCell ⟨w.heap.size + 2, 5, none⟩ (.slice q5 p.ups.n d5)).setCell ⟨w.heap.size + 2, 6, none⟩ (.int .i64 p.kids)).setCell ⟨w.heap.size + 2, 7, none⟩ (.string p.name)).heap.size := by simpa using l4
  replace l5 : m4.heap.size < (((y5.setCell ⟨w.heap.size + 2, 5, none⟩ (.slice q5 p.ups.n d5)).setCell ⟨w.heap.size + 2, 6, none⟩ (.int .i64 p.kids)).setCell ⟨w.heap.size + 2, 7, none⟩ (.string p.name)).heap.size := by simpa using l5
  generalize (((y5.setCell ⟨w.heap.size + 2, 5, none⟩ (.slice q5 p.ups.n d5)).setCell ⟨w.heap.size + 2, 6, none⟩ (.int .i64 p.kids)).setCell ⟨w.heap.size + 2, 7, none⟩ (.string p.name)) = m5 at R0 R1 R2 bw sz i3 l3 i4 l4 i5 l5 ⊢
  refine (toIntS_own p.lines _ _ (p8'.later bw) s8).mono ?_
  rintro e y8 ⟨⟨v8, rfl, i8⟩, b8, l8⟩
  have i8' := i8
  obtain ⟨q8, d8, rfl, -, -⟩ := i8'
  have g8 : w.heap.size + 3 ≤ m5.heap.size := sz
  have p3_8 : wx.heap.size < m5.heap.size := l3
  have p4_8 : m3.heap.size < m5.heap.size := l4
  have p5_8 : m4.heap.size < m5.heap.size := l5
  have l3_8 : wx.heap.size < y8.heap.size := Nat.lt_of_lt_of_le l3 (by have := b8.size; omega)
  have l4_8 : m3.heap.size < y8.heap.size := Nat.lt_of_lt_of_le l4 (by have := b8.size; omega)
  have l5_8 : m4.heap.size < y8.heap.size := Nat.lt_of_lt_of_le l5 (by have := b8.size; omega)
  replace i3 := i3.call b8
  replace i4 := i4.call b8
  replace i5 := i5.call b8
  replace l3 := l3_8
  clear l3_8
  replace l4 := l4_8
  clear l4_8
  replace l5 := l5_8
  clear l5_8
  replace R0 := R0.call b8
  replace R1 := R1.call b8
  replace R2 := R2.call b8
  replace bw : Below w.heap.size w y8 := bw.trans (b8.mono bw.size)
  replace sz : w.heap.size + 3 ≤ y8.heap.size := Nat.le_trans sz b8.size
  clear b8
  have x8 := R2.cell 8 rfl
  have z8 := R2.frozen 8
  have u9 := R0.cell 9 rfl
  go_wp2_with fail
  clear x8 z8 u9
  replace i3 := i3.store (a := ⟨w.heap.size + 2, 8, none⟩) (show wx.heap.size ≠ w.heap.size + 2 by omega) (.slice q8 p.lines.n d8)
  replace i4 := i4.store (a := ⟨w.heap.size + 2, 8, none⟩) (show m3.heap.size ≠ w.heap.size + 2 by omega) (.slice q8 p.lines.n d8)
  replace i5 := i5.store (a := ⟨w.heap.size + 2, 8, none⟩) (show m4.heap.size ≠ w.heap.size + 2 by omega) (.slice q8 p.lines.n d8)
  replace i8 := i8.store (a := ⟨w.heap.size + 2, 8, none⟩) (show m5.heap.size ≠ w.heap.size + 2 by omega) (.slice q8 p.lines.n d8)
  replace R0 := R0.other (a := ⟨w.heap.size + 2, 8, none⟩) (by simp) (.slice q8 p.lines.n d8)
  replace R1 := R1.other (a := ⟨w.heap.size + 2, 8, none⟩) (by simp) (.slice q8 p.lines.n d8)
  replace R2 := R2.set 8 (.slice q8 p.lines.n d8)
  replace bw := bw.setCell (p := ⟨w.heap.size + 2, 8, none⟩) (by simp) (.slice q8 p.lines.n d8)
  simp only [List.set] at R2
  replace sz : w.heap.size + 3 ≤ (y8.setCell ⟨w.heap.size + 2, 8, none⟩ (.slice q8 p.lines.n d8)).heap.size := by simpa using sz
  replace l3 : wx.heap.size < (y8.setCell ⟨w.heap.size + 2, 8, none⟩ (.slice q8 p.lines.n d8)).heap.size := by simpa using l3
  replace l4 : m3.heap.size < (y8.setCell ⟨w.heap.size + 2, 8, none⟩ (.slice q8 p.lines.n d8)).heap.size := by simpa using l4
  replace l5 : m4.heap.size < (y8.setCell ⟨w.heap.size + 2, 8, none⟩ (.slice q8 p.lines.n d8)).heap.size := by simpa using l5
  replace l8 : m5.heap.size < (y8.setCell ⟨w.heap.size + 2, 8, none⟩ (.slice q8 p.lines.n d8)).heap.size := by simpa using l8
  generalize (y8.setCell ⟨w.heap.size + 2, 8, none⟩ (.slice q8 p.lines.n d8)) = m8 at R0 R1 R2 bw sz i3 l3 i4 l4 i5 l5 i8 l8 ⊢
  refine (toStringS_own p.upNames _ _ ⟨p9'.1.later bw, p9'.2⟩ s9).mono ?_
  rintro e y9 ⟨⟨v9, rfl, i9⟩, b9, l9⟩
  have i9' := i9
  obtain ⟨q9, d9, rfl, -, -⟩ := i9'
  have g9 : w.heap.size + 3 ≤ m8.heap.size := sz
  have p3_9 : wx.heap.size < m8.heap.size := l3
  have p4_9 : m3.heap.size < m8.heap.size := l4
  have p5_9 : m4.heap.size < m8.heap.size := l5
  have p8_9 : m5.heap.size < m8.heap.size := l8
  have l3_9 : wx.heap.size < y9.heap.size := Nat.lt_of_lt_of_le l3 (by have := b9.size; omega)
  have l4_9 : m3.heap.size < y9.heap.size := Nat.lt_of_lt_of_le l4 (by have := b9.size; omega)
  have l5_9 : m4.heap.size < y9.heap.size := Nat.lt_of_lt_of_le l5 (by have := b9.size; omega)
  have l8_9 : m5.heap.size < y9.heap.size := Nat.lt_of_lt_of_le l8 (by have := b9.size; omega)
  replace i3 := i3.call b9
  replace i4 := i4.call b9
  replace i5 := i5.call b9
  replace i8 := i8.call b9
  replace l3 := l3_9
  clear l3_9
  replace l4 := l4_9
  clear l4_9
  replace l5 := l5_9
  clear l5_9
  replace l8 := l8_9
  clear l8_9
  replace R0 := R0.call b9
  replace R1 := R1.call b9
  replace R2 := R2.call b9
  replace bw : Below w.heap.size w y9 := bw.trans (b9.mono bw.size)
  replace sz : w.heap.size + 3 ≤ y9.heap.size := Nat.le_trans sz b9.size
  clear b9
  have x9 := R2.cell 9 rfl
  have z9 := R2.frozen 9
  have x0 := R2.cell 0 rfl
  have o0 := R1.cell 0 rfl
  have f0 := R1.frozen 0
  have x1 := R2.cell 1 rfl
  have o1 := R1.cell 1 rfl
  have f1 := R1.frozen 1
  have x2 := R2.cell 2 rfl
  have o2 := R1.cell 2 rfl
  have f2 := R1.frozen 2
  have x3 := R2.cell 3 rfl
  have o3 := R1.cell 3 rfl
  have f3 := R1.frozen 3
  have x4 := R2.cell 4 rfl
  have o4 := R1.cell 4 rfl
  have f4 := R1.frozen 4
  have x5 := R2.cell 5 rfl
  have o5 := R1.cell 5 rfl
  have f5 := R1.frozen 5
  have x6 := R2.cell 6 rfl
  have o6 := R1.cell 6 rfl
  have f6 := R1.frozen 6
  have x7 := R2.cell 7 rfl
  have o7 := R1.cell 7 rfl
  have f7 := R1.frozen 7
  have x8 := R2.cell 8 rfl
  have o8 := R1.cell 8 rfl
  have f8 := R1.frozen 8
  have o9 := R1.cell 9 rfl
  have f9 := R1.frozen 9
  go_wp2_with fail
  clear x0 o0 f0 x1 o1 f1 x2 o2 f2 x3 o3 f3 x4 o4 f4 x5 o5 f5 x6 o6 f6 x7 o7 f7 x8 o8 f8 x9 o9 f9 z9
  clear R0 R2
  replace i3 := i3.store (a := ⟨w.heap.size + 2, 9, none⟩) (show wx.heap.size ≠ w.heap.size + 2 by omega) (.slice q9 p.upNames.n d9)
  replace i4 := i4.store (a := ⟨w.heap.size + 2, 9, none⟩) (show m3.heap.size ≠ w.heap.size + 2 by omega) (.slice q9 p.upNames.n d9)
  replace i5 := i5.store (a := ⟨w.heap.size + 2, 9, none⟩) (show m4.heap.size ≠ w.heap.size + 2 by omega) (.slice q9 p.upNames.n d9)
  replace i8 := i8.store (a := ⟨w.heap.size + 2, 9, none⟩) (show m5.heap.size ≠ w.heap.size + 2 by omega) (.slice q9 p.upNames.n d9)
  replace i9 := i9.store (a := ⟨w.heap.size + 2, 9, none⟩) (show m8.heap.size ≠ w.heap.size + 2 by omega) (.slice q9 p.upNames.n d9)
  replace R1 := R1.other (a := ⟨w.heap.size + 2, 9, none⟩) (by simp) (.slice q9 p.upNames.n d9)
  replace bw := bw.setCell (p := ⟨w.heap.size + 2, 9, none⟩) (by simp) (.slice q9 p.upNames.n d9)
  replace i3 := i3.store (a := ⟨w.heap.size + 1, 0, none⟩) (show wx.heap.size ≠ w.heap.size + 1 by omega) (.int .i64 p.params)
  replace i4 := i4.store (a := ⟨w.heap.size + 1, 0, none⟩) (show m3.heap.size ≠ w.heap.size + 1 by omega) (.int .i64 p.params)
  replace i5 := i5.store (a := ⟨w.heap.size + 1, 0, none⟩) (show m4.heap.size ≠ w.heap.size + 1 by omega) (.int .i64 p.params)
  replace i8 := i8.store (a := ⟨w.heap.size + 1, 0, none⟩) (show m5.heap.size ≠ w.heap.size + 1 by omega) (.int .i64 p.params)
  replace i9 := i9.store (a := ⟨w.heap.size + 1, 0, none⟩) (show m8.heap.size ≠ w.heap.size + 1 by omega) (.int .i64 p.params)
  replace R1 := R1.set 0 (.int .i64 p.params)
  replace bw := bw.setCell (p := ⟨w.heap.size + 1, 0, none⟩) (by simp) (.int .i64 p.params)
  replace i3 := i3.store (a := ⟨w.heap.size + 1, 1, none⟩) (show wx.heap.size ≠ w.heap.size + 1 by omega) (.bool p.vararg)
  replace i4 := i4.store (a := ⟨w.heap.size + 1, 1, none⟩) (show m3.heap.size ≠ w.heap.size + 1 by omega) (.bool p.vararg)
  replace i5 := i5.store (a := ⟨w.heap.size + 1, 1, none⟩) (show m4.heap.size ≠ w.heap.size + 1 by omega) (.bool p.vararg)
  replace i8 := i8.store (a := ⟨w.heap.size + 1, 1, none⟩) (show m5.heap.size ≠ w.heap.size + 1 by omega) (.bool p.vararg)
  replace i9 := i9.store (a := ⟨w.heap.size + 1, 1, none⟩) (show m8.heap.size ≠ w.heap.size + 1 by omega) (.bool p.vararg)
  replace R1 := R1.set 1 (.bool p.vararg)
  replace bw := bw.setCell (p := ⟨w.heap.size + 1, 1, none⟩) (by simp) (.bool p.vararg)
  replace i3 := i3.store (a := ⟨w.heap.size + 1, 2, none⟩) (show wx.heap.size ≠ w.heap.size + 1 by omega) (.int .i64 p.regs)
  replace i4 := i4.store (a := ⟨w.heap.size + 1, 2, none⟩) (show m3.heap.size ≠ w.heap.size + 1 by omega) (.int .i64 p.regs)
  replace i5 := i5.store (a := ⟨w.heap.size + 1, 2, none⟩) (show m4.heap.size ≠ w.heap.size + 1 by omega) (.int .i64 p.regs)
  replace i8 := i8.store (a := ⟨w.heap.size + 1, 2, none⟩) (show m5.heap.size ≠ w.heap.size + 1 by omega) (.int .i64 p.regs)
  replace i9 := i9.store (a := ⟨w.heap.size + 1, 2, none⟩) (show m8.heap.size ≠ w.heap.size + 1 by omega) (.int .i64 p.regs)
  replace R1 := R1.set 2 (.int .i64 p.regs)
  replace bw := bw.setCell (p := ⟨w.heap.size + 1, 2, none⟩) (by simp) (.int .i64 p.regs)
  replace i3 := i3.store (a := ⟨w.heap.size + 1, 3, none⟩) (show wx.heap.size ≠ w.heap.size + 1 by omega) (.slice q3 p.code.n d3)
  replace i4 := i4.store (a := ⟨w.heap.size + 1, 3, none⟩) (show m3.heap.size ≠ w.heap.size + 1 by omega) (.slice q3 p.code.n d3)
  replace i5 := i5.store (a := ⟨w.heap.size + 1, 3, none⟩) (show m4.heap.size ≠ w.heap.size + 1 by omega) (.slice q3 p.code.n d3)
  replace i8 := i8.store (a := ⟨w.heap.size + 1, 3, none⟩) (show m5.heap.size ≠ w.heap.size + 1 by omega) (.slice q3 p.code.n d3)
  replace i9 := i9.store (a := ⟨w.heap.size + 1, 3, none⟩) (show m8.heap.size ≠ w.heap.size + 1 by omega) (.slice q3 p.code.n d3)
  replace R1 := R1.set 3 (.slice q3 p.code.n d3)
  replace bw := bw.setCell (p := ⟨w.heap.size + 1, 3, none⟩) (by simp) (.slice q3 p.code.n d3)
  replace i3 := i3.store (a := ⟨w.heap.size + 1, 4, none⟩) (show wx.heap.size ≠ w.heap.size + 1 by omega) (.slice q4 p.consts.n d4)
  replace i4 := i4.store (a := ⟨w.heap.size + 1, 4, none⟩) (show m3.heap.size ≠ w.heap.size + 1 by omega) (.slice q4 p.consts.n d4)
  replace i5 := i5.store (a := ⟨w.heap.size + 1, 4, none⟩) (show m4.heap.size ≠ w.heap.size + 1 by omega) (.slice q4 p.consts.n d4)
  replace i8 := i8.store (a := ⟨w.heap.size + 1, 4, none⟩) (show m5.heap.size ≠ w.heap.size + 1 by omega) (.slice q4 p.consts.n d4)
  replace i9 := i9.store (a := ⟨w.heap.size + 1, 4, none⟩) (show m8.heap.size ≠ w.heap.size + 1 by omega) (.slice q4 p.consts.n d4)
  replace R1 := R1.set 4 (.slice q4 p.consts.n d4)
  replace bw := bw.setCell (p := ⟨w.heap.size + 1, 4, none⟩) (by simp) (.slice q4 p.consts.n d4)
  replace i3 := i3.store (a := ⟨w.heap.size + 1, 5, none⟩) (show wx.heap.size ≠ w.heap.size + 1 by omega) (.slice q5 p.ups.n d5)
  replace i4 := i4.store (a := ⟨w.heap.size + 1, 5, none⟩) (show m3.heap.size ≠ w.heap.size + 1 by omega) (.slice q5 p.ups.n d5)
  replace i5 := i5.store (a := ⟨w.heap.size + 1, 5, none⟩) (show m4.heap.size ≠ w.heap.size + 1 by omega) (.slice q5 p.ups.n d5)
  replace i8 := i8.store (a := ⟨w.heap.size + 1, 5, none⟩) (show m5.heap.size ≠ w.heap.size + 1 by omega) (.slice q5 p.ups.n d5)
  replace i9 := i9.store (a := ⟨w.heap.size + 1, 5, none⟩) (show m8.heap.size ≠ w.heap.size + 1 by omega) (.slice q5 p.ups.n d5)
  replace R1 := R1.set 5 (.slice q5 p.ups.n d5)
  replace bw := bw.setCell (p := ⟨w.heap.size + 1, 5, none⟩) (by simp) (.slice q5 p.ups.n d5)
  replace i3 := i3.store (a := ⟨w.heap.size + 1, 6, none⟩) (show wx.heap.size ≠ w.heap.size + 1 by omega) (.int .i64 p.kids)
  replace i4 := i4.store (a := ⟨w.heap.size + 1, 6, none⟩) (show m3.heap.size ≠ w.heap.size + 1 by omega) (.int .i64 p.kids)
  replace i5 := i5.store (a := ⟨w.heap.size + 1, 6, none⟩) (show m4.heap.size ≠ w.heap.size + 1 by omega) (.int .i64 p.kids)
  replace i8 := i8.store (a := ⟨w.heap.size + 1, 6, none⟩) (show m5.heap.size ≠ w.heap.size + 1 by omega) (.int .i64 p.kids)
  replace i9 := i9.store (a := ⟨w.heap.size + 1, 6, none⟩) (show m8.heap.size ≠ w.heap.size + 1 by omega) (.int .i64 p.kids)
  replace R1 := R1.set 6 (.int .i64 p.kids)
  replace bw := bw.setCell (p := ⟨w.heap.size + 1, 6, none⟩) (by simp) (.int .i64 p.kids)
  replace i3 := i3.store (a := ⟨w.heap.size + 1, 7, none⟩) (show wx.heap.size ≠ w.heap.size + 1 by omega) (.string p.name)
  replace i4 := i4.store (a := ⟨w.heap.size + 1, 7, none⟩) (show m3.heap.size ≠ w.heap.size + 1 by omega) (.string p.name)
  replace i5 := i5.store (a := ⟨w.heap.size + 1, 7, none⟩) (show m4.heap.size ≠ w.heap.size + 1 by omega) (.string p.name)
  replace i8 := i8.store (a := ⟨w.heap.size + 1, 7, none⟩) (show m5.heap.size ≠ w.heap.size + 1 by omega) (.string p.name)
  replace i9 := i9.store (a := ⟨w.heap.size + 1, 7, none⟩) (show m8.heap.size ≠ w.heap.size + 1 by omega) (.string p.name)
  replace R1 := R1.set 7 (.string p.name)
  replace bw := bw.setCell (p := ⟨w.heap.size + 1, 7, none⟩) (by simp) (.string p.name)
  replace i3 := i3.store (a := ⟨w.heap.size + 1, 8, none⟩) (show wx.heap.size ≠ w.heap.size + 1 by omega) (.slice q8 p.lines.n d8)
  replace i4 := i4.store (a := ⟨w.heap.size + 1, 8, none⟩) (show m3.heap.size ≠ w.heap.size + 1 by omega) (.slice q8 p.lines.n d8)
  replace i5 := i5.store (a := ⟨w.heap.size + 1, 8, none⟩) (show m4.heap.size ≠ w.heap.size + 1 by omega) (.slice q8 p.lines.n d8)
  replace i8 := i8.store (a := ⟨w.heap.size + 1, 8, none⟩) (show m5.heap.size ≠ w.heap.size + 1 by omega) (.slice q8 p.lines.n d8)
  replace i9 := i9.store (a := ⟨w.heap.size + 1, 8, none⟩) (show m8.heap.size ≠ w.heap.size + 1 by omega) (.slice q8 p.lines.n d8)
  replace R1 := R1.set 8 (.slice q8 p.lines.n d8)
  replace bw := bw.setCell (p := ⟨w.heap.size + 1, 8, none⟩) (by simp) (.slice q8 p.lines.n d8)
  replace i3 := i3.store (a := ⟨w.heap.size + 1, 9, none⟩) (show wx.heap.size ≠ w.heap.size + 1 by omega) (.slice q9 p.upNames.n d9)
  replace i4 := i4.store (a := ⟨w.heap.size + 1, 9, none⟩) (show m3.heap.size ≠ w.heap.size + 1 by omega) (.slice q9 p.upNames.n d9)
  replace i5 := i5.store (a := ⟨w.heap.size + 1, 9, none⟩) (show m4.heap.size ≠ w.heap.size + 1 by omega) (.slice q9 p.upNames.n d9)
  replace i8 := i8.store (a := ⟨w.heap.size + 1, 9, none⟩) (show m5.heap.size ≠ w.heap.size + 1 by omega) (.slice q9 p.upNames.n d9)
  replace i9 := i9.store (a := ⟨w.heap.size + 1, 9, none⟩) (show m8.heap.size ≠ w.heap.size + 1 by omega) (.slice q9 p.upNames.n d9)
  replace R1 := R1.set 9 (.slice q9 p.upNames.n d9)
  replace bw := bw.setCell (p := ⟨w.heap.size + 1, 9, none⟩) (by simp) (.slice q9 p.upNames.n d9)
  simp only [List.set] at R1
  replace l3 : wx.heap.size < (((((((((((y9.setCell ⟨w.heap.size + 2, 9, none⟩ (.slice q9 p.upNames.n d9)).setCell ⟨w.heap.size + 1, 0, none⟩ (.int .i64 p.params)).setCell ⟨w.heap.size + 1, 1, none⟩ (.bool p.vararg)).setCell ⟨w.heap.size + 1, 2, none⟩ (.int .i64 p.regs)).setCell ⟨w.heap.size + 1, 3, none⟩ (.slice q3 p.code.n d3)).setCell ⟨w.heap.size + 1, 4, none⟩ (.slice q4 p.consts.n d4)).setCell ⟨w.heap.size + 1, 5, none⟩ (.slice q5 p.ups.n d5)).setCell ⟨w.heap.size + 1, 6, none⟩ (.int .i64 p.kids)).setCell ⟨w.heap.size + 1, 7, none⟩ (.string p.name)).setCell ⟨w.heap.size + 1, 8, none⟩ (.slice q8 p.lines.n d8)).setCell ⟨w.heap.size + 1, 9, none⟩ (.slice q9 p.upNames.n d9)).heap.size := by simpa using l3
  replace l4 : m3.heap.size < (((((((((((y9.setCell ⟨w.heap.size + 2, 9, none⟩ (.slice q9 p.upNames.n d9)).setCell ⟨w.heap.size + 1, 0, none⟩ (.int .i64 p.params)).setCell ⟨w.heap.size + 1, 1, none⟩ (.bool p.vararg)).setCell ⟨w.heap.size + 1, 2, none⟩ (.int .i64 p.regs)).setCell ⟨w.heap.size + 1, 3, none⟩ (.slice q3 p.code.n d3)).setCell ⟨w.heap.size + 1, 4, none⟩ (.slice q4 p.consts.n d4)).setCell ⟨w.heap.size + 1, 5, none⟩ (.slice q5 p.ups.n d5)).setCell ⟨w.heap.size + 1, 6, none⟩ (.int .i64 p.kids)).setCell ⟨w.heap.size + 1, 7, none⟩ (.string p.name)).setCell ⟨w.heap.size + 1, 8, none⟩ (.slice q8 p.lines.n d8)).setCell ⟨w.heap.size + 1, 9, none⟩ (.slice q9 p.upNames.n d9)).heap.size := by simpa using l4
  replace l5 : m4.heap.size < (((((((((((y9.setCell ⟨w.heap.size + 2, 9, none⟩ (.slice q9 p.upNames.n d9)).setCell ⟨w.heap.size + 1, 0, none⟩ (.int .i64 p.params)).setCell ⟨w.heap.size + 1, 1, none⟩ (.bool p.vararg)).setCell ⟨w.heap.size + 1, 2, none⟩ (.int .i64 p.regs)).setCell ⟨w.heap.size + 1, 3, none⟩ (.slice q3 p.code.n d3)).setCell ⟨w.heap.size + 1, 4, none⟩ (.slice q4 p.consts.n d4)).setCell ⟨w.heap.size + 1, 5, none⟩ (.slice q5 p.ups.n d5)).setCell ⟨w.heap.size + 1, 6, none⟩ (.int .i64 p.kids)).setCell ⟨w.heap.size + 1, 7, none⟩ (.string p.name)).setCell ⟨w.heap.size + 1, 8, none⟩ (.slice q8 p.lines.n d8)).setCell ⟨w.heap.size + 1, 9, none⟩ (.slice q9 p.upNames.n d9)).heap.size := by simpa using l5
  replace l8 : m5.heap.size < (((((((((((y9.setCell ⟨w.heap.size + 2, 9, none⟩ (.slice q9 p.upNames.n d9)).setCell ⟨w.heap.size + 1, 0, none⟩ (.int .i64 p.params)).setCell ⟨w.heap.size + 1, 1, none⟩ (.bool p.vararg)).setCell ⟨w.heap.size + 1, 2, none⟩ (.int .i64 p.regs)).setCell ⟨w.heap.size + 1, 3, none⟩ (.slice q3 p.code.n d3)).setCell ⟨w.heap.size + 1, 4, none⟩ (.slice q4 p.consts.n d4)).setCell ⟨w.heap.size + 1, 5, none⟩ (.slice q5 p.ups.n d5)).setCell ⟨w.heap.size + 1, 6, none⟩ (.int .i64 p.kids)).setCell ⟨w.heap.size + 1, 7, none⟩ (.string p.name)).setCell ⟨w.heap.size + 1, 8, none⟩ (.slice q8 p.lines.n d8)).setCell ⟨w.heap.size + 1, 9, none⟩ (.slice q9 p.upNames.n d9)).heap.size := by simpa using l8
  replace l9 : m8.heap.size < (((((((((((y9.setCell ⟨w.heap.size + 2, 9, none⟩ (.slice q9 p.upNames.n d9)).setCell ⟨w.heap.size + 1, 0, none⟩ (.int .i64 p.params)).setCell ⟨w.heap.size + 1, 1, none⟩ (.bool p.vararg)).setCell ⟨w.heap.size + 1, 2, none⟩ (.int .i64 p.regs)).setCell ⟨w.heap.size + 1, 3, none⟩ (.slice q3 p.code.n d3)).setCell ⟨w.heap.size + 1, 4, none⟩ (.slice q4 p.consts.n d4)).setCell ⟨w.heap.size + 1, 5, none⟩ (.slice q5 p.ups.n d5)).setCell ⟨w.heap.size + 1, 6, none⟩ (.int .i64 p.kids)).setCell ⟨w.heap.size + 1, 7, none⟩ (.string p.name)).setCell ⟨w.heap.size + 1, 8, none⟩ (.slice q8 p.lines.n d8)).setCell ⟨w.heap.size + 1, 9, none⟩ (.slice q9 p.upNames.n d9)).heap.size := by simpa using l9
  generalize (((((((((((y9.setCell ⟨w.heap.size + 2, 9, none⟩ (.slice q9 p.upNames.n d9)).setCell ⟨w.heap.size + 1, 0, none⟩ (.int .i64 p.params)).setCell ⟨w.heap.size + 1, 1, none⟩ (.bool p.vararg)).setCell ⟨w.heap.size + 1, 2, none⟩ (.int .i64 p.regs)).setCell ⟨w.heap.size + 1, 3, none⟩ (.slice q3 p.code.n d3)).setCell ⟨w.heap.size + 1, 4, none⟩ (.slice q4 p.consts.n d4)).setCell ⟨w.heap.size + 1, 5, none⟩ (.slice q5 p.ups.n d5)).setCell ⟨w.heap.size + 1, 6, none⟩ (.int .i64 p.kids)).setCell ⟨w.heap.size + 1, 7, none⟩ (.string p.name)).setCell ⟨w.heap.size + 1, 8, none⟩ (.slice q8 p.lines.n d8)).setCell ⟨w.heap.size + 1, 9, none⟩ (.slice q9 p.upNames.n d9)) = wf at R1 bw i3 l3 i4 l4 i5 l5 i8 l8 i9 l9 ⊢
  have o0 := R1.cell 0 rfl
  have o1 := R1.cell 1 rfl
  have o2 := R1.cell 2 rfl
  have o3 := R1.cell 3 rfl
  have o4 := R1.cell 4 rfl
  have o5 := R1.cell 5 rfl
  have o6 := R1.cell 6 rfl
  have o7 := R1.cell 7 rfl
  have o8 := R1.cell 8 rfl
  have o9 := R1.cell 9 rfl
  refine bodyPost_ret (v := .agg #[(.int .i64 p.params), (.bool p.vararg), (.int .i64 p.regs), (.slice q3 p.code.n d3), (.slice q4 p.consts.n d4), (.slice q5 p.ups.n d5), (.int .i64 p.kids), (.string p.name), (.slice q8 p.lines.n d8), (.slice q9 p.upNames.n d9)]) (by simp [results, Tryz.results73, go_sem, o0, o1, o2, o3, o4, o5, o6, o7, o8, o9]) rfl ?_
  refine ⟨_, _, _, _, _, _, _, _, _, _, rfl, ⟨i3, i4, i5, i8, i9, ?_, ?_, ?_, ?_, ?_, ?_, ?_, ?_, ?_, ?_, ?_, ?_, ?_, ?_, ?_⟩, bw⟩
  all_goals (intros; omega)
end Go.Proofs.YtckapapejfnojaaGreatDoor

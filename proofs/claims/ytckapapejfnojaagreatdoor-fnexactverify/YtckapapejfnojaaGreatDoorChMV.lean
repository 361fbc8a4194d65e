import Derived.Test.YtckapapejfnojaaGreatDoorChLV
namespace Go.Proofs.YtckapapejfnojaaGreatDoor
open Go.RowKit
set_option linter.unusedVariables false
set_option linter.unusedSimpArgs false
set_option maxRecDepth 100000 in
set_option maxHeartbeats 8000000 in
theorem protoFits_in (p : PD) (a3 a4 a5 a8 a9 : Value) (w : World) (hp : IsProto (· < w.heap.size) w a3 a4 a5 a8 a9 p) :
    Calls Tryz.prog 75 #[pAgg p a3 a4 a5 a8 a9] w fun e w' => Says e (ProtoOk p) ∧ Below w.heap.size w w' := by
  have hpp : Hid (IsProto (· < w.heap.size) w a3 a4 a5 a8 a9 p) := hp
  obtain ⟨p3, p4, p5, p8, p9, -⟩ := hp
  obtain ⟨o3, c3, rfl, -, -⟩ := p3
  obtain ⟨o5, c5, rfl, -, -⟩ := p5
  obtain ⟨o8, c8, rfl, -, -⟩ := p8
  obtain ⟨⟨o4, c4, rfl, -, -⟩, -⟩ := p4
  obtain ⟨⟨o9, c9, rfl, -, -⟩, -⟩ := p9
  unfold pAgg
  go_enter Tryz.func75, Tryz.ntmps75
  go_wp2_with fail
  have R0 : RowL (w.alloc (.cells #[.int .i64 p.params, .bool p.vararg, .int .i64 p.regs, .slice o3 p.code.n c3, .slice o4 p.consts.n c4, .slice o5 p.ups.n c5, .int .i64 p.kids, .string p.name, .slice o8 p.lines.n c8, .slice o9 p.upNames.n c9] 52)) w.heap.size 52 [.int .i64 p.params, .bool p.vararg, .int .i64 p.regs, .slice o3 p.code.n c3, .slice o4 p.consts.n c4, .slice o5 p.ups.n c5, .int .i64 p.kids, .string p.name, .slice o8 p.lines.n c8, .slice o9 p.upNames.n c9] := RowL.new w _ 52
  have bw : Below w.heap.size w (w.alloc (.cells #[.int .i64 p.params, .bool p.vararg, .int .i64 p.regs, .slice o3 p.code.n c3, .slice o4 p.consts.n c4, .slice o5 p.ups.n c5, .int .i64 p.kids, .string p.name, .slice o8 p.lines.n c8, .slice o9 p.upNames.n c9] 52)) := by go_grown
  generalize w.alloc (.cells #[.int .i64 p.params, .bool p.vararg, .int .i64 p.regs, .slice o3 p.code.n c3, .slice o4 p.consts.n c4, .slice o5 p.ups.n c5, .int .i64 p.kids, .string p.name, .slice o8 p.lines.n c8, .slice o9 p.upNames.n c9] 52) = wx at R0 bw ⊢
  refine (within_in p.regs 1 250 _).mono ?_
  rintro e y0 ⟨⟨r, rfl, hr⟩, rfl⟩
  have z0 : Hid (r = true → (1 ≤ p.regs ∧ p.regs ≤ 250)) := hr.1
  have n0 : Hid (ProtoOk p → r = true) := fun h => hr.2 ⟨h.regs1, h.regs2⟩
  clear hr
  obtain rfl | rfl : r = false ∨ r = true := by cases r <;> simp
  · have hno : Hid (¬ ProtoOk p) := fun h => by simpa using n0.out h
    clear z0 n0
    go_wp2_with fail
    go_ret
    exact ⟨Says.no rfl hno.out, bw⟩
  replace z0 : Hid (1 ≤ p.regs ∧ p.regs ≤ 250) := z0.out rfl
  clear n0
  have u0 := R0.cell 0 rfl
  have u2 := R0.cell 2 rfl
  go_wp2_with fail
  clear u0 u2
  refine (within_in p.params 0 p.regs _).mono ?_
  rintro e y1 ⟨⟨r, rfl, hr⟩, rfl⟩
  have z1 : Hid (r = true → (0 ≤ p.params ∧ p.params ≤ p.regs)) := hr.1
  have n1 : Hid (ProtoOk p → r = true) := fun h => hr.2 ⟨h.par1, h.par2⟩
  clear hr
  obtain rfl | rfl : r = false ∨ r = true := by cases r <;> simp
  · have hno : Hid (¬ ProtoOk p) := fun h => by simpa using n1.out h
    clear z1 n1
    go_wp2_with fail
    go_ret
    exact ⟨Says.no rfl hno.out, bw⟩
  replace z1 : Hid (0 ≤ p.params ∧ p.params ≤ p.regs) := z1.out rfl
  clear n1
  have u3 := R0.cell 3 rfl
  go_wp2_with fail
  clear u3
  refine (within_in p.code.n 1 2000 _).mono ?_
  rintro e y2 ⟨⟨r, rfl, hr⟩, rfl⟩
  have z2 : Hid (r = true → (1 ≤ (p.code.n : Int) ∧ (p.code.n : Int) ≤ 2000)) := hr.1
  have n2 : Hid (ProtoOk p → r = true) := fun h => hr.2 (by have := h.code1; have := h.code2; omega)
  clear hr
  obtain rfl | rfl : r = false ∨ r = true := by cases r <;> simp
  · have hno : Hid (¬ ProtoOk p) := fun h => by simpa using n2.out h
    clear z2 n2
    go_wp2_with fail
    go_ret
    exact ⟨Says.no rfl hno.out, bw⟩
  replace z2 : Hid (1 ≤ (p.code.n : Int) ∧ (p.code.n : Int) ≤ 2000) := z2.out rfl
  clear n2
  have u4 := R0.cell 4 rfl
  by_cases g3 : p.consts.n ≤ 500
  rotate_left
  · have hno : Hid (¬ ProtoOk p) := fun h => g3 h.consts
    go_wp2_with fail
    go_ret
    exact ⟨Says.no (by first | rfl | (simp; omega)) hno.out, bw⟩
  go_wp2_with fail
  clear u4
  refine (everyValue_in p.consts _ _ ((hpp.out.later bw).consts)).mono ?_
  rintro e y4 ⟨⟨r, rfl, hr⟩, b1⟩
  replace R0 := R0.call b1
  replace bw : Below w.heap.size w y4 := bw.trans (b1.mono bw.size)
  clear b1
  have z4 : Hid (r = true → (∀ i, i < p.consts.n → Plain (p.consts.f i))) := hr.1
  have n4 : Hid (ProtoOk p → r = true) := fun h => hr.2 h.allConsts
  clear hr
  obtain rfl | rfl : r = false ∨ r = true := by cases r <;> simp
  · have hno : Hid (¬ ProtoOk p) := fun h => by simpa using n4.out h
    clear z4 n4
    go_wp2_with fail
    go_ret
    exact ⟨Says.no rfl hno.out, bw⟩
  replace z4 : Hid (∀ i, i < p.consts.n → Plain (p.consts.f i)) := z4.out rfl
  clear n4
  have u5 := R0.cell 5 rfl
  by_cases g5 : p.ups.n ≤ 60
  rotate_left
  · have hno : Hid (¬ ProtoOk p) := fun h => g5 h.ups
    go_wp2_with fail
    go_ret
    exact ⟨Says.no (by first | rfl | (simp; omega)) hno.out, bw⟩
  go_wp2_with fail
  clear u5
  refine (everyUp_in p.ups _ _ ((hpp.out.later bw).ups)).mono ?_
  rintro e y6 ⟨⟨r, rfl, hr⟩, b1⟩
  replace R0 := R0.call b1
  replace bw : Below w.heap.size w y6 := bw.trans (b1.mono bw.size)
  clear b1
  have z6 : Hid (r = true → (∀ i, i < p.ups.n → NumOk (p.ups.f i).index)) := hr.1
  have n6 : Hid (ProtoOk p → r = true) := fun h => hr.2 h.allUps
  clear hr
  obtain rfl | rfl : r = false ∨ r = true := by cases r <;> simp
  · have hno : Hid (¬ ProtoOk p) := fun h => by simpa using n6.out h
    clear z6 n6
    go_wp2_with fail
    go_ret
    exact ⟨Says.no rfl hno.out, bw⟩
  replace z6 : Hid (∀ i, i < p.ups.n → NumOk (p.ups.f i).index) := z6.out rfl
  clear n6
  have u7 := R0.cell 7 rfl
  go_wp2_with fail
  clear u7
  refine (textFits_in p.name _).mono ?_
  rintro e y7 ⟨⟨r, rfl, hr⟩, rfl⟩
  have z7 : Hid (r = true → (p.name.size ≤ 1000)) := hr.1
  have n7 : Hid (ProtoOk p → r = true) := fun h => hr.2 h.name
  clear hr
  obtain rfl | rfl : r = false ∨ r = true := by cases r <;> simp
  · have hno : Hid (¬ ProtoOk p) := fun h => by simpa using n7.out h
    clear z7 n7
    go_wp2_with fail
    go_ret
    exact ⟨Says.no rfl hno.out, bw⟩
  replace z7 : Hid (p.name.size ≤ 1000) := z7.out rfl
  clear n7
  have u8 := R0.cell 8 rfl
  have u3 := R0.cell 3 rfl
  go_wp2_with fail
  clear u8 u3
  refine (noneOrAll_in p.lines.n p.code.n _).mono ?_
  rintro e y8 ⟨⟨r, rfl, hr⟩, rfl⟩
  have z8 : Hid (r = true → (p.lines.n = 0 ∨ p.lines.n = p.code.n)) := hr.1
  have n8 : Hid (ProtoOk p → r = true) := fun h => hr.2 h.lines
  clear hr
  obtain rfl | rfl : r = false ∨ r = true := by cases r <;> simp
  · have hno : Hid (¬ ProtoOk p) := fun h => by simpa using n8.out h
    clear z8 n8
    go_wp2_with fail
    go_ret
    exact ⟨Says.no rfl hno.out, bw⟩
  replace z8 : Hid (p.lines.n = 0 ∨ p.lines.n = p.code.n) := z8.out rfl
  clear n8
  have u8 := R0.cell 8 rfl
  go_wp2_with fail
  clear u8
  refine (everyInt_in p.lines _ _ ((hpp.out.later bw).lines)).mono ?_
  rintro e y9 ⟨⟨r, rfl, hr⟩, b1⟩
  replace R0 := R0.call b1
  replace bw : Below w.heap.size w y9 := bw.trans (b1.mono bw.size)
  clear b1
  have z9 : Hid (r = true → (∀ i, i < p.lines.n → NumOk (p.lines.f i))) := hr.1
  have n9 : Hid (ProtoOk p → r = true) := fun h => hr.2 h.allLines
  clear hr
  obtain rfl | rfl : r = false ∨ r = true := by cases r <;> simp
  · have hno : Hid (¬ ProtoOk p) := fun h => by simpa using n9.out h
    clear z9 n9
    go_wp2_with fail
    go_ret
    exact ⟨Says.no rfl hno.out, bw⟩
  replace z9 : Hid (∀ i, i < p.lines.n → NumOk (p.lines.f i)) := z9.out rfl
  clear n9
  have u9 := R0.cell 9 rfl
  have u5 := R0.cell 5 rfl
  go_wp2_with fail
  clear u9 u5
  refine (noneOrAll_in p.upNames.n p.ups.n _).mono ?_
  rintro e y10 ⟨⟨r, rfl, hr⟩, rfl⟩
  have z10 : Hid (r = true → (p.upNames.n = 0 ∨ p.upNames.n = p.ups.n)) := hr.1
  have n10 : Hid (ProtoOk p → r = true) := fun h => hr.2 h.upNames
  clear hr
  obtain rfl | rfl : r = false ∨ r = true := by cases r <;> simp
  · have hno : Hid (¬ ProtoOk p) := fun h => by simpa using n10.out h
    clear z10 n10
    go_wp2_with fail
    go_ret
    exact ⟨Says.no rfl hno.out, bw⟩
  replace z10 : Hid (p.upNames.n = 0 ∨ p.upNames.n = p.ups.n) := z10.out rfl
  clear n10
  have u9 := R0.cell 9 rfl
  go_wp2_with fail
  clear u9
  refine (everyStr_in p.upNames _ _ ((hpp.out.later bw).upNames)).mono ?_
  rintro e y11 ⟨⟨r, rfl, hr⟩, b1⟩
  replace R0 := R0.call b1
  replace bw : Below w.heap.size w y11 := bw.trans (b1.mono bw.size)
  clear b1
  have z11 : Hid (r = true → (∀ i, i < p.upNames.n → (p.upNames.f i).size ≤ 1000)) := hr.1
  have n11 : Hid (ProtoOk p → r = true) := fun h => hr.2 h.allUpNames
  clear hr
  have hr : Hid (r = true ↔ ProtoOk p) := ⟨fun h => ⟨z0.out.1, z0.out.2, z1.out.1, z1.out.2, by have := z2.out; omega, by have := z2.out; omega, by omega, by omega, z7.out, z8.out, z10.out, z4.out, z6.out, z9.out, z11.out h⟩, n11.out⟩
  go_wp2_with fail
  go_ret
  exact ⟨Says.of rfl hr.out, bw⟩
end Go.Proofs.YtckapapejfnojaaGreatDoor

import Derived.Test.YtkanjbopfflioaaGreatDoorG00
import Derived.Deep.RegionHeld3
import Derived.Laws.BytesArg
namespace Go.Proofs.YtkanjbopfflioaaGreatDoor
section
open Go.RowKit
set_option linter.unusedVariables false
set_option linter.unusedSimpArgs false

theorem eqUint32S_in (s : Sl Int) (v v' : Value) (w : World) (hv : IsInts .u32 (· < w.heap.size) w v s) (hv' : IsInts .u32 (· < w.heap.size) w v' s) :
    Calls Tryz.prog 114 #[v, v'] w fun e w' => e = .returned (.bool true) ∧ Below w.heap.size w w' := by
  obtain ⟨ao, cap, rfl, hn, hc⟩ := hv
  obtain ⟨ao', cap', rfl, -, hc'⟩ := hv'
  obtain ⟨n, f⟩ := s
  simp only at hn hc hc' ⊢
  go_enter Tryz.func114, Tryz.ntmps114
  go_wp2_with fail
  go_loopw [5] (fun i wr => ∃ (i' : Nat), i = .int .i64 i' ∧ i' ≤ n ∧ Below w.heap.size w wr) (fun i _ => n - (intOf i).toNat)
  case atStart => exact ⟨0, rfl, by omega, by go_grown⟩
  case round =>
    obtain ⟨i', rfl, q3, q4⟩ := hrel
    by_cases hi : i' < n
    · obtain ⟨b, o, rfl, hb, hcc⟩ := hc (by omega)
      obtain ⟨b', o', rfl, hb', hcc'⟩ := hc' (by omega)
      have c0 := hcc i' hi 0 (by omega)
      have c0' := hcc' i' hi 0 (by omega)
      rw [← q4.cell (p := ⟨b, _, none⟩) hb] at c0
      rw [← q4.cell (p := ⟨b', _, none⟩) hb'] at c0'
      simp only [Nat.add_zero, Nat.mul_one, iC] at c0 c0'
      clear hcc hc hcc' hc'
      go_wp2_with fail
      go_region
      go_wp2_with fail
      go_roundw
      case rel => exact ⟨i' + 1, rfl, by omega, q4.drew⟩
      case measure => simp [intOf]; omega
    · go_wp2_with fail
      go_ret
      exact ⟨rfl, q4⟩

theorem eqIntS_in (s : Sl Int) (v v' : Value) (w : World) (hv : IsInts .i64 (· < w.heap.size) w v s) (hv' : IsInts .i64 (· < w.heap.size) w v' s) :
    Calls Tryz.prog 117 #[v, v'] w fun e w' => e = .returned (.bool true) ∧ Below w.heap.size w w' := by
  obtain ⟨ao, cap, rfl, hn, hc⟩ := hv
  obtain ⟨ao', cap', rfl, -, hc'⟩ := hv'
  obtain ⟨n, f⟩ := s
  simp only at hn hc hc' ⊢
  go_enter Tryz.func117, Tryz.ntmps117
  go_wp2_with fail
  go_loopw [5] (fun i wr => ∃ (i' : Nat), i = .int .i64 i' ∧ i' ≤ n ∧ Below w.heap.size w wr) (fun i _ => n - (intOf i).toNat)
  case atStart => exact ⟨0, rfl, by omega, by go_grown⟩
  case round =>
    obtain ⟨i', rfl, q3, q4⟩ := hrel
    by_cases hi : i' < n
    · obtain ⟨b, o, rfl, hb, hcc⟩ := hc (by omega)
      obtain ⟨b', o', rfl, hb', hcc'⟩ := hc' (by omega)
      have c0 := hcc i' hi 0 (by omega)
      have c0' := hcc' i' hi 0 (by omega)
      rw [← q4.cell (p := ⟨b, _, none⟩) hb] at c0
      rw [← q4.cell (p := ⟨b', _, none⟩) hb'] at c0'
      simp only [Nat.add_zero, Nat.mul_one, iC] at c0 c0'
      clear hcc hc hcc' hc'
      go_wp2_with fail
      go_region
      go_wp2_with fail
      go_roundw
      case rel => exact ⟨i' + 1, rfl, by omega, q4.drew⟩
      case measure => simp [intOf]; omega
    · go_wp2_with fail
      go_ret
      exact ⟨rfl, q4⟩

theorem eqStringS_in (s : Sl ByteArray) (v v' : Value) (w : World) (hv : IsStrs (· < w.heap.size) w v s) (hv' : IsStrs (· < w.heap.size) w v' s) :
    Calls Tryz.prog 118 #[v, v'] w fun e w' => e = .returned (.bool true) ∧ Below w.heap.size w w' := by
  obtain ⟨⟨ao, cap, rfl, hn, hc⟩, -⟩ := hv
  obtain ⟨⟨ao', cap', rfl, -, hc'⟩, -⟩ := hv'
  obtain ⟨n, f⟩ := s
  simp only at hn hc hc' ⊢
  go_enter Tryz.func118, Tryz.ntmps118
  go_wp2_with fail
  go_loopw [5] (fun i wr => ∃ (i' : Nat), i = .int .i64 i' ∧ i' ≤ n ∧ Below w.heap.size w wr) (fun i _ => n - (intOf i).toNat)
  case atStart => exact ⟨0, rfl, by omega, by go_grown⟩
  case round =>
    obtain ⟨i', rfl, q3, q4⟩ := hrel
    by_cases hi : i' < n
    · obtain ⟨b, o, rfl, hb, hcc⟩ := hc (by omega)
      obtain ⟨b', o', rfl, hb', hcc'⟩ := hc' (by omega)
      have c0 := hcc i' hi 0 (by omega)
      have c0' := hcc' i' hi 0 (by omega)
      rw [← q4.cell (p := ⟨b, _, none⟩) hb] at c0
      rw [← q4.cell (p := ⟨b', _, none⟩) hb'] at c0'
      simp only [Nat.add_zero, Nat.mul_one, sC] at c0 c0'
      clear hcc hc hcc' hc'
      go_wp2_with fail
      go_region
      go_wp2_with fail
      go_roundw
      case rel => exact ⟨i' + 1, rfl, by omega, q4.drew⟩
      case measure => simp [intOf]; omega
    · go_wp2_with fail
      go_ret
      exact ⟨rfl, q4⟩

theorem eqValue_in (d : VD) (w : World) :
    Calls Tryz.prog 135 #[.agg #[.int .i64 d.kind, .int .i64 d.num, .string d.text], .agg #[.int .i64 d.kind, .int .i64 d.num, .string d.text]] w fun e w' =>
      e = .returned (.bool true) ∧ Below w.heap.size w w' := by
  go_enter Tryz.func135, Tryz.ntmps135
  go_wp2_with fail
  go_ret
  exact ⟨rfl, by go_grown⟩
theorem eqUp_in (d : UD) (w : World) :
    Calls Tryz.prog 136 #[.agg #[.bool d.stack, .int .i64 d.index], .agg #[.bool d.stack, .int .i64 d.index]] w fun e w' =>
      e = .returned (.bool true) ∧ Below w.heap.size w w' := by
  go_enter Tryz.func136, Tryz.ntmps136
  go_wp2_with fail
  go_ret
  exact ⟨rfl, by go_grown⟩

theorem eqValueS_in (s : Sl VD) (v v' : Value) (w : World) (hv : IsVals (· < w.heap.size) w v s) (hv' : IsVals (· < w.heap.size) w v' s) :
    Calls Tryz.prog 115 #[v, v'] w fun e w' => e = .returned (.bool true) ∧ Below w.heap.size w w' := by
  obtain ⟨⟨ao, cap, rfl, hn, hc⟩, -⟩ := hv
  obtain ⟨⟨ao', cap', rfl, -, hc'⟩, -⟩ := hv'
  obtain ⟨n, f⟩ := s
  simp only at hn hc hc' ⊢
  go_enter Tryz.func115, Tryz.ntmps115
  go_wp2_with fail
  go_loopw [5] (fun i wr => ∃ (i' : Nat), i = .int .i64 i' ∧ i' ≤ n ∧ Below w.heap.size w wr) (fun i _ => n - (intOf i).toNat)
  case atStart => exact ⟨0, rfl, by omega, by go_grown⟩
  case round =>
    obtain ⟨i', rfl, q3, q4⟩ := hrel
    by_cases hi : i' < n
    · obtain ⟨b, o, rfl, hb, hcc⟩ := hc (by omega)
      obtain ⟨b', o', rfl, hb', hcc'⟩ := hc' (by omega)
      have c0 := hcc i' hi 0 (by omega)
      have c0' := hcc' i' hi 0 (by omega)
      have c1 := hcc i' hi 1 (by omega)
      have c1' := hcc' i' hi 1 (by omega)
      have c2 := hcc i' hi 2 (by omega)
      have c2' := hcc' i' hi 2 (by omega)
      rw [← q4.cell (p := ⟨b, _, none⟩) hb] at c0 c1 c2
      rw [← q4.cell (p := ⟨b', _, none⟩) hb'] at c0' c1' c2'
      simp only [Nat.add_zero, Nat.mul_one, vC] at c0 c1 c2 c0' c1' c2'
      have hk : Hid (∀ v, Below wr.heap.size wr v → (v.cell? ⟨b, o + i' * 3, none⟩ = some (.int .i64 (f i').kind) ∧ v.cell? ⟨b, o + i' * 3 + 1, none⟩ = some (.int .i64 (f i').num) ∧ v.cell? ⟨b, o + i' * 3 + 2, none⟩ = some (.string (f i').text) ∧ v.cell? ⟨b', o' + i' * 3, none⟩ = some (.int .i64 (f i').kind) ∧ v.cell? ⟨b', o' + i' * 3 + 1, none⟩ = some (.int .i64 (f i').num) ∧ v.cell? ⟨b', o' + i' * 3 + 2, none⟩ = some (.string (f i').text))) := fun v hx => ⟨(hx.cell (p := ⟨b, _, none⟩) (Nat.lt_of_lt_of_le hb q4.size)).trans c0, (hx.cell (p := ⟨b, _, none⟩) (Nat.lt_of_lt_of_le hb q4.size)).trans c1, (hx.cell (p := ⟨b, _, none⟩) (Nat.lt_of_lt_of_le hb q4.size)).trans c2, (hx.cell (p := ⟨b', _, none⟩) (Nat.lt_of_lt_of_le hb' q4.size)).trans c0', (hx.cell (p := ⟨b', _, none⟩) (Nat.lt_of_lt_of_le hb' q4.size)).trans c1', (hx.cell (p := ⟨b', _, none⟩) (Nat.lt_of_lt_of_le hb' q4.size)).trans c2'⟩
      clear hcc hc hcc' hc' 
      go_wp2_with fail
      go_region_held3 (fun v => v.cell? ⟨b, o + i' * 3, none⟩ = some (.int .i64 (f i').kind) ∧ v.cell? ⟨b, o + i' * 3 + 1, none⟩ = some (.int .i64 (f i').num) ∧ v.cell? ⟨b, o + i' * 3 + 2, none⟩ = some (.string (f i').text) ∧ v.cell? ⟨b', o' + i' * 3, none⟩ = some (.int .i64 (f i').kind) ∧ v.cell? ⟨b', o' + i' * 3 + 1, none⟩ = some (.int .i64 (f i').num) ∧ v.cell? ⟨b', o' + i' * 3 + 2, none⟩ = some (.string (f i').text)) (first | exact hk.out _ (Below.refl _ _).drew | assumption) (first | (go_at_call 135; refine (eqValue_in (f i') _).mono ?_; rintro e w1 ⟨rfl, b1⟩; have hs1 := hk.out w1 ((Below.refl _ _).drew.trans b1)))
      clear hs1
      have hb1 : Below w.heap.size w w1 := q4.drew.trans (b1.mono q4.size)
      clear hk
      go_wp2_with fail
      go_roundw
      case rel => exact ⟨i' + 1, rfl, by omega, hb1⟩
      case measure => simp [intOf]; omega
    · go_wp2_with fail
      go_ret
      exact ⟨rfl, q4⟩

theorem eqUpS_in (s : Sl UD) (v v' : Value) (w : World) (hv : IsUps (· < w.heap.size) w v s) (hv' : IsUps (· < w.heap.size) w v' s) :
    Calls Tryz.prog 116 #[v, v'] w fun e w' => e = .returned (.bool true) ∧ Below w.heap.size w w' := by
  obtain ⟨ao, cap, rfl, hn, hc⟩ := hv
  obtain ⟨ao', cap', rfl, -, hc'⟩ := hv'
  obtain ⟨n, f⟩ := s
  simp only at hn hc hc' ⊢
  go_enter Tryz.func116, Tryz.ntmps116
  go_wp2_with fail
  go_loopw [5] (fun i wr => ∃ (i' : Nat), i = .int .i64 i' ∧ i' ≤ n ∧ Below w.heap.size w wr) (fun i _ => n - (intOf i).toNat)
  case atStart => exact ⟨0, rfl, by omega, by go_grown⟩
  case round =>
    obtain ⟨i', rfl, q3, q4⟩ := hrel
    by_cases hi : i' < n
    · obtain ⟨b, o, rfl, hb, hcc⟩ := hc (by omega)
      obtain ⟨b', o', rfl, hb', hcc'⟩ := hc' (by omega)
      have c0 := hcc i' hi 0 (by omega)
      have c0' := hcc' i' hi 0 (by omega)
      have c1 := hcc i' hi 1 (by omega)
      have c1' := hcc' i' hi 1 (by omega)
      rw [← q4.cell (p := ⟨b, _, none⟩) hb] at c0 c1
      rw [← q4.cell (p := ⟨b', _, none⟩) hb'] at c0' c1'
      simp only [Nat.add_zero, Nat.mul_one, uC] at c0 c1 c0' c1'
      have hk : Hid (∀ v, Below wr.heap.size wr v → (v.cell? ⟨b, o + i' * 2, none⟩ = some (.bool (f i').stack) ∧ v.cell? ⟨b, o + i' * 2 + 1, none⟩ = some (.int .i64 (f i').index) ∧ v.cell? ⟨b', o' + i' * 2, none⟩ = some (.bool (f i').stack) ∧ v.cell? ⟨b', o' + i' * 2 + 1, none⟩ = some (.int .i64 (f i').index))) := fun v hx => ⟨(hx.cell (p := ⟨b, _, none⟩) (Nat.lt_of_lt_of_le hb q4.size)).trans c0, (hx.cell (p := ⟨b, _, none⟩) (Nat.lt_of_lt_of_le hb q4.size)).trans c1, (hx.cell (p := ⟨b', _, none⟩) (Nat.lt_of_lt_of_le hb' q4.size)).trans c0', (hx.cell (p := ⟨b', _, none⟩) (Nat.lt_of_lt_of_le hb' q4.size)).trans c1'⟩
      clear hcc hc hcc' hc' 
      go_wp2_with fail
      go_region_held3 (fun v => v.cell? ⟨b, o + i' * 2, none⟩ = some (.bool (f i').stack) ∧ v.cell? ⟨b, o + i' * 2 + 1, none⟩ = some (.int .i64 (f i').index) ∧ v.cell? ⟨b', o' + i' * 2, none⟩ = some (.bool (f i').stack) ∧ v.cell? ⟨b', o' + i' * 2 + 1, none⟩ = some (.int .i64 (f i').index)) (first | exact hk.out _ (Below.refl _ _).drew | assumption) (first | (go_at_call 136; refine (eqUp_in (f i') _).mono ?_; rintro e w1 ⟨rfl, b1⟩; have hs1 := hk.out w1 ((Below.refl _ _).drew.trans b1)))
      clear hs1
      have hb1 : Below w.heap.size w w1 := q4.drew.trans (b1.mono q4.size)
      clear hk
      go_wp2_with fail
      go_roundw
      case rel => exact ⟨i' + 1, rfl, by omega, hb1⟩
      case measure => simp [intOf]; omega
    · go_wp2_with fail
      go_ret
      exact ⟨rfl, q4⟩

set_option maxRecDepth 100000 in
set_option maxHeartbeats 2000000 in
theorem eqProto_in (p : PD) (a3 a4 a5 a8 a9 a3' a4' a5' a8' a9' : Value) (w : World) (hp : IsProto (· < w.heap.size) w a3 a4 a5 a8 a9 p) (hp' : IsProto (· < w.heap.size) w a3' a4' a5' a8' a9' p) :
    Calls Tryz.prog 47 #[pAgg p a3 a4 a5 a8 a9, pAgg p a3' a4' a5' a8' a9'] w fun e w' => e = .returned (.bool true) ∧ Below w.heap.size w w' := by
  obtain ⟨p3, p4, p5, p8, p9, -⟩ := id hp
  obtain ⟨p3', p4', p5', p8', p9', -⟩ := id hp'
  obtain ⟨o3, c3, rfl, -, -⟩ := p3
  obtain ⟨o5, c5, rfl, -, -⟩ := p5
  obtain ⟨o8, c8, rfl, -, -⟩ := p8
  obtain ⟨⟨o4, c4, rfl, -, -⟩, -⟩ := p4
  obtain ⟨⟨o9, c9, rfl, -, -⟩, -⟩ := p9
  obtain ⟨o3', c3', rfl, -, -⟩ := p3'
  obtain ⟨o5', c5', rfl, -, -⟩ := p5'
  obtain ⟨o8', c8', rfl, -, -⟩ := p8'
  obtain ⟨⟨o4', c4', rfl, -, -⟩, -⟩ := p4'
  obtain ⟨⟨o9', c9', rfl, -, -⟩, -⟩ := p9'
  unfold pAgg
  go_enter Tryz.func47, Tryz.ntmps47
  go_wp2_with fail
  have R0 : RowL ((w.alloc (.cells #[.int .i64 p.params, .bool p.vararg, .int .i64 p.regs, .slice o3 p.code.n c3, .slice o4 p.consts.n c4, .slice o5 p.ups.n c5, .int .i64 p.kids, .string p.name, .slice o8 p.lines.n c8, .slice o9 p.upNames.n c9] 53)).alloc (.cells #[.int .i64 p.params, .bool p.vararg, .int .i64 p.regs, .slice o3' p.code.n c3', .slice o4' p.consts.n c4', .slice o5' p.ups.n c5', .int .i64 p.kids, .string p.name, .slice o8' p.lines.n c8', .slice o9' p.upNames.n c9'] 53)) w.heap.size 53 [.int .i64 p.params, .bool p.vararg, .int .i64 p.regs, .slice o3 p.code.n c3, .slice o4 p.consts.n c4, .slice o5 p.ups.n c5, .int .i64 p.kids, .string p.name, .slice o8 p.lines.n c8, .slice o9 p.upNames.n c9] := (RowL.new w _ 53).alloc _
  have R1 : RowL ((w.alloc (.cells #[.int .i64 p.params, .bool p.vararg, .int .i64 p.regs, .slice o3 p.code.n c3, .slice o4 p.consts.n c4, .slice o5 p.ups.n c5, .int .i64 p.kids, .string p.name, .slice o8 p.lines.n c8, .slice o9 p.upNames.n c9] 53)).alloc (.cells #[.int .i64 p.params, .bool p.vararg, .int .i64 p.regs, .slice o3' p.code.n c3', .slice o4' p.consts.n c4', .slice o5' p.ups.n c5', .int .i64 p.kids, .string p.name, .slice o8' p.lines.n c8', .slice o9' p.upNames.n c9'] 53)) (w.heap.size + 1) 53 [.int .i64 p.params, .bool p.vararg, .int .i64 p.regs, .slice o3' p.code.n c3', .slice o4' p.consts.n c4', .slice o5' p.ups.n c5', .int .i64 p.kids, .string p.name, .slice o8' p.lines.n c8', .slice o9' p.upNames.n c9'] := by
    have := RowL.new (w.alloc (.cells #[.int .i64 p.params, .bool p.vararg, .int .i64 p.regs, .slice o3 p.code.n c3, .slice o4 p.consts.n c4, .slice o5 p.ups.n c5, .int .i64 p.kids, .string p.name, .slice o8 p.lines.n c8, .slice o9 p.upNames.n c9] 53)) [.int .i64 p.params, .bool p.vararg, .int .i64 p.regs, .slice o3' p.code.n c3', .slice o4' p.consts.n c4', .slice o5' p.ups.n c5', .int .i64 p.kids, .string p.name, .slice o8' p.lines.n c8', .slice o9' p.upNames.n c9'] 53
    rwa [World.size_alloc] at this
  have bw : Below w.heap.size w ((w.alloc (.cells #[.int .i64 p.params, .bool p.vararg, .int .i64 p.regs, .slice o3 p.code.n c3, .slice o4 p.consts.n c4, .slice o5 p.ups.n c5, .int .i64 p.kids, .string p.name, .slice o8 p.lines.n c8, .slice o9 p.upNames.n c9] 53)).alloc (.cells #[.int .i64 p.params, .bool p.vararg, .int .i64 p.regs, .slice o3' p.code.n c3', .slice o4' p.consts.n c4', .slice o5' p.ups.n c5', .int .i64 p.kids, .string p.name, .slice o8' p.lines.n c8', .slice o9' p.upNames.n c9'] 53)) := by go_grown
  generalize (w.alloc (.cells #[.int .i64 p.params, .bool p.vararg, .int .i64 p.regs, .slice o3 p.code.n c3, .slice o4 p.consts.n c4, .slice o5 p.ups.n c5, .int .i64 p.kids, .string p.name, .slice o8 p.lines.n c8, .slice o9 p.upNames.n c9] 53)).alloc (.cells #[.int .i64 p.params, .bool p.vararg, .int .i64 p.regs, .slice o3' p.code.n c3', .slice o4' p.consts.n c4', .slice o5' p.ups.n c5', .int .i64 p.kids, .string p.name, .slice o8' p.lines.n c8', .slice o9' p.upNames.n c9'] 53) = wx at R0 R1 bw ⊢
  refine (eqUint32S_in p.code _ _ _ ((hp.later bw).code) ((hp'.later bw).code)).mono ?_
  rintro e y0 ⟨rfl, b0⟩
  replace R0 := R0.call b0
  replace R1 := R1.call b0
  replace bw : Below w.heap.size w y0 := bw.trans (b0.mono bw.size)
  clear b0
  have u4 := R0.cell 4 rfl
  have v4 := R1.cell 4 rfl
  go_wp2_with fail
  clear u4 v4
  refine (eqValueS_in p.consts _ _ _ ((hp.later bw).consts) ((hp'.later bw).consts)).mono ?_
  rintro e y1 ⟨rfl, b1⟩
  replace R0 := R0.call b1
  replace R1 := R1.call b1
  replace bw : Below w.heap.size w y1 := bw.trans (b1.mono bw.size)
  clear b1
  have u5 := R0.cell 5 rfl
  have v5 := R1.cell 5 rfl
  go_wp2_with fail
  clear u5 v5
  refine (eqUpS_in p.ups _ _ _ ((hp.later bw).ups) ((hp'.later bw).ups)).mono ?_
  rintro e y2 ⟨rfl, b2⟩
  replace R0 := R0.call b2
  replace R1 := R1.call b2
  replace bw : Below w.heap.size w y2 := bw.trans (b2.mono bw.size)
  clear b2
  have u6 := R0.cell 6 rfl
  have v6 := R1.cell 6 rfl
  have u7 := R0.cell 7 rfl
  have v7 := R1.cell 7 rfl
  have u8 := R0.cell 8 rfl
  have v8 := R1.cell 8 rfl
  go_wp2_with fail
  clear u6 v6 u7 v7 u8 v8
  refine (eqIntS_in p.lines _ _ _ ((hp.later bw).lines) ((hp'.later bw).lines)).mono ?_
  rintro e y3 ⟨rfl, b3⟩
  replace R0 := R0.call b3
  replace R1 := R1.call b3
  replace bw : Below w.heap.size w y3 := bw.trans (b3.mono bw.size)
  clear b3
  have u9 := R0.cell 9 rfl
  have v9 := R1.cell 9 rfl
  go_wp2_with fail
  clear u9 v9
  refine (eqStringS_in p.upNames _ _ _ ((hp.later bw).upNames) ((hp'.later bw).upNames)).mono ?_
  rintro e y4 ⟨rfl, b4⟩
  replace R0 := R0.call b4
  replace R1 := R1.call b4
  replace bw : Below w.heap.size w y4 := bw.trans (b4.mono bw.size)
  clear b4
  go_wp2_with fail
  go_ret
  exact ⟨rfl, bw⟩
set_option maxRecDepth 100000 in
set_option maxHeartbeats 4000000 in
theorem eqProtoS_in (s : Sl PD) (v v' : Value) (w : World) (hv : IsProtos (· < w.heap.size) w v s) (hv' : IsProtos (· < w.heap.size) w v' s) :
    Calls Tryz.prog 17 #[v, v'] w fun e w' => e = .returned (.bool true) ∧ Below w.heap.size w w' := by
  obtain ⟨a3, a4, a5, a8, a9, ⟨ao, cap, rfl, hn, hc⟩, ht⟩ := hv
  obtain ⟨a3', a4', a5', a8', a9', ⟨ao', cap', rfl, -, hc'⟩, ht'⟩ := hv'
  obtain ⟨n, f⟩ := s
  simp only at hn hc hc' ht ht' ⊢
  go_enter Tryz.func17, Tryz.ntmps17
  go_wp2_with fail
  go_loopw [5] (fun i wr => ∃ (i' : Nat), i = .int .i64 i' ∧ i' ≤ n ∧ Below w.heap.size w wr) (fun i _ => n - (intOf i).toNat)
  case atStart => exact ⟨0, rfl, by omega, by go_grown⟩
  case round =>
    obtain ⟨i', rfl, q3, q4⟩ := hrel
    by_cases hi : i' < n
    · obtain ⟨b, o, rfl, hb, hcc⟩ := hc (by omega)
      obtain ⟨b', o', rfl, hb', hcc'⟩ := hc' (by omega)
      have c0 := hcc i' hi 0 (by omega)
      have c0' := hcc' i' hi 0 (by omega)
      have c1 := hcc i' hi 1 (by omega)
      have c1' := hcc' i' hi 1 (by omega)
      have c2 := hcc i' hi 2 (by omega)
      have c2' := hcc' i' hi 2 (by omega)
      have c3 := hcc i' hi 3 (by omega)
      have c3' := hcc' i' hi 3 (by omega)
      have c4 := hcc i' hi 4 (by omega)
      have c4' := hcc' i' hi 4 (by omega)
      have c5 := hcc i' hi 5 (by omega)
      have c5' := hcc' i' hi 5 (by omega)
      have c6 := hcc i' hi 6 (by omega)
      have c6' := hcc' i' hi 6 (by omega)
      have c7 := hcc i' hi 7 (by omega)
      have c7' := hcc' i' hi 7 (by omega)
      have c8 := hcc i' hi 8 (by omega)
      have c8' := hcc' i' hi 8 (by omega)
      have c9 := hcc i' hi 9 (by omega)
      have c9' := hcc' i' hi 9 (by omega)
      rw [← q4.cell (p := ⟨b, _, none⟩) hb] at c0 c1 c2 c3 c4 c5 c6 c7 c8 c9
      rw [← q4.cell (p := ⟨b', _, none⟩) hb'] at c0' c1' c2' c3' c4' c5' c6' c7' c8' c9'
      simp only [Nat.add_zero, Nat.mul_one, pC] at c0 c1 c2 c3 c4 c5 c6 c7 c8 c9 c0' c1' c2' c3' c4' c5' c6' c7' c8' c9'
      have hti : Hid (∀ v, Below wr.heap.size wr v → IsProto (· < v.heap.size) v (a3 i') (a4 i') (a5 i') (a8 i') (a9 i') (f i')) := fun v hx => ((ht i' hi).later q4).later hx
      have hti' : Hid (∀ v, Below wr.heap.size wr v → IsProto (· < v.heap.size) v (a3' i') (a4' i') (a5' i') (a8' i') (a9' i') (f i')) := fun v hx => ((ht' i' hi).later q4).later hx
      have hk : Hid (∀ v, Below wr.heap.size wr v → (v.cell? ⟨b, o + i' * 10, none⟩ = some (.int .i64 (f i').params) ∧ v.cell? ⟨b, o + i' * 10 + 1, none⟩ = some (.bool (f i').vararg) ∧ v.cell? ⟨b, o + i' * 10 + 2, none⟩ = some (.int .i64 (f i').regs) ∧ v.cell? ⟨b, o + i' * 10 + 3, none⟩ = some (a3 i') ∧ v.cell? ⟨b, o + i' * 10 + 4, none⟩ = some (a4 i') ∧ v.cell? ⟨b, o + i' * 10 + 5, none⟩ = some (a5 i') ∧ v.cell? ⟨b, o + i' * 10 + 6, none⟩ = some (.int .i64 (f i').kids) ∧ v.cell? ⟨b, o + i' * 10 + 7, none⟩ = some (.string (f i').name) ∧ v.cell? ⟨b, o + i' * 10 + 8, none⟩ = some (a8 i') ∧ v.cell? ⟨b, o + i' * 10 + 9, none⟩ = some (a9 i') ∧ v.cell? ⟨b', o' + i' * 10, none⟩ = some (.int .i64 (f i').params) ∧ v.cell? ⟨b', o' + i' * 10 + 1, none⟩ = some (.bool (f i').vararg) ∧ v.cell? ⟨b', o' + i' * 10 + 2, none⟩ = some (.int .i64 (f i').regs) ∧ v.cell? ⟨b', o' + i' * 10 + 3, none⟩ = some (a3' i') ∧ v.cell? ⟨b', o' + i' * 10 + 4, none⟩ = some (a4' i') ∧ v.cell? ⟨b', o' + i' * 10 + 5, none⟩ = some (a5' i') ∧ v.cell? ⟨b', o' + i' * 10 + 6, none⟩ = some (.int .i64 (f i').kids) ∧ v.cell? ⟨b', o' + i' * 10 + 7, none⟩ = some (.string (f i').name) ∧ v.cell? ⟨b', o' + i' * 10 + 8, none⟩ = some (a8' i') ∧ v.cell? ⟨b', o' + i' * 10 + 9, none⟩ = some (a9' i'))) := fun v hx => ⟨(hx.cell (p := ⟨b, _, none⟩) (Nat.lt_of_lt_of_le hb q4.size)).trans c0, (hx.cell (p := ⟨b, _, none⟩) (Nat.lt_of_lt_of_le hb q4.size)).trans c1, (hx.cell (p := ⟨b, _, none⟩) (Nat.lt_of_lt_of_le hb q4.size)).trans c2, (hx.cell (p := ⟨b, _, none⟩) (Nat.lt_of_lt_of_le hb q4.size)).trans c3, (hx.cell (p := ⟨b, _, none⟩) (Nat.lt_of_lt_of_le hb q4.size)).trans c4, (hx.cell (p := ⟨b, _, none⟩) (Nat.lt_of_lt_of_le hb q4.size)).trans c5, (hx.cell (p := ⟨b, _, none⟩) (Nat.lt_of_lt_of_le hb q4.size)).trans c6, (hx.cell (p := ⟨b, _, none⟩) (Nat.lt_of_lt_of_le hb q4.size)).trans c7, (hx.cell (p := ⟨b, _, none⟩) (Nat.lt_of_lt_of_le hb q4.size)).trans c8, (hx.cell (p := ⟨b, _, none⟩) (Nat.lt_of_lt_of_le hb q4.size)).trans c9, (hx.cell (p := ⟨b', _, none⟩) (Nat.lt_of_lt_of_le hb' q4.size)).trans c0', (hx.cell (p := ⟨b', _, none⟩) (Nat.lt_of_lt_of_le hb' q4.size)).trans c1', (hx.cell (p := ⟨b', _, none⟩) (Nat.lt_of_lt_of_le hb' q4.size)).trans c2', (hx.cell (p := ⟨b', _, none⟩) (Nat.lt_of_lt_of_le hb' q4.size)).trans c3', (hx.cell (p := ⟨b', _, none⟩) (Nat.lt_of_lt_of_le hb' q4.size)).trans c4', (hx.cell (p := ⟨b', _, none⟩) (Nat.lt_of_lt_of_le hb' q4.size)).trans c5', (hx.cell (p := ⟨b', _, none⟩) (Nat.lt_of_lt_of_le hb' q4.size)).trans c6', (hx.cell (p := ⟨b', _, none⟩) (Nat.lt_of_lt_of_le hb' q4.size)).trans c7', (hx.cell (p := ⟨b', _, none⟩) (Nat.lt_of_lt_of_le hb' q4.size)).trans c8', (hx.cell (p := ⟨b', _, none⟩) (Nat.lt_of_lt_of_le hb' q4.size)).trans c9'⟩
      clear hcc hc hcc' hc' ht ht'
      go_wp2_with fail
      go_region_held3 (fun v => v.cell? ⟨b, o + i' * 10, none⟩ = some (.int .i64 (f i').params) ∧ v.cell? ⟨b, o + i' * 10 + 1, none⟩ = some (.bool (f i').vararg) ∧ v.cell? ⟨b, o + i' * 10 + 2, none⟩ = some (.int .i64 (f i').regs) ∧ v.cell? ⟨b, o + i' * 10 + 3, none⟩ = some (a3 i') ∧ v.cell? ⟨b, o + i' * 10 + 4, none⟩ = some (a4 i') ∧ v.cell? ⟨b, o + i' * 10 + 5, none⟩ = some (a5 i') ∧ v.cell? ⟨b, o + i' * 10 + 6, none⟩ = some (.int .i64 (f i').kids) ∧ v.cell? ⟨b, o + i' * 10 + 7, none⟩ = some (.string (f i').name) ∧ v.cell? ⟨b, o + i' * 10 + 8, none⟩ = some (a8 i') ∧ v.cell? ⟨b, o + i' * 10 + 9, none⟩ = some (a9 i') ∧ v.cell? ⟨b', o' + i' * 10, none⟩ = some (.int .i64 (f i').params) ∧ v.cell? ⟨b', o' + i' * 10 + 1, none⟩ = some (.bool (f i').vararg) ∧ v.cell? ⟨b', o' + i' * 10 + 2, none⟩ = some (.int .i64 (f i').regs) ∧ v.cell? ⟨b', o' + i' * 10 + 3, none⟩ = some (a3' i') ∧ v.cell? ⟨b', o' + i' * 10 + 4, none⟩ = some (a4' i') ∧ v.cell? ⟨b', o' + i' * 10 + 5, none⟩ = some (a5' i') ∧ v.cell? ⟨b', o' + i' * 10 + 6, none⟩ = some (.int .i64 (f i').kids) ∧ v.cell? ⟨b', o' + i' * 10 + 7, none⟩ = some (.string (f i').name) ∧ v.cell? ⟨b', o' + i' * 10 + 8, none⟩ = some (a8' i') ∧ v.cell? ⟨b', o' + i' * 10 + 9, none⟩ = some (a9' i')) (first | exact hk.out _ (Below.refl _ _).drew | assumption) (first | (go_at_call 47; refine (eqProto_in (f i') (a3 i') (a4 i') (a5 i') (a8 i') (a9 i') (a3' i') (a4' i') (a5' i') (a8' i') (a9' i') _ (hti.out _ (Below.refl _ _).drew) (hti'.out _ (Below.refl _ _).drew)).mono ?_; rintro e w1 ⟨rfl, b1⟩; have hs1 := hk.out w1 ((Below.refl _ _).drew.trans b1)))
      clear hs1
      have hb1 : Below w.heap.size w w1 := q4.drew.trans (b1.mono q4.size)
      clear hk
      go_wp2_with fail
      go_roundw
      case rel => exact ⟨i' + 1, rfl, by omega, hb1⟩
      case measure => simp [intOf]; omega
    · go_wp2_with fail
      go_ret
      exact ⟨rfl, q4⟩

theorem eqChunk_in (s : Sl PD) (v v' : Value) (w : World) (hv : IsProtos (· < w.heap.size) w v s) (hv' : IsProtos (· < w.heap.size) w v' s) :
    Calls Tryz.prog 6 #[.agg #[v], .agg #[v']] w fun e w' => e = .returned (.bool true) ∧ Below w.heap.size w w' := by
  have hx := hv
  have hx' := hv'
  obtain ⟨-, -, -, -, -, ⟨ao, cap, rfl, -, -⟩, -⟩ := hv
  obtain ⟨-, -, -, -, -, ⟨ao', cap', rfl, -, -⟩, -⟩ := hv'
  go_enter Tryz.func6, Tryz.ntmps6
  go_wp2_with fail
  refine (eqProtoS_in s _ _ _ (hx.later (by go_grown)) (hx'.later (by go_grown))).mono ?_
  rintro e w1 ⟨rfl, b1⟩
  have hb1 : Below w.heap.size w w1 := Below.trans (by go_grown) (b1.mono (by simp; omega))
  go_wp2_with fail
  go_ret
  exact ⟨rfl, hb1⟩
end
section
open Go.RowKit
set_option linter.unusedVariables false
set_option linter.unusedSimpArgs false

/-- a list that lies in block B alone, from its beginning; the block is the program's own. -/
def OwnArr (w : World) (v : Value) (z n : Nat) (C : Nat → Nat → Value) (B : Nat) : Prop :=
  ∃ ao cap, v = .slice ao n cap ∧ n ≤ 9223372036854775807 ∧ (0 < n → ao = some ⟨B, 0, none⟩ ∧ ∃ t m g, w.rowIs B t m g ∧ n * z ≤ m ∧ Filled g z n C)
theorem OwnArr.is {w : World} {v : Value} {z n B : Nat} {C : Nat → Nat → Value} (h : OwnArr w v z n C B) : IsArr (· = B) w v z n C := by
  obtain ⟨ao, cap, rfl, hn, h⟩ := h
  refine ⟨ao, cap, rfl, hn, fun hp => ?_⟩
  obtain ⟨rfl, t, m, g, hr, hm, hF⟩ := h hp
  refine ⟨B, 0, rfl, rfl, fun i hi j hj => ?_⟩
  have hlt := lt_mul_of hi hj
  have hc := hr.cell (show i * z + j < m by omega)
  rw [hF i hi j hj] at hc
  simpa [Nat.add_assoc] using hc
theorem OwnArr.keep {w w' : World} {v : Value} {z n B : Nat} {C : Nat → Nat → Value} (h : OwnArr w v z n C B) (hk : 0 < n → w'.heap[B]? = w.heap[B]?) : OwnArr w' v z n C B := by
  obtain ⟨ao, cap, rfl, hn, h⟩ := h
  refine ⟨ao, cap, rfl, hn, fun hp => ?_⟩
  obtain ⟨rfl, t, m, g, hr, hm, hF⟩ := h hp
  exact ⟨rfl, t, m, g, hr.of_block (hk hp), hm, hF⟩
theorem OwnArr.lt {w : World} {v : Value} {z n B : Nat} {C : Nat → Nat → Value} (h : OwnArr w v z n C B) (hp : 0 < n) : B < w.heap.size := by
  obtain ⟨ao, cap, rfl, hn, h⟩ := h
  obtain ⟨rfl, t, m, g, hr, hm, hF⟩ := h hp
  exact hr.lt

/-- only block B has been written to; new blocks may have come. -/
structure Only (B : Nat) (w w' : World) : Prop where
  os : w'.os = w.os
  tape : w'.tape = w.tape
  output : w'.output = w.output
  size : w.heap.size ≤ w'.heap.size
  block : ∀ k, k < w.heap.size → k ≠ B → w'.heap[k]? = w.heap[k]?
theorem Only.refl (B : Nat) (w : World) : Only B w w := ⟨rfl, rfl, rfl, Nat.le_refl _, fun _ _ _ => rfl⟩
theorem Only.trans {B : Nat} {a b c : World} (h : Only B a b) (k : Only B b c) : Only B a c :=
  ⟨k.os.trans h.os, k.tape.trans h.tape, k.output.trans h.output, Nat.le_trans h.size k.size, fun i hi hne => (k.block i (Nat.lt_of_lt_of_le hi h.size) hne).trans (h.block i hi hne)⟩
theorem Only.of_below {B : Nat} {a b : World} (h : Below a.heap.size a b) : Only B a b := ⟨h.os, h.tape, h.output, h.size, fun k hk _ => h.block k hk⟩
theorem Only.setCell {B : Nat} (w : World) (off : Nat) (u : Value) : Only B w (w.setCell ⟨B, off, none⟩ u) :=
  have h := (Below.refl 0 w).setCell (p := ⟨B, off, none⟩) (Nat.zero_le _) u
  ⟨h.os, h.tape, h.output, h.size, fun k _ hne => Below.heap_setCell w _ u k hne⟩

/-! ### the text of a number -/
def digs : Nat → Int → List Int → List Int
  | 0, _, acc => acc
  | f + 1, k, acc => if k ≤ 0 then acc else digs f (k / 10) ((48 + k % 10) :: acc)
theorem digs_len : ∀ (f : Nat) (k : Int) (acc : List Int), (digs f k acc).length ≤ f + acc.length
  | 0, _, acc => by simp [digs]
  | f + 1, k, acc => by
    unfold digs
    split
    · omega
    · have := digs_len f (k / 10) ((48 + k % 10) :: acc)
      simp at this
      omega
/-- 'm' and the digits. -/
def mt (k : Int) : ByteArray := strOfNums [109] ++ strOfNums (digs 20 k [])
theorem mt_size (k : Int) : (mt k).size ≤ 9223372036854775807 := by
  unfold mt
  rw [ByteArray.size_append, strOfNums_size, strOfNums_size]
  have := digs_len 20 k []
  simp at this ⊢
  omega
theorem conv_one (w : World) (n : Int) : (convert 137 9 (.slice (some ⟨w.heap.size, 0, none⟩) 1 1)).run Tryz.prog (w.alloc (.cells #[.int .u8 n] 5)) = .ok (.string (strOfNums [n])) (w.alloc (.cells #[.int .u8 n] 5)) := by
  refine run_convert_bytes_arg _ 137 5 Tryz.underlying137 Tryz.underlying5 _ 0 1 1 [n] rfl (fun i hi => ?_) 9 Tryz.underlying9
  obtain rfl : i = 0 := by omega
  simp [go_sem]
theorem str_cons (x : Int) (xs : List Int) : strOfNums [x] ++ strOfNums xs = strOfNums (x :: xs) := ByteArray.mk_append_mk _ _
set_option maxRecDepth 100000 in
set_option maxHeartbeats 1000000 in
theorem markText_in (k : Int) (w : World) (h0 : 1 ≤ k) (h1 : k ≤ 4611686018427387904) :
    Calls Tryz.prog 51 #[.int .i64 k] w fun e w' => e = .returned (.string (mt k)) ∧ Below w.heap.size w w' := by
  have hK : Hid (digs 20 k [] = digs 20 k []) := rfl
  go_enter Tryz.func51, Tryz.ntmps51
  go_wp2_with fail
  go_loopw [0, 3] (fun kv out wr => ∃ (f : Nat) (k' : Int) (acc : List Int), kv = .int .i64 k' ∧ out = .string (strOfNums acc) ∧ 0 ≤ k' ∧ k' ≤ 4611686018427387904 ∧ k' < 10 ^ f ∧ f + acc.length = 20 ∧ Below w.heap.size w wr ∧ Hid (digs f k' acc = digs 20 k [])) (fun kv _ _ => (intOf kv).toNat)
  case atStart => exact ⟨20, k, [], rfl, rfl, by omega, h1, by omega, rfl, Below.refl _ _, rfl⟩
  case round =>
    obtain ⟨f, k', acc, rfl, rfl, k0, k1, kf, hf, hB, hD⟩ := hrel
    by_cases hk : 0 < k'
    · obtain ⟨f, rfl⟩ : ∃ g, f = g + 1 := ⟨f - 1, by
        cases f with
        | zero => simp at kf; omega
        | succ f => rfl⟩
      have hcv := conv_one wr (48 + k' % 10)
      have hD' : Hid (digs f (k' / 10) ((48 + k' % 10) :: acc) = digs 20 k []) := by
        have := hD.out
        rw [digs, if_neg (by omega)] at this
        exact this
      have kf' : k' / 10 < 10 ^ f := by
        rw [Int.pow_succ] at kf
        omega
      have s1 : (strOfNums [48 + k' % 10]).size = 1 := strOfNums_size _
      have s2 : (strOfNums acc).size ≤ 20 := by rw [strOfNums_size]; omega
      have hsc := str_cons (48 + k' % 10) acc
      clear hD kf
      go_wp2_with fail
      go_roundw
      case rel => exact ⟨f, k' / 10, (48 + k' % 10) :: acc, rfl, rfl, by omega, by omega, kf', by simp; omega, hB.alloc hB.size _, hD'⟩
      case measure => simp [intOf]; omega
    · have hacc : Hid (mt k = strOfNums [109] ++ strOfNums acc) := by
        have h := hD.out
        have hz : digs f k' acc = acc := by
          cases f with
          | zero => rfl
          | succ f => rw [digs, if_pos (by omega)]
        rw [hz] at h
        show strOfNums [109] ++ strOfNums (digs 20 k []) = _
        rw [← h]
      have s2 : (strOfNums acc).size ≤ 20 := by rw [strOfNums_size]; omega
      clear hD kf
      go_wp2_with fail
      go_ret
      exact ⟨by rw [hacc.out]; rfl, hB⟩

set_option maxRecDepth 100000 in
set_option maxHeartbeats 1000000 in
theorem markUint32S_in (n : Nat) (v : Value) (C0 : Nat → Nat → Value) (B : Nat) (k : Int) (w : World) (hv : OwnArr w v 1 n C0 B) (hn : n ≤ 1048576) (h0 : 1 ≤ k) (h1 : k ≤ 1152921504606846976) :
    Calls Tryz.prog 48 #[v, .int .i64 k] w fun e w' => e = .returned (.int .i64 (k + 1 * n)) ∧ OwnArr w' v 1 n (fun i _ => .int .u32 ((k + (i : Int)) % 4294967296)) B ∧ Only B w w' := by
  obtain ⟨ao, cap, rfl, hm, hv⟩ := hv
  by_cases hn0 : n = 0
  · subst hn0
    go_enter Tryz.func48, Tryz.ntmps48
    go_wp2_with fail
    go_loopw [1, 5] (fun kv i wr => kv = .int .i64 k ∧ i = .int .i64 0 ∧ w = wr) (fun _ i _ => 0)
    case atStart => exact ⟨rfl, rfl, rfl⟩
    case round =>
      obtain ⟨rfl, rfl, rfl⟩ := hrel
      go_wp2_with fail
      go_ret
      exact ⟨by simp, ⟨ao, cap, rfl, hm, fun h => by omega⟩, Only.refl _ _⟩
  obtain ⟨rfl, t, m, g0, hr0, hm0, -⟩ := hv (by omega)
  clear hv
  go_enter Tryz.func48, Tryz.ntmps48
  go_wp2_with fail
  go_loopw [1, 5] (fun kv i wr => ∃ (i' : Nat) (g : Nat → Value), kv = .int .i64 (k + 1 * (i' : Int)) ∧ i = .int .i64 (i' : Int) ∧ i' ≤ n ∧ Only B w wr ∧ Hid (wr.rowIs B t m g ∧ Filled g 1 i' (fun i _ => .int .u32 ((k + (i : Int)) % 4294967296)))) (fun _ i _ => n - (intOf i).toNat)
  case atStart => exact ⟨0, g0, by simp, rfl, by omega, Only.refl _ _, hr0, fun i hi => by omega⟩
  case round =>
    obtain ⟨i', g, rfl, rfl, q1, q2, q3⟩ := hrel
    by_cases hi : i' < n
    · have hbd : i' * 1 + 1 ≤ m := by omega
      have d0 := q3.out.1.cell (show i' * 1 + 0 < m by omega)
      have e0 := q3.out.1.frozen (i' * 1 + 0)
      simp only [Nat.add_zero, Nat.mul_one] at d0 e0
      go_wp2_with fail
      go_roundw
      case rel =>
        have hrow := (q3.out.1.set (i' * 1 + 0) ((.int .u32 ((k + (i' : Int)) % 4294967296))))
        have honly := (q2.trans (Only.setCell _ (i' * 1 + 0) ((.int .u32 ((k + (i' : Int)) % 4294967296)))))
        simp only [Nat.add_zero, Nat.mul_one] at hrow honly
        refine ⟨i' + 1, _, by simp; omega, rfl, by omega, honly, hrow, fun a ha j hj => ?_⟩
        by_cases hki : a = i'
        · subst hki
          obtain rfl : j = 0 := by omega
          simp
        · have := q3.out.2 a (by omega) j hj
          dsimp only
          rw [if_neg (show a * 1 + j ≠ i' by omega)]
          exact this
      case measure => simp [intOf]; omega
    · obtain rfl : i' = n := by omega
      go_wp2_with fail
      go_ret
      exact ⟨by simp, ⟨_, cap, rfl, hm, fun _ => ⟨rfl, t, m, g, q3.out.1, hm0, q3.out.2⟩⟩, q2⟩

set_option maxRecDepth 100000 in
set_option maxHeartbeats 1000000 in
theorem markIntS_in (n : Nat) (v : Value) (C0 : Nat → Nat → Value) (B : Nat) (k : Int) (w : World) (hv : OwnArr w v 1 n C0 B) (hn : n ≤ 1048576) (h0 : 1 ≤ k) (h1 : k ≤ 1152921504606846976) :
    Calls Tryz.prog 52 #[v, .int .i64 k] w fun e w' => e = .returned (.int .i64 (k + 1 * n)) ∧ OwnArr w' v 1 n (fun i _ => .int .i64 (k + (i : Int))) B ∧ Only B w w' := by
  obtain ⟨ao, cap, rfl, hm, hv⟩ := hv
  by_cases hn0 : n = 0
  · subst hn0
    go_enter Tryz.func52, Tryz.ntmps52
    go_wp2_with fail
    go_loopw [1, 5] (fun kv i wr => kv = .int .i64 k ∧ i = .int .i64 0 ∧ w = wr) (fun _ i _ => 0)
    case atStart => exact ⟨rfl, rfl, rfl⟩
    case round =>
      obtain ⟨rfl, rfl, rfl⟩ := hrel
      go_wp2_with fail
      go_ret
      exact ⟨by simp, ⟨ao, cap, rfl, hm, fun h => by omega⟩, Only.refl _ _⟩
  obtain ⟨rfl, t, m, g0, hr0, hm0, -⟩ := hv (by omega)
  clear hv
  go_enter Tryz.func52, Tryz.ntmps52
  go_wp2_with fail
  go_loopw [1, 5] (fun kv i wr => ∃ (i' : Nat) (g : Nat → Value), kv = .int .i64 (k + 1 * (i' : Int)) ∧ i = .int .i64 (i' : Int) ∧ i' ≤ n ∧ Only B w wr ∧ Hid (wr.rowIs B t m g ∧ Filled g 1 i' (fun i _ => .int .i64 (k + (i : Int))))) (fun _ i _ => n - (intOf i).toNat)
  case atStart => exact ⟨0, g0, by simp, rfl, by omega, Only.refl _ _, hr0, fun i hi => by omega⟩
  case round =>
    obtain ⟨i', g, rfl, rfl, q1, q2, q3⟩ := hrel
    by_cases hi : i' < n
    · have hbd : i' * 1 + 1 ≤ m := by omega
      have d0 := q3.out.1.cell (show i' * 1 + 0 < m by omega)
      have e0 := q3.out.1.frozen (i' * 1 + 0)
      simp only [Nat.add_zero, Nat.mul_one] at d0 e0
      go_wp2_with fail
      go_roundw
      case rel =>
        have hrow := (q3.out.1.set (i' * 1 + 0) ((.int .i64 (k + (i' : Int)))))
        have honly := (q2.trans (Only.setCell _ (i' * 1 + 0) ((.int .i64 (k + (i' : Int))))))
        simp only [Nat.add_zero, Nat.mul_one] at hrow honly
        refine ⟨i' + 1, _, by simp; omega, rfl, by omega, honly, hrow, fun a ha j hj => ?_⟩
        by_cases hki : a = i'
        · subst hki
          obtain rfl : j = 0 := by omega
          simp
        · have := q3.out.2 a (by omega) j hj
          dsimp only
          rw [if_neg (show a * 1 + j ≠ i' by omega)]
          exact this
      case measure => simp [intOf]; omega
    · obtain rfl : i' = n := by omega
      go_wp2_with fail
      go_ret
      exact ⟨by simp, ⟨_, cap, rfl, hm, fun _ => ⟨rfl, t, m, g, q3.out.1, hm0, q3.out.2⟩⟩, q2⟩

set_option maxRecDepth 100000 in
set_option maxHeartbeats 1000000 in
theorem markStringS_in (n : Nat) (v : Value) (C0 : Nat → Nat → Value) (B : Nat) (k : Int) (w : World) (hv : OwnArr w v 1 n C0 B) (hn : n ≤ 1048576) (h0 : 1 ≤ k) (h1 : k ≤ 1152921504606846976) :
    Calls Tryz.prog 53 #[v, .int .i64 k] w fun e w' => e = .returned (.int .i64 (k + 1 * n)) ∧ OwnArr w' v 1 n (fun i _ => .string (mt (k + (i : Int)))) B ∧ Only B w w' := by
  obtain ⟨ao, cap, rfl, hm, hv⟩ := hv
  by_cases hn0 : n = 0
  · subst hn0
    go_enter Tryz.func53, Tryz.ntmps53
    go_wp2_with fail
    go_loopw [1, 5] (fun kv i wr => kv = .int .i64 k ∧ i = .int .i64 0 ∧ w = wr) (fun _ i _ => 0)
    case atStart => exact ⟨rfl, rfl, rfl⟩
    case round =>
      obtain ⟨rfl, rfl, rfl⟩ := hrel
      go_wp2_with fail
      go_ret
      exact ⟨by simp, ⟨ao, cap, rfl, hm, fun h => by omega⟩, Only.refl _ _⟩
  obtain ⟨rfl, t, m, g0, hr0, hm0, -⟩ := hv (by omega)
  clear hv
  go_enter Tryz.func53, Tryz.ntmps53
  go_wp2_with fail
  go_loopw [1, 5] (fun kv i wr => ∃ (i' : Nat) (g : Nat → Value), kv = .int .i64 (k + 1 * (i' : Int)) ∧ i = .int .i64 (i' : Int) ∧ i' ≤ n ∧ Only B w wr ∧ Hid (wr.rowIs B t m g ∧ Filled g 1 i' (fun i _ => .string (mt (k + (i : Int)))))) (fun _ i _ => n - (intOf i).toNat)
  case atStart => exact ⟨0, g0, by simp, rfl, by omega, Only.refl _ _, hr0, fun i hi => by omega⟩
  case round =>
    obtain ⟨i', g, rfl, rfl, q1, q2, q3⟩ := hrel
    by_cases hi : i' < n
    · have hbd : i' * 1 + 1 ≤ m := by omega
      have d0 := q3.out.1.cell (show i' * 1 + 0 < m by omega)
      have e0 := q3.out.1.frozen (i' * 1 + 0)
      simp only [Nat.add_zero, Nat.mul_one] at d0 e0
      go_wp2_with fail
      refine (markText_in (k + (i' : Int)) _ (by omega) (by omega)).mono ?_
      rintro e w1 ⟨rfl, b1⟩
      have q2' : Only B w w1 := q2.trans (Only.of_below b1)
      have hr1 := q3.out.1.of_block (w' := w1) (b1.block _ q3.out.1.lt)
      have hr1' : Hid (w1.rowIs B t m g) := hr1
      clear d0 e0
      have d0 := hr1.cell (show i' * 1 + 0 < m by omega)
      have e0 := hr1.frozen (i' * 1 + 0)
      simp only [Nat.add_zero, Nat.mul_one] at d0 e0
      clear hr1
      go_wp2_with fail
      go_roundw
      case rel =>
        have hrow := (hr1'.out.set (i' * 1 + 0) ((.string (mt (k + (i' : Int))))))
        have honly := (q2'.trans (Only.setCell _ (i' * 1 + 0) ((.string (mt (k + (i' : Int)))))))
        simp only [Nat.add_zero, Nat.mul_one] at hrow honly
        refine ⟨i' + 1, _, by simp; omega, rfl, by omega, honly, hrow, fun a ha j hj => ?_⟩
        by_cases hki : a = i'
        · subst hki
          obtain rfl : j = 0 := by omega
          simp
        · have := q3.out.2 a (by omega) j hj
          dsimp only
          rw [if_neg (show a * 1 + j ≠ i' by omega)]
          exact this
      case measure => simp [intOf]; omega
    · obtain rfl : i' = n := by omega
      go_wp2_with fail
      go_ret
      exact ⟨by simp, ⟨_, cap, rfl, hm, fun _ => ⟨rfl, t, m, g, q3.out.1, hm0, q3.out.2⟩⟩, q2⟩

set_option maxRecDepth 100000 in
set_option maxHeartbeats 1000000 in
theorem markUpS_in (n : Nat) (v : Value) (C0 : Nat → Nat → Value) (B : Nat) (k : Int) (w : World) (hv : OwnArr w v 2 n C0 B) (hn : n ≤ 1048576) (h0 : 1 ≤ k) (h1 : k ≤ 1152921504606846976) :
    Calls Tryz.prog 50 #[v, .int .i64 k] w fun e w' => e = .returned (.int .i64 (k + 2 * n)) ∧ OwnArr w' v 2 n (fun i j => match j with | 0 => .bool ((k + 2 * (i : Int)) % 3 == 0) | _ => .int .i64 (k + 2 * (i : Int) + 1)) B ∧ Only B w w' := by
  obtain ⟨ao, cap, rfl, hm, hv⟩ := hv
  by_cases hn0 : n = 0
  · subst hn0
    go_enter Tryz.func50, Tryz.ntmps50
    go_wp2_with fail
    go_loopw [1, 5] (fun kv i wr => kv = .int .i64 k ∧ i = .int .i64 0 ∧ w = wr) (fun _ i _ => 0)
    case atStart => exact ⟨rfl, rfl, rfl⟩
    case round =>
      obtain ⟨rfl, rfl, rfl⟩ := hrel
      go_wp2_with fail
      go_ret
      exact ⟨by simp, ⟨ao, cap, rfl, hm, fun h => by omega⟩, Only.refl _ _⟩
  obtain ⟨rfl, t, m, g0, hr0, hm0, -⟩ := hv (by omega)
  clear hv
  go_enter Tryz.func50, Tryz.ntmps50
  go_wp2_with fail
  go_loopw [1, 5] (fun kv i wr => ∃ (i' : Nat) (g : Nat → Value), kv = .int .i64 (k + 2 * (i' : Int)) ∧ i = .int .i64 (i' : Int) ∧ i' ≤ n ∧ Only B w wr ∧ Hid (wr.rowIs B t m g ∧ Filled g 2 i' (fun i j => match j with | 0 => .bool ((k + 2 * (i : Int)) % 3 == 0) | _ => .int .i64 (k + 2 * (i : Int) + 1)))) (fun _ i _ => n - (intOf i).toNat)
  case atStart => exact ⟨0, g0, by simp, rfl, by omega, Only.refl _ _, hr0, fun i hi => by omega⟩
  case round =>
    obtain ⟨i', g, rfl, rfl, q1, q2, q3⟩ := hrel
    by_cases hi : i' < n
    · have hbd : i' * 2 + 2 ≤ m := by omega
      have d0 := q3.out.1.cell (show i' * 2 + 0 < m by omega)
      have e0 := q3.out.1.frozen (i' * 2 + 0)
      have d1 := q3.out.1.cell (show i' * 2 + 1 < m by omega)
      have e1 := q3.out.1.frozen (i' * 2 + 1)
      simp only [Nat.add_zero, Nat.mul_one] at d0 e0 d1 e1
      go_wp2_with fail
      go_roundw
      case rel =>
        have hrow := ((q3.out.1.set (i' * 2 + 0) ((.bool ((k + 2 * (i' : Int)) % 3 == 0)))).set (i' * 2 + 1) ((.int .i64 (k + 2 * (i' : Int) + 1))))
        have honly := ((q2.trans (Only.setCell _ (i' * 2 + 0) ((.bool ((k + 2 * (i' : Int)) % 3 == 0))))).trans (Only.setCell _ (i' * 2 + 1) ((.int .i64 (k + 2 * (i' : Int) + 1)))))
        simp only [Nat.add_zero, Nat.mul_one] at hrow honly
        refine ⟨i' + 1, _, by congr 1; omega, rfl, by omega, honly, hrow, fun a ha j hj => ?_⟩
        by_cases hki : a = i'
        · subst hki
          rcases (show j = 0 ∨ j = 1 by omega) with rfl | rfl <;> simp
        · have := q3.out.2 a (by omega) j hj
          dsimp only
          rw [if_neg (show a * 2 + j ≠ i' * 2 + 1 by omega)]
          rw [if_neg (show a * 2 + j ≠ i' * 2 by omega)]
          exact this
      case measure => simp [intOf]; omega
    · obtain rfl : i' = n := by omega
      go_wp2_with fail
      go_ret
      exact ⟨rfl, ⟨_, cap, rfl, hm, fun _ => ⟨rfl, t, m, g, q3.out.1, hm0, q3.out.2⟩⟩, q2⟩

set_option maxRecDepth 100000 in
set_option maxHeartbeats 1000000 in
theorem markValueS_in (n : Nat) (v : Value) (C0 : Nat → Nat → Value) (B : Nat) (k : Int) (w : World) (hv : OwnArr w v 3 n C0 B) (hn : n ≤ 1048576) (h0 : 1 ≤ k) (h1 : k ≤ 1152921504606846976) :
    Calls Tryz.prog 49 #[v, .int .i64 k] w fun e w' => e = .returned (.int .i64 (k + 3 * n)) ∧ OwnArr w' v 3 n (fun i j => match j with | 0 => .int .i64 (k + 3 * (i : Int)) | 1 => .int .i64 (k + 3 * (i : Int) + 1) | _ => .string (mt (k + 3 * (i : Int) + 1 + 1))) B ∧ Only B w w' := by
  obtain ⟨ao, cap, rfl, hm, hv⟩ := hv
  by_cases hn0 : n = 0
  · subst hn0
    go_enter Tryz.func49, Tryz.ntmps49
    go_wp2_with fail
    go_loopw [1, 5] (fun kv i wr => kv = .int .i64 k ∧ i = .int .i64 0 ∧ w = wr) (fun _ i _ => 0)
    case atStart => exact ⟨rfl, rfl, rfl⟩
    case round =>
      obtain ⟨rfl, rfl, rfl⟩ := hrel
      go_wp2_with fail
      go_ret
      exact ⟨by simp, ⟨ao, cap, rfl, hm, fun h => by omega⟩, Only.refl _ _⟩
  obtain ⟨rfl, t, m, g0, hr0, hm0, -⟩ := hv (by omega)
  clear hv
  go_enter Tryz.func49, Tryz.ntmps49
  go_wp2_with fail
  go_loopw [1, 5] (fun kv i wr => ∃ (i' : Nat) (g : Nat → Value), kv = .int .i64 (k + 3 * (i' : Int)) ∧ i = .int .i64 (i' : Int) ∧ i' ≤ n ∧ Only B w wr ∧ Hid (wr.rowIs B t m g ∧ Filled g 3 i' (fun i j => match j with | 0 => .int .i64 (k + 3 * (i : Int)) | 1 => .int .i64 (k + 3 * (i : Int) + 1) | _ => .string (mt (k + 3 * (i : Int) + 1 + 1))))) (fun _ i _ => n - (intOf i).toNat)
  case atStart => exact ⟨0, g0, by simp, rfl, by omega, Only.refl _ _, hr0, fun i hi => by omega⟩
  case round =>
    obtain ⟨i', g, rfl, rfl, q1, q2, q3⟩ := hrel
    by_cases hi : i' < n
    · have hbd : i' * 3 + 3 ≤ m := by omega
      have d0 := q3.out.1.cell (show i' * 3 + 0 < m by omega)
      have e0 := q3.out.1.frozen (i' * 3 + 0)
      have d1 := q3.out.1.cell (show i' * 3 + 1 < m by omega)
      have e1 := q3.out.1.frozen (i' * 3 + 1)
      have d2 := q3.out.1.cell (show i' * 3 + 2 < m by omega)
      have e2 := q3.out.1.frozen (i' * 3 + 2)
      simp only [Nat.add_zero, Nat.mul_one] at d0 e0 d1 e1 d2 e2
      have hrA := (q3.out.1.set (i' * 3 + 0) (.int .i64 (k + 3 * (i' : Int)))).set (i' * 3 + 1) (.int .i64 (k + 3 * (i' : Int) + 1))
      have hoA := (q2.trans (Only.setCell _ (i' * 3 + 0) (.int .i64 (k + 3 * (i' : Int))))).trans (Only.setCell _ (i' * 3 + 1) (.int .i64 (k + 3 * (i' : Int) + 1)))
      simp only [Nat.add_zero] at hrA hoA
      have hrA' : Hid _ := hrA
      have hoA' : Hid _ := hoA
      clear hrA hoA
      go_wp2_with fail
      refine (markText_in (k + 3 * (i' : Int) + 1 + 1) _ (by omega) (by omega)).mono ?_
      rintro e w1 ⟨rfl, b1⟩
      have q2' : Only B w w1 := hoA'.out.trans (Only.of_below b1)
      have hr1 := World.rowIs.of_block (w' := w1) hrA'.out (b1.block _ (World.rowIs.lt hrA'.out))
      have hr1' : Hid (w1.rowIs B t m _) := hr1
      clear hrA' hoA' d0 e0 d1 e1 d2 e2 b1
      have d2 := hr1.cell (show i' * 3 + 2 < m by omega)
      have e2 := hr1.frozen (i' * 3 + 2)
      rw [if_neg (by omega), if_neg (by omega)] at d2
      clear hr1
      go_wp2_with fail
      go_roundw
      case rel =>
        refine ⟨i' + 1, _, by congr 1; omega, rfl, by omega, q2'.trans (Only.setCell _ (i' * 3 + 2) (.string (mt (k + 3 * (i' : Int) + 1 + 1)))), hr1'.out.set (i' * 3 + 2) (.string (mt (k + 3 * (i' : Int) + 1 + 1))), fun a ha j hj => ?_⟩
        by_cases hki : a = i'
        · subst hki
          rcases (show j = 0 ∨ j = 1 ∨ j = 2 by omega) with rfl | rfl | rfl <;> simp
        · have := q3.out.2 a (by omega) j hj
          dsimp only
          rw [if_neg (show a * 3 + j ≠ i' * 3 + 2 by omega)]
          rw [if_neg (show a * 3 + j ≠ i' * 3 + 1 by omega)]
          rw [if_neg (show a * 3 + j ≠ i' * 3 by omega)]
          exact this
      case measure => simp [intOf]; omega
    · obtain rfl : i' = n := by omega
      go_wp2_with fail
      go_ret
      exact ⟨rfl, ⟨_, cap, rfl, hm, fun _ => ⟨rfl, t, m, g, q3.out.1, hm0, q3.out.2⟩⟩, q2⟩
end
end Go.Proofs.YtkanjbopfflioaaGreatDoor

import Derived.Test.YtckapapejfnojaaGreatDoorGCV
import Derived.Deep.RegionHeld3
namespace Go.Proofs.YtckapapejfnojaaGreatDoor
section
open Go.RowKit
set_option linter.unusedVariables false
set_option linter.unusedSimpArgs false

theorem eqUint32S_in (s : Sl Int) (v v' : Value) (w : World) (hv : IsInts .u32 (· < w.heap.size) w v s) (hv' : IsInts .u32 (· < w.heap.size) w v' s) :
    Calls Tryz.prog 133 #[v, v'] w fun e w' => e = .returned (.bool true) ∧ Below w.heap.size w w' := by
  obtain ⟨ao, cap, rfl, hn, hc⟩ := hv
  obtain ⟨ao', cap', rfl, -, hc'⟩ := hv'
  obtain ⟨n, f⟩ := s
  simp only at hn hc hc' ⊢
  go_enter Tryz.func133, Tryz.ntmps133
  go_wp2_with fail
  go_loopw [5] (fun i wr => ∃ (i' : Nat), i = .int .i64 i' ∧ i' ≤ n ∧ Below w.heap.size w wr) (fun i _ => n - (intOf i).toNat)
  case atStart => exact ⟨0, rfl, by omega, by go_grown⟩
  case round =>
    obtain ⟨i', rfl, q3, q4⟩ := hrel
    by_cases hi : i' < n
    · obtain ⟨b, o, rfl, hb, hcc⟩ := hc (by omega)
      obtain ⟨b', o', rfl, hb', hcc'⟩ := hc' (by omega)
      have c0 := hcc i' hi 0 (by omega)
      have c0' := hcc' i' hi 0 (by omega)
      rw [← q4.cell (p := ⟨b, _, none⟩) hb] at c0
      rw [← q4.cell (p := ⟨b', _, none⟩) hb'] at c0'
      simp only [Nat.add_zero, Nat.mul_one, iC] at c0 c0'
      clear hcc hc hcc' hc'
      go_wp2_with fail
      go_region
      go_wp2_with fail
      go_roundw
      case rel => exact ⟨i' + 1, rfl, by omega, q4.drew⟩
      case measure => simp [intOf]; omega
    · go_wp2_with fail
      go_ret
      exact ⟨rfl, q4⟩

theorem eqIntS_in (s : Sl Int) (v v' : Value) (w : World) (hv : IsInts .i64 (· < w.heap.size) w v s) (hv' : IsInts .i64 (· < w.heap.size) w v' s) :
    Calls Tryz.prog 15 #[v, v'] w fun e w' => e = .returned (.bool true) ∧ Below w.heap.size w w' := by
  obtain ⟨ao, cap, rfl, hn, hc⟩ := hv
  obtain ⟨ao', cap', rfl, -, hc'⟩ := hv'
  obtain ⟨n, f⟩ := s
  simp only at hn hc hc' ⊢
  go_enter Tryz.func15, Tryz.ntmps15
  go_wp2_with fail
  go_loopw [5] (fun i wr => ∃ (i' : Nat), i = .int .i64 i' ∧ i' ≤ n ∧ Below w.heap.size w wr) (fun i _ => n - (intOf i).toNat)
  case atStart => exact ⟨0, rfl, by omega, by go_grown⟩
  case round =>
    obtain ⟨i', rfl, q3, q4⟩ := hrel
    by_cases hi : i' < n
    · obtain ⟨b, o, rfl, hb, hcc⟩ := hc (by omega)
      obtain ⟨b', o', rfl, hb', hcc'⟩ := hc' (by omega)
      have c0 := hcc i' hi 0 (by omega)
      have c0' := hcc' i' hi 0 (by omega)
      rw [← q4.cell (p := ⟨b, _, none⟩) hb] at c0
      rw [← q4.cell (p := ⟨b', _, none⟩) hb'] at c0'
      simp only [Nat.add_zero, Nat.mul_one, iC] at c0 c0'
      clear hcc hc hcc' hc'
      go_wp2_with fail
      go_region
      go_wp2_with fail
      go_roundw
      case rel => exact ⟨i' + 1, rfl, by omega, q4.drew⟩
      case measure => simp [intOf]; omega
    · go_wp2_with fail
      go_ret
      exact ⟨rfl, q4⟩

theorem eqStringS_in (s : Sl ByteArray) (v v' : Value) (w : World) (hv : IsStrs (· < w.heap.size) w v s) (hv' : IsStrs (· < w.heap.size) w v' s) :
    Calls Tryz.prog 136 #[v, v'] w fun e w' => e = .returned (.bool true) ∧ Below w.heap.size w w' := by
  obtain ⟨⟨ao, cap, rfl, hn, hc⟩, -⟩ := hv
  obtain ⟨⟨ao', cap', rfl, -, hc'⟩, -⟩ := hv'
  obtain ⟨n, f⟩ := s
  simp only at hn hc hc' ⊢
  go_enter Tryz.func136, Tryz.ntmps136
  go_wp2_with fail
  go_loopw [5] (fun i wr => ∃ (i' : Nat), i = .int .i64 i' ∧ i' ≤ n ∧ Below w.heap.size w wr) (fun i _ => n - (intOf i).toNat)
  case atStart => exact ⟨0, rfl, by omega, by go_grown⟩
  case round =>
    obtain ⟨i', rfl, q3, q4⟩ := hrel
    by_cases hi : i' < n
    · obtain ⟨b, o, rfl, hb, hcc⟩ := hc (by omega)
      obtain ⟨b', o', rfl, hb', hcc'⟩ := hc' (by omega)
      have c0 := hcc i' hi 0 (by omega)
      have c0' := hcc' i' hi 0 (by omega)
      rw [← q4.cell (p := ⟨b, _, none⟩) hb] at c0
      rw [← q4.cell (p := ⟨b', _, none⟩) hb'] at c0'
      simp only [Nat.add_zero, Nat.mul_one, sC] at c0 c0'
      clear hcc hc hcc' hc'
      go_wp2_with fail
      go_region
      go_wp2_with fail
      go_roundw
      case rel => exact ⟨i' + 1, rfl, by omega, q4.drew⟩
      case measure => simp [intOf]; omega
    · go_wp2_with fail
      go_ret
      exact ⟨rfl, q4⟩

theorem eqValue_in (d : VD) (w : World) :
    Calls Tryz.prog 180 #[.agg #[.int .i64 d.kind, .int .i64 d.num, .string d.text], .agg #[.int .i64 d.kind, .int .i64 d.num, .string d.text]] w fun e w' =>
      e = .returned (.bool true) ∧ Below w.heap.size w w' := by
  go_enter Tryz.func180, Tryz.ntmps180
  go_wp2_with fail
  go_ret
  exact ⟨rfl, by go_grown⟩
theorem eqUp_in (d : UD) (w : World) :
    Calls Tryz.prog 181 #[.agg #[.bool d.stack, .int .i64 d.index], .agg #[.bool d.stack, .int .i64 d.index]] w fun e w' =>
      e = .returned (.bool true) ∧ Below w.heap.size w w' := by
  go_enter Tryz.func181, Tryz.ntmps181
  go_wp2_with fail
  go_ret
  exact ⟨rfl, by go_grown⟩

theorem eqValueS_in (s : Sl VD) (v v' : Value) (w : World) (hv : IsVals (· < w.heap.size) w v s) (hv' : IsVals (· < w.heap.size) w v' s) :
    Calls Tryz.prog 134 #[v, v'] w fun e w' => e = .returned (.bool true) ∧ Below w.heap.size w w' := by
  obtain ⟨⟨ao, cap, rfl, hn, hc⟩, -⟩ := hv
  obtain ⟨⟨ao', cap', rfl, -, hc'⟩, -⟩ := hv'
  obtain ⟨n, f⟩ := s
  simp only at hn hc hc' ⊢
  go_enter Tryz.func134, Tryz.ntmps134
  go_wp2_with fail
  go_loopw [5] (fun i wr => ∃ (i' : Nat), i = .int .i64 i' ∧ i' ≤ n ∧ Below w.heap.size w wr) (fun i _ => n - (intOf i).toNat)
  case atStart => exact ⟨0, rfl, by omega, by go_grown⟩
  case round =>
    obtain ⟨i', rfl, q3, q4⟩ := hrel
    by_cases hi : i' < n
    · obtain ⟨b, o, rfl, hb, hcc⟩ := hc (by omega)
      obtain ⟨b', o', rfl, hb', hcc'⟩ := hc' (by omega)
      have c0 := hcc i' hi 0 (by omega)
      have c0' := hcc' i' hi 0 (by omega)
      have c1 := hcc i' hi 1 (by omega)
      have c1' := hcc' i' hi 1 (by omega)
      have c2 := hcc i' hi 2 (by omega)
      have c2' := hcc' i' hi 2 (by omega)
      rw [← q4.cell (p := ⟨b, _, none⟩) hb] at c0 c1 c2
      rw [← q4.cell (p := ⟨b', _, none⟩) hb'] at c0' c1' c2'
      simp only [Nat.add_zero, Nat.mul_one, vC] at c0 c1 c2 c0' c1' c2'
      have hk : Hid (∀ v, Below wr.heap.size wr v → (v.cell? ⟨b, o + i' * 3, none⟩ = some (.int .i64 (f i').kind) ∧ v.cell? ⟨b, o + i' * 3 + 1, none⟩ = some (.int .i64 (f i').num) ∧ v.cell? ⟨b, o + i' * 3 + 2, none⟩ = some (.string (f i').text) ∧ v.cell? ⟨b', o' + i' * 3, none⟩ = some (.int .i64 (f i').kind) ∧ v.cell? ⟨b', o' + i' * 3 + 1, none⟩ = some (.int .i64 (f i').num) ∧ v.cell? ⟨b', o' + i' * 3 + 2, none⟩ = some (.string (f i').text))) := fun v hx => ⟨(hx.cell (p := ⟨b, _, none⟩) (Nat.lt_of_lt_of_le hb q4.size)).trans c0, (hx.cell (p := ⟨b, _, none⟩) (Nat.lt_of_lt_of_le hb q4.size)).trans c1, (hx.cell (p := ⟨b, _, none⟩) (Nat.lt_of_lt_of_le hb q4.size)).trans c2, (hx.cell (p := ⟨b', _, none⟩) (Nat.lt_of_lt_of_le hb' q4.size)).trans c0', (hx.cell (p := ⟨b', _, none⟩) (Nat.lt_of_lt_of_le hb' q4.size)).trans c1', (hx.cell (p := ⟨b', _, none⟩) (Nat.lt_of_lt_of_le hb' q4.size)).trans c2'⟩
      clear hcc hc hcc' hc' 
      go_wp2_with fail
      go_region_held3 (fun v => v.cell? ⟨b, o + i' * 3, none⟩ = some (.int .i64 (f i').kind) ∧ v.cell? ⟨b, o + i' * 3 + 1, none⟩ = some (.int .i64 (f i').num) ∧ v.cell? ⟨b, o + i' * 3 + 2, none⟩ = some (.string (f i').text) ∧ v.cell? ⟨b', o' + i' * 3, none⟩ = some (.int .i64 (f i').kind) ∧ v.cell? ⟨b', o' + i' * 3 + 1, none⟩ = some (.int .i64 (f i').num) ∧ v.cell? ⟨b', o' + i' * 3 + 2, none⟩ = some (.string (f i').text)) (first | exact hk.out _ (Below.refl _ _).drew | assumption) (first | (go_at_call 180; refine (eqValue_in (f i') _).mono ?_; rintro e w1 ⟨rfl, b1⟩; have hs1 := hk.out w1 ((Below.refl _ _).drew.trans b1)))
      clear hs1
      have hb1 : Below w.heap.size w w1 := q4.drew.trans (b1.mono q4.size)
      clear hk
      go_wp2_with fail
      go_roundw
      case rel => exact ⟨i' + 1, rfl, by omega, hb1⟩
      case measure => simp [intOf]; omega
    · go_wp2_with fail
      go_ret
      exact ⟨rfl, q4⟩

theorem eqUpS_in (s : Sl UD) (v v' : Value) (w : World) (hv : IsUps (· < w.heap.size) w v s) (hv' : IsUps (· < w.heap.size) w v' s) :
    Calls Tryz.prog 135 #[v, v'] w fun e w' => e = .returned (.bool true) ∧ Below w.heap.size w w' := by
  obtain ⟨ao, cap, rfl, hn, hc⟩ := hv
  obtain ⟨ao', cap', rfl, -, hc'⟩ := hv'
  obtain ⟨n, f⟩ := s
  simp only at hn hc hc' ⊢
  go_enter Tryz.func135, Tryz.ntmps135
  go_wp2_with fail
  go_loopw [5] (fun i wr => ∃ (i' : Nat), i = .int .i64 i' ∧ i' ≤ n ∧ Below w.heap.size w wr) (fun i _ => n - (intOf i).toNat)
  case atStart => exact ⟨0, rfl, by omega, by go_grown⟩
  case round =>
    obtain ⟨i', rfl, q3, q4⟩ := hrel
    by_cases hi : i' < n
    · obtain ⟨b, o, rfl, hb, hcc⟩ := hc (by omega)
      obtain ⟨b', o', rfl, hb', hcc'⟩ := hc' (by omega)
      have c0 := hcc i' hi 0 (by omega)
      have c0' := hcc' i' hi 0 (by omega)
      have c1 := hcc i' hi 1 (by omega)
      have c1' := hcc' i' hi 1 (by omega)
      rw [← q4.cell (p := ⟨b, _, none⟩) hb] at c0 c1
      rw [← q4.cell (p := ⟨b', _, none⟩) hb'] at c0' c1'
      simp only [Nat.add_zero, Nat.mul_one, uC] at c0 c1 c0' c1'
      have hk : Hid (∀ v, Below wr.heap.size wr v → (v.cell? ⟨b, o + i' * 2, none⟩ = some (.bool (f i').stack) ∧ v.cell? ⟨b, o + i' * 2 + 1, none⟩ = some (.int .i64 (f i').index) ∧ v.cell? ⟨b', o' + i' * 2, none⟩ = some (.bool (f i').stack) ∧ v.cell? ⟨b', o' + i' * 2 + 1, none⟩ = some (.int .i64 (f i').index))) := fun v hx => ⟨(hx.cell (p := ⟨b, _, none⟩) (Nat.lt_of_lt_of_le hb q4.size)).trans c0, (hx.cell (p := ⟨b, _, none⟩) (Nat.lt_of_lt_of_le hb q4.size)).trans c1, (hx.cell (p := ⟨b', _, none⟩) (Nat.lt_of_lt_of_le hb' q4.size)).trans c0', (hx.cell (p := ⟨b', _, none⟩) (Nat.lt_of_lt_of_le hb' q4.size)).trans c1'⟩
      clear hcc hc hcc' hc' 
      go_wp2_with fail
      go_region_held3 (fun v => v.cell? ⟨b, o + i' * 2, none⟩ = some (.bool (f i').stack) ∧ v.cell? ⟨b, o + i' * 2 + 1, none⟩ = some (.int .i64 (f i').index) ∧ v.cell? ⟨b', o' + i' * 2, none⟩ = some (.bool (f i').stack) ∧ v.cell? ⟨b', o' + i' * 2 + 1, none⟩ = some (.int .i64 (f i').index)) (first | exact hk.out _ (Below.refl _ _).drew | assumption) (first | (go_at_call 181; refine (eqUp_in (f i') _).mono ?_; rintro e w1 ⟨rfl, b1⟩; have hs1 := hk.out w1 ((Below.refl _ _).drew.trans b1)))
      clear hs1
      have hb1 : Below w.heap.size w w1 := q4.drew.trans (b1.mono q4.size)
      clear hk
      go_wp2_with fail
      go_roundw
      case rel => exact ⟨i' + 1, rfl, by omega, hb1⟩
      case measure => simp [intOf]; omega
    · go_wp2_with fail
      go_ret
      exact ⟨rfl, q4⟩

set_option maxRecDepth 100000 in
set_option maxHeartbeats 2000000 in
theorem eqProto_in (p : PD) (a3 a4 a5 a8 a9 a3' a4' a5' a8' a9' : Value) (w : World) (hp : IsProto (· < w.heap.size) w a3 a4 a5 a8 a9 p) (hp' : IsProto (· < w.heap.size) w a3' a4' a5' a8' a9' p) :
    Calls Tryz.prog 57 #[pAgg p a3 a4 a5 a8 a9, pAgg p a3' a4' a5' a8' a9'] w fun e w' => e = .returned (.bool true) ∧ Below w.heap.size w w' := by
  obtain ⟨p3, p4, p5, p8, p9, -⟩ := id hp
  obtain ⟨p3', p4', p5', p8', p9', -⟩ := id hp'
  obtain ⟨o3, c3, rfl, -, -⟩ := p3
  obtain ⟨o5, c5, rfl, -, -⟩ := p5
  obtain ⟨o8, c8, rfl, -, -⟩ := p8
  obtain ⟨⟨o4, c4, rfl, -, -⟩, -⟩ := p4
  obtain ⟨⟨o9, c9, rfl, -, -⟩, -⟩ := p9
  obtain ⟨o3', c3', rfl, -, -⟩ := p3'
  obtain ⟨o5', c5', rfl, -, -⟩ := p5'
  obtain ⟨o8', c8', rfl, -, -⟩ := p8'
  obtain ⟨⟨o4', c4', rfl, -, -⟩, -⟩ := p4'
  obtain ⟨⟨o9', c9', rfl, -, -⟩, -⟩ := p9'
  unfold pAgg
  go_enter Tryz.func57, Tryz.ntmps57
  go_wp2_with fail
  have R0 : RowL ((w.alloc (.cells #[.int .i64 p.params, .bool p.vararg, .int .i64 p.regs, .slice o3 p.code.n c3, .slice o4 p.consts.n c4, .slice o5 p.ups.n c5, .int .i64 p.kids, .string p.name, .slice o8 p.lines.n c8, .slice o9 p.upNames.n c9] 52)).alloc (.cells #[.int .i64 p.params, .bool p.vararg, .int .i64 p.regs, .slice o3' p.code.n c3', .slice o4' p.consts.n c4', .slice o5' p.ups.n c5', .int .i64 p.kids, .string p.name, .slice o8' p.lines.n c8', .slice o9' p.upNames.n c9'] 52)) w.heap.size 52 [.int .i64 p.params, .bool p.vararg, .int .i64 p.regs, .slice o3 p.code.n c3, .slice o4 p.consts.n c4, .slice o5 p.ups.n c5, .int .i64 p.kids, .string p.name, .slice o8 p.lines.n c8, .slice o9 p.upNames.n c9] := (RowL.new w _ 52).alloc _
  have R1 : RowL ((w.alloc (.cells #[.int .i64 p.params, .bool p.vararg, .int .i64 p.regs, .slice o3 p.code.n c3, .slice o4 p.consts.n c4, .slice o5 p.ups.n c5, .int .i64 p.kids, .string p.name, .slice o8 p.lines.n c8, .slice o9 p.upNames.n c9] 52)).alloc (.cells #[.int .i64 p.params, .bool p.vararg, .int .i64 p.regs, .slice o3' p.code.n c3', .slice o4' p.consts.n c4', .slice o5' p.ups.n c5', .int .i64 p.kids, .string p.name, .slice o8' p.lines.n c8', .slice o9' p.upNames.n c9'] 52)) (w.heap.size + 1) 52 [.int .i64 p.params, .bool p.vararg, .int .i64 p.regs, .slice o3' p.code.n c3', .slice o4' p.consts.n c4', .slice o5' p.ups.n c5', .int .i64 p.kids, .string p.name, .slice o8' p.lines.n c8', .slice o9' p.upNames.n c9'] := by
    have := RowL.new (w.alloc (.cells #[.int .i64 p.params, .bool p.vararg, .int .i64 p.regs, .slice o3 p.code.n c3, .slice o4 p.consts.n c4, .slice o5 p.ups.n c5, .int .i64 p.kids, .string p.name, .slice o8 p.lines.n c8, .slice o9 p.upNames.n c9] 52)) [.int .i64 p.params, .bool p.vararg, .int .i64 p.regs, .slice o3' p.code.n c3', .slice o4' p.consts.n c4', .slice o5' p.ups.n c5', .int .i64 p.kids, .string p.name, .slice o8' p.lines.n c8', .slice o9' p.upNames.n c9'] 52
    rwa [World.size_alloc] at this
  have bw : Below w.heap.size w ((w.alloc (.cells #[.int .i64 p.params, .bool p.vararg, .int .i64 p.regs, .slice o3 p.code.n c3, .slice o4 p.consts.n c4, .slice o5 p.ups.n c5, .int .i64 p.kids, .string p.name, .slice o8 p.lines.n c8, .slice o9 p.upNames.n c9] 52)).alloc (.cells #[.int .i64 p.params, .bool p.vararg, .int .i64 p.regs, .slice o3' p.code.n c3', .slice o4' p.consts.n c4', .slice o5' p.ups.n c5', .int .i64 p.kids, .string p.name, .slice o8' p.lines.n c8', .slice o9' p.upNames.n c9'] 52)) := by go_grown
  generalize (w.alloc (.cells #[.int .i64 p.params, .bool p.vararg, .int .i64 p.regs, .slice o3 p.code.n c3, .slice o4 p.consts.n c4, .slice o5 p.ups.n c5, .int .i64 p.kids, .string p.name, .slice o8 p.lines.n c8, .slice o9 p.upNames.n c9] 52)).alloc (.cells #[.int .i64 p.params, .bool p.vararg, .int .i64 p.regs, .slice o3' p.code.n c3', .slice o4' p.consts.n c4', .slice o5' p.ups.n c5', .int .i64 p.kids, .string p.name, .slice o8' p.lines.n c8', .slice o9' p.upNames.n c9'] 52) = wx at R0 R1 bw ⊢
  refine (eqUint32S_in p.code _ _ _ ((hp.later bw).code) ((hp'.later bw).code)).mono ?_
  rintro e y0 ⟨rfl, b0⟩
  replace R0 := R0.call b0
  replace R1 := R1.call b0
  replace bw : Below w.heap.size w y0 := bw.trans (b0.mono bw.size)
  clear b0
  have u4 := R0.cell 4 rfl
  have v4 := R1.cell 4 rfl
  go_wp2_with fail
  clear u4 v4
  refine (eqValueS_in p.consts _ _ _ ((hp.later bw).consts) ((hp'.later bw).consts)).mono ?_
  rintro e y1 ⟨rfl, b1⟩
  replace R0 := R0.call b1
  replace R1 := R1.call b1
  replace bw : Below w.heap.size w y1 := bw.trans (b1.mono bw.size)
  clear b1
  have u5 := R0.cell 5 rfl
  have v5 := R1.cell 5 rfl
  go_wp2_with fail
  clear u5 v5
  refine (eqUpS_in p.ups _ _ _ ((hp.later bw).ups) ((hp'.later bw).ups)).mono ?_
  rintro e y2 ⟨rfl, b2⟩
  replace R0 := R0.call b2
  replace R1 := R1.call b2
  replace bw : Below w.heap.size w y2 := bw.trans (b2.mono bw.size)
  clear b2
  have u6 := R0.cell 6 rfl
  have v6 := R1.cell 6 rfl
  have u7 := R0.cell 7 rfl
  have v7 := R1.cell 7 rfl
  have u8 := R0.cell 8 rfl
  have v8 := R1.cell 8 rfl
  go_wp2_with fail
  clear u6 v6 u7 v7 u8 v8
  refine (eqIntS_in p.lines _ _ _ ((hp.later bw).lines) ((hp'.later bw).lines)).mono ?_
  rintro e y3 ⟨rfl, b3⟩
  replace R0 := R0.call b3
  replace R1 := R1.call b3
  replace bw : Below w.heap.size w y3 := bw.trans (b3.mono bw.size)
  clear b3
  have u9 := R0.cell 9 rfl
  have v9 := R1.cell 9 rfl
  go_wp2_with fail
  clear u9 v9
  refine (eqStringS_in p.upNames _ _ _ ((hp.later bw).upNames) ((hp'.later bw).upNames)).mono ?_
  rintro e y4 ⟨rfl, b4⟩
  replace R0 := R0.call b4
  replace R1 := R1.call b4
  replace bw : Below w.heap.size w y4 := bw.trans (b4.mono bw.size)
  clear b4
  go_wp2_with fail
  go_ret
  exact ⟨rfl, bw⟩
set_option maxRecDepth 100000 in
set_option maxHeartbeats 4000000 in
theorem eqProtoS_in (s : Sl PD) (v v' : Value) (w : World) (hv : IsProtos (· < w.heap.size) w v s) (hv' : IsProtos (· < w.heap.size) w v' s) :
    Calls Tryz.prog 25 #[v, v'] w fun e w' => e = .returned (.bool true) ∧ Below w.heap.size w w' := by
  obtain ⟨a3, a4, a5, a8, a9, ⟨ao, cap, rfl, hn, hc⟩, ht⟩ := hv
  obtain ⟨a3', a4', a5', a8', a9', ⟨ao', cap', rfl, -, hc'⟩, ht'⟩ := hv'
  obtain ⟨n, f⟩ := s
  simp only at hn hc hc' ht ht' ⊢
  go_enter Tryz.func25, Tryz.ntmps25
  go_wp2_with fail
  go_loopw [5] (fun i wr => ∃ (i' : Nat), i = .int .i64 i' ∧ i' ≤ n ∧ Below w.heap.size w wr) (fun i _ => n - (intOf i).toNat)
  case atStart => exact ⟨0, rfl, by omega, by go_grown⟩
  case round =>
    obtain ⟨i', rfl, q3, q4⟩ := hrel
    by_cases hi : i' < n
    · obtain ⟨b, o, rfl, hb, hcc⟩ := hc (by omega)
      obtain ⟨b', o', rfl, hb', hcc'⟩ := hc' (by omega)
      have c0 := hcc i' hi 0 (by omega)
      have c0' := hcc' i' hi 0 (by omega)
      have c1 := hcc i' hi 1 (by omega)
      have c1' := hcc' i' hi 1 (by omega)
      have c2 := hcc i' hi 2 (by omega)
      have c2' := hcc' i' hi 2 (by omega)
      have c3 := hcc i' hi 3 (by omega)
      have c3' := hcc' i' hi 3 (by omega)
      have c4 := hcc i' hi 4 (by omega)
      have c4' := hcc' i' hi 4 (by omega)
      have c5 := hcc i' hi 5 (by omega)
      have c5' := hcc' i' hi 5 (by omega)
      have c6 := hcc i' hi 6 (by omega)
      have c6' := hcc' i' hi 6 (by omega)
      have c7 := hcc i' hi 7 (by omega)
      have c7' := hcc' i' hi 7 (by omega)
      have c8 := hcc i' hi 8 (by omega)
      have c8' := hcc' i' hi 8 (by omega)
      have c9 := hcc i' hi 9 (by omega)
      have c9' := hcc' i' hi 9 (by omega)
      rw [← q4.cell (p := ⟨b, _, none⟩) hb] at c0 c1 c2 c3 c4 c5 c6 c7 c8 c9
      rw [← q4.cell (p := ⟨b', _, none⟩) hb'] at c0' c1' c2' c3' c4' c5' c6' c7' c8' c9'
      simp only [Nat.add_zero, Nat.mul_one, pC] at c0 c1 c2 c3 c4 c5 c6 c7 c8 c9 c0' c1' c2' c3' c4' c5' c6' c7' c8' c9'
      have hti : Hid (∀ v, Below wr.heap.size wr v → IsProto (· < v.heap.size) v (a3 i') (a4 i') (a5 i') (a8 i') (a9 i') (f i')) := fun v hx => ((ht i' hi).later q4).later hx
      have hti' : Hid (∀ v, Below wr.heap.size wr v → IsProto (· < v.heap.size) v (a3' i') (a4' i') (a5' i') (a8' i') (a9' i') (f i')) := fun v hx => ((ht' i' hi).later q4).later hx
      have hk : Hid (∀ v, Below wr.heap.size wr v → (v.cell? ⟨b, o + i' * 10, none⟩ = some (.int .i64 (f i').params) ∧ v.cell? ⟨b, o + i' * 10 + 1, none⟩ = some (.bool (f i').vararg) ∧ v.cell? ⟨b, o + i' * 10 + 2, none⟩ = some (.int .i64 (f i').regs) ∧ v.cell? ⟨b, o + i' * 10 + 3, none⟩ = some (a3 i') ∧ v.cell? ⟨b, o + i' * 10 + 4, none⟩ = some (a4 i') ∧ v.cell? ⟨b, o + i' * 10 + 5, none⟩ = some (a5 i') ∧ v.cell? ⟨b, o + i' * 10 + 6, none⟩ = some (.int .i64 (f i').kids) ∧ v.cell? ⟨b, o + i' * 10 + 7, none⟩ = some (.string (f i').name) ∧ v.cell? ⟨b, o + i' * 10 + 8, none⟩ = some (a8 i') ∧ v.cell? ⟨b, o + i' * 10 + 9, none⟩ = some (a9 i') ∧ v.cell? ⟨b', o' + i' * 10, none⟩ = some (.int .i64 (f i').params) ∧ v.cell? ⟨b', o' + i' * 10 + 1, none⟩ = some (.bool (f i').vararg) ∧ v.cell? ⟨b', o' + i' * 10 + 2, none⟩ = some (.int .i64 (f i').regs) ∧ v.cell? ⟨b', o' + i' * 10 + 3, none⟩ = some (a3' i') ∧ v.cell? ⟨b', o' + i' * 10 + 4, none⟩ = some (a4' i') ∧ v.cell? ⟨b', o' + i' * 10 + 5, none⟩ = some (a5' i') ∧ v.cell? ⟨b', o' + i' * 10 + 6, none⟩ = some (.int .i64 (f i').kids) ∧ v.cell? ⟨b', o' + i' * 10 + 7, none⟩ = some (.string (f i').name) ∧ v.cell? ⟨b', o' + i' * 10 + 8, none⟩ = some (a8' i') ∧ v.cell? ⟨b', o' + i' * 10 + 9, none⟩ = some (a9' i'))) := fun v hx => ⟨(hx.cell (p := ⟨b, _, none⟩) (Nat.lt_of_lt_of_le hb q4.size)).trans c0, (hx.cell (p := ⟨b, _, none⟩) (Nat.lt_of_lt_of_le hb q4.size)).trans c1, (hx.cell (p := ⟨b, _, none⟩) (Nat.lt_of_lt_of_le hb q4.size)).trans c2, (hx.cell (p := ⟨b, _, none⟩) (Nat.lt_of_lt_of_le hb q4.size)).trans c3, (hx.cell (p := ⟨b, _, none⟩) (Nat.lt_of_lt_of_le hb q4.size)).trans c4, (hx.cell (p := ⟨b, _, none⟩) (Nat.lt_of_lt_of_le hb q4.size)).trans c5, (hx.cell (p := ⟨b, _, none⟩) (Nat.lt_of_lt_of_le hb q4.size)).trans c6, (hx.cell (p := ⟨b, _, none⟩) (Nat.lt_of_lt_of_le hb q4.size)).trans c7, (hx.cell (p := ⟨b, _, none⟩) (Nat.lt_of_lt_of_le hb q4.size)).trans c8, (hx.cell (p := ⟨b, _, none⟩) (Nat.lt_of_lt_of_le hb q4.size)).trans c9, (hx.cell (p := ⟨b', _, none⟩) (Nat.lt_of_lt_of_le hb' q4.size)).trans c0', (hx.cell (p := ⟨b', _, none⟩) (Nat.lt_of_lt_of_le hb' q4.size)).trans c1', (hx.cell (p := ⟨b', _, none⟩) (Nat.lt_of_lt_of_le hb' q4.size)).trans c2', (hx.cell (p := ⟨b', _, none⟩) (Nat.lt_of_lt_of_le hb' q4.size)).trans c3', (hx.cell (p := ⟨b', _, none⟩) (Nat.lt_of_lt_of_le hb' q4.size)).trans c4', (hx.cell (p := ⟨b', _, none⟩) (Nat.lt_of_lt_of_le hb' q4.size)).trans c5', (hx.cell (p := ⟨b', _, none⟩) (Nat.lt_of_lt_of_le hb' q4.size)).trans c6', (hx.cell (p := ⟨b', _, none⟩) (Nat.lt_of_lt_of_le hb' q4.size)).trans c7', (hx.cell (p := ⟨b', _, none⟩) (Nat.lt_of_lt_of_le hb' q4.size)).trans c8', (hx.cell (p := ⟨b', _, none⟩) (Nat.lt_of_lt_of_le hb' q4.size)).trans c9'⟩
      clear hcc hc hcc' hc' ht ht'
      go_wp2_with fail
      go_region_held3 (fun v => v.cell? ⟨b, o + i' * 10, none⟩ = some (.int .i64 (f i').params) ∧ v.cell? ⟨b, o + i' * 10 + 1, none⟩ = some (.bool (f i').vararg) ∧ v.cell? ⟨b, o + i' * 10 + 2, none⟩ = some (.int .i64 (f i').regs) ∧ v.cell? ⟨b, o + i' * 10 + 3, none⟩ = some (a3 i') ∧ v.cell? ⟨b, o + i' * 10 + 4, none⟩ = some (a4 i') ∧ v.cell? ⟨b, o + i' * 10 + 5, none⟩ = some (a5 i') ∧ v.cell? ⟨b, o + i' * 10 + 6, none⟩ = some (.int .i64 (f i').kids) ∧ v.cell? ⟨b, o + i' * 10 + 7, none⟩ = some (.string (f i').name) ∧ v.cell? ⟨b, o + i' * 10 + 8, none⟩ = some (a8 i') ∧ v.cell? ⟨b, o + i' * 10 + 9, none⟩ = some (a9 i') ∧ v.cell? ⟨b', o' + i' * 10, none⟩ = some (.int .i64 (f i').params) ∧ v.cell? ⟨b', o' + i' * 10 + 1, none⟩ = some (.bool (f i').vararg) ∧ v.cell? ⟨b', o' + i' * 10 + 2, none⟩ = some (.int .i64 (f i').regs) ∧ v.cell? ⟨b', o' + i' * 10 + 3, none⟩ = some (a3' i') ∧ v.cell? ⟨b', o' + i' * 10 + 4, none⟩ = some (a4' i') ∧ v.cell? ⟨b', o' + i' * 10 + 5, none⟩ = some (a5' i') ∧ v.cell? ⟨b', o' + i' * 10 + 6, none⟩ = some (.int .i64 (f i').kids) ∧ v.cell? ⟨b', o' + i' * 10 + 7, none⟩ = some (.string (f i').name) ∧ v.cell? ⟨b', o' + i' * 10 + 8, none⟩ = some (a8' i') ∧ v.cell? ⟨b', o' + i' * 10 + 9, none⟩ = some (a9' i')) (first | exact hk.out _ (Below.refl _ _).drew | assumption) (first | (go_at_call 57; refine (eqProto_in (f i') (a3 i') (a4 i') (a5 i') (a8 i') (a9 i') (a3' i') (a4' i') (a5' i') (a8' i') (a9' i') _ (hti.out _ (Below.refl _ _).drew) (hti'.out _ (Below.refl _ _).drew)).mono ?_; rintro e w1 ⟨rfl, b1⟩; have hs1 := hk.out w1 ((Below.refl _ _).drew.trans b1)))
      clear hs1
      have hb1 : Below w.heap.size w w1 := q4.drew.trans (b1.mono q4.size)
      clear hk
      go_wp2_with fail
      go_roundw
      case rel => exact ⟨i' + 1, rfl, by omega, hb1⟩
      case measure => simp [intOf]; omega
    · go_wp2_with fail
      go_ret
      exact ⟨rfl, q4⟩

theorem eqChunk_in (s : Sl PD) (v v' : Value) (w : World) (hv : IsProtos (· < w.heap.size) w v s) (hv' : IsProtos (· < w.heap.size) w v' s) :
    Calls Tryz.prog 8 #[.agg #[v], .agg #[v']] w fun e w' => e = .returned (.bool true) ∧ Below w.heap.size w w' := by
  have hx := hv
  have hx' := hv'
  obtain ⟨-, -, -, -, -, ⟨ao, cap, rfl, -, -⟩, -⟩ := hv
  obtain ⟨-, -, -, -, -, ⟨ao', cap', rfl, -, -⟩, -⟩ := hv'
  go_enter Tryz.func8, Tryz.ntmps8
  go_wp2_with fail
  refine (eqProtoS_in s _ _ _ (hx.later (by go_grown)) (hx'.later (by go_grown))).mono ?_
  rintro e w1 ⟨rfl, b1⟩
  have hb1 : Below w.heap.size w w1 := Below.trans (by go_grown) (b1.mono (by simp; omega))
  go_wp2_with fail
  go_ret
  exact ⟨rfl, hb1⟩
end
section
open Go.RowKit
set_option linter.unusedVariables false
set_option linter.unusedSimpArgs false

/-- a call that answers whether P. -/
def Says (e : Ending) (P : Prop) : Prop := ∃ r, e = .returned (.bool r) ∧ (r = true ↔ P)
theorem Says.yes {P : Prop} {v : Value} (hv : v = .bool true) (h : P) : Says (.returned v) P := ⟨true, by rw [hv], by simp [h]⟩
theorem Says.no {P : Prop} {v : Value} (hv : v = .bool false) (h : ¬ P) : Says (.returned v) P := ⟨false, by rw [hv], by simp [h]⟩
theorem Says.of {P : Prop} {v : Value} {r : Bool} (hv : v = .bool r) (h : r = true ↔ P) : Says (.returned v) P := ⟨r, by rw [hv], h⟩

/-- a plain value. -/
def Plain (d : VD) : Prop :=
  (d.kind = 0 ∧ d.num = 0 ∧ d.text.size = 0) ∨ (d.kind = 1 ∧ (d.num = 0 ∨ d.num = 1) ∧ d.text.size = 0) ∨ (d.kind = 2 ∧ d.text.size = 0) ∨ (d.kind = 3 ∧ d.num = 0 ∧ d.text.size ≤ 1000)
def NumOk (x : Int) : Prop := 0 ≤ x ∧ x ≤ 16777215
/-- what is asked of a prototype for itself. -/
structure ProtoOk (p : PD) : Prop where
  regs1 : 1 ≤ p.regs
  regs2 : p.regs ≤ 250
  par1 : 0 ≤ p.params
  par2 : p.params ≤ p.regs
  code1 : 1 ≤ p.code.n
  code2 : p.code.n ≤ 2000
  consts : p.consts.n ≤ 500
  ups : p.ups.n ≤ 60
  name : p.name.size ≤ 1000
  lines : p.lines.n = 0 ∨ p.lines.n = p.code.n
  upNames : p.upNames.n = 0 ∨ p.upNames.n = p.ups.n
  allConsts : ∀ i, i < p.consts.n → Plain (p.consts.f i)
  allUps : ∀ i, i < p.ups.n → NumOk (p.ups.f i).index
  allLines : ∀ i, i < p.lines.n → NumOk (p.lines.f i)
  allUpNames : ∀ i, i < p.upNames.n → (p.upNames.f i).size ≤ 1000

theorem l2Plain_in (d : VD) (w : World) :
    Calls Tryz.prog 142 #[.agg #[.int .i64 d.kind, .int .i64 d.num, .string d.text]] w fun e w' => Says e (Plain d) ∧ Below w.heap.size w w' := by
  by_cases h3 : d.kind = 3
  · have h1 : d.kind ≠ 1 := by omega
    by_cases h2 : d.num = 0
    · by_cases h4 : d.text.size ≤ 1000
      · go_enter Tryz.func142, Tryz.ntmps142
        go_wp2_with fail
        go_ret
        exact ⟨Says.yes (by first | rfl | (simp; omega)) (by unfold Plain; omega), by go_grown⟩
      · go_enter Tryz.func142, Tryz.ntmps142
        go_wp2_with fail
        go_ret
        exact ⟨Says.no (by first | rfl | (simp; omega)) (by unfold Plain; omega), by go_grown⟩
    · go_enter Tryz.func142, Tryz.ntmps142
      go_wp2_with fail
      go_ret
      exact ⟨Says.no (by first | rfl | (simp; omega)) (by unfold Plain; omega), by go_grown⟩
  · by_cases ht : 0 < d.text.size
    · go_enter Tryz.func142, Tryz.ntmps142
      go_wp2_with fail
      go_ret
      exact ⟨Says.no (by first | rfl | (simp; omega)) (by unfold Plain; omega), by go_grown⟩
    · by_cases h1 : d.kind = 1
      · by_cases h2 : d.num = 0
        · go_enter Tryz.func142, Tryz.ntmps142
          go_wp2_with fail
          go_ret
          exact ⟨Says.yes (by first | rfl | (simp; omega)) (by unfold Plain; omega), by go_grown⟩
        · by_cases h4 : d.num = 1
          · go_enter Tryz.func142, Tryz.ntmps142
            go_wp2_with fail
            go_ret
            exact ⟨Says.yes (by first | rfl | (simp; omega)) (by unfold Plain; omega), by go_grown⟩
          · go_enter Tryz.func142, Tryz.ntmps142
            go_wp2_with fail
            go_ret
            exact ⟨Says.no (by first | rfl | (simp; omega)) (by unfold Plain; omega), by go_grown⟩
      · by_cases h2 : d.kind = 2
        · go_enter Tryz.func142, Tryz.ntmps142
          go_wp2_with fail
          go_ret
          exact ⟨Says.yes (by first | rfl | (simp; omega)) (by unfold Plain; omega), by go_grown⟩
        · by_cases h0 : d.kind = 0
          · by_cases h4 : d.num = 0
            · go_enter Tryz.func142, Tryz.ntmps142
              go_wp2_with fail
              go_ret
              exact ⟨Says.yes (by first | rfl | (simp; omega)) (by unfold Plain; omega), by go_grown⟩
            · go_enter Tryz.func142, Tryz.ntmps142
              go_wp2_with fail
              go_ret
              exact ⟨Says.no (by first | rfl | (simp; omega)) (by unfold Plain; omega), by go_grown⟩
          · go_enter Tryz.func142, Tryz.ntmps142
            go_wp2_with fail
            go_ret
            exact ⟨Says.no (by first | rfl | (simp; omega)) (by unfold Plain; omega), by go_grown⟩

theorem l2NumOk_in (x : Int) (w : World) :
    Calls Tryz.prog 143 #[.int .i64 x] w fun e w' => Says e (NumOk x) ∧ Below w.heap.size w w' := by
  by_cases h1 : 0 ≤ x
  · by_cases h2 : x ≤ 16777215
    · go_enter Tryz.func143, Tryz.ntmps143
      go_wp2_with fail
      go_ret
      exact ⟨Says.yes (by first | rfl | (simp; omega)) ⟨h1, h2⟩, by go_grown⟩
    · go_enter Tryz.func143, Tryz.ntmps143
      go_wp2_with fail
      go_ret
      exact ⟨Says.no (by first | rfl | (simp; omega)) (by unfold NumOk; omega), by go_grown⟩
  · go_enter Tryz.func143, Tryz.ntmps143
    go_wp2_with fail
    go_ret
    exact ⟨Says.no (by first | rfl | (simp; omega)) (by unfold NumOk; omega), by go_grown⟩

theorem l2End_in (ao : Option Addr) (n cap : Nat) (K : Nat → Int) (w : World) (hn : n ≤ 9223372036854775807)
    (hc : 0 < n → ∃ b o, ao = some ⟨b, o, none⟩ ∧ ∀ i, i < n → w.cell? ⟨b, o + i * 10 + 6, none⟩ = some (.int .i64 (K i))) (m : Nat) :
    ∀ (i a : Nat), n - i ≤ m → i ≤ n → a ≤ 64 → Calls Tryz.prog 68 #[.slice ao n cap, .int .i64 (i : Int), .int .i64 (a : Int)] w fun e w' => (∃ r, e = .returned (.int .i64 r) ∧ EndIs K n i a r) ∧ w = w' := by
  induction m with
  | zero =>
    intro i a hm hin ha
    have hi : (n : Int) ≤ (i : Int) := by omega
    go_enter Tryz.func68, Tryz.ntmps68
    go_wp2_with fail
    go_ret
    exact ⟨⟨_, rfl, EndIs.none (.inl (by omega))⟩, rfl⟩
  | succ m ih =>
    intro i a hm hin ha
    by_cases hi : n ≤ i
    · have hi' : (n : Int) ≤ (i : Int) := by omega
      clear ih
      go_enter Tryz.func68, Tryz.ntmps68
      go_wp2_with fail
      go_ret
      exact ⟨⟨_, rfl, EndIs.none (.inl hi)⟩, rfl⟩
    · have hi' : (i : Int) < (n : Int) := by omega
      by_cases h64 : 64 ≤ a
      · have h64' : (64 : Int) ≤ (a : Int) := by omega
        clear ih
        go_enter Tryz.func68, Tryz.ntmps68
        go_wp2_with fail
        go_ret
        exact ⟨⟨_, rfl, EndIs.none (.inr (.inl h64))⟩, rfl⟩
      · obtain ⟨b, o, rfl, hcc⟩ := hc (by omega)
        have c6 := hcc i (by omega)
        by_cases hk : K i < 0
        · clear ih hcc hc
          go_enter Tryz.func68, Tryz.ntmps68
          go_wp2_with fail
          go_ret
          exact ⟨⟨_, rfl, EndIs.none (.inr (.inr hk))⟩, rfl⟩
        · have ih' := fun i a h1 h2 h3 => ih i a h1 h2 h3
          clear ih hcc hc
          go_enter Tryz.func68, Tryz.ntmps68
          go_wp2_with fail
          go_loopw [7, 8] (fun v k wr => ∃ (r : Int) (k' : Nat), v = .int .i64 r ∧ k = .int .i64 k' ∧ w = wr ∧ k' ≤ n ∧ (k' : Int) ≤ K i ∧ Hid (KidsIs K n i a k' r)) (fun _ k _ => n - (intOf k).toNat)
          case atStart => exact ⟨_, 0, rfl, rfl, rfl, by omega, by omega, KidsIs.start (by omega)⟩
          case round =>
            obtain ⟨r, k, rfl, rfl, rfl, hkn, hki, hK⟩ := hrel
            by_cases hkk : (k : Int) < K i
            · by_cases hr : 0 ≤ r
              · obtain ⟨e, h, t, hh, rfl⟩ | ⟨rfl, -⟩ := hK.out
                · have hle := t.le
                  have hen : e ≤ n := by
                    by_cases hk0 : 0 < k
                    · exact hle.2 hk0
                    · obtain rfl : k = 0 := by omega
                      cases t
                      omega
                  have hkn' : k < n := by omega
                  have hie : i + 1 ≤ e := by omega
                  have t' : Hid (Fo K n k (i + 1) e h) := t
                  clear t hle
                  go_wp2_with fail
                  refine (ih' e (a + 1) (by omega) hen (by omega)).mono ?_
                  rintro e' w1 ⟨⟨r, rfl, hr'⟩, rfl⟩
                  have hnew : Hid (KidsIs K n i a (k + 1) r) := KidsIs.step t'.out hh hkk hr'
                  clear hr' t' hK
                  go_wp2_with fail
                  go_roundw
                  case rel => exact ⟨r, k + 1, rfl, rfl, by first | trivial | rfl, by omega, by omega, hnew⟩
                  case measure => simp [intOf]; omega
                · omega
              · have hf : Hid (EndIs K n i a r) := KidsIs.done (by omega) (by omega) hK.out (.inl (by omega))
                clear hK ih'
                go_wp2_with fail
                go_ret
                exact ⟨⟨_, rfl, hf.out⟩, rfl⟩
            · have hf : Hid (EndIs K n i a r) := KidsIs.done (by omega) (by omega) hK.out (.inr (by omega))
              clear hK ih'
              go_wp2_with fail
              go_ret
              exact ⟨⟨_, rfl, hf.out⟩, rfl⟩
end
end Go.Proofs.YtckapapejfnojaaGreatDoor

import Derived.Test.YtebjplogpngeaaaGreatDoorGa
import Derived.Deep.RegionHeld3
import Derived.Deep.RegionWith
import Derived.IntWalk
namespace Go.Proofs.YtebjplogpngeaaaGreatDoor
open Go.RowKit
set_option linter.unusedVariables false
set_option linter.unusedSimpArgs false
set_option maxRecDepth 100000
set_option maxHeartbeats 1000000
theorem wSameWords_in (s : Sl Int) (v v' : Value) (w : World) (hv : IsInts .u32 (· < w.heap.size) w v s) (hv' : IsInts .u32 (· < w.heap.size) w v' s) :
    Calls Tryz.prog 59 #[v, v'] w fun e w' => e = .returned (.bool true) ∧ Below w.heap.size w w' := by
  obtain ⟨ao, cap, rfl, hn, hc⟩ := hv
  obtain ⟨ao', cap', rfl, -, hc'⟩ := hv'
  obtain ⟨n, f⟩ := s
  simp only at hn hc hc' ⊢
  go_enter Tryz.func59, Tryz.ntmps59
  go_wp2_with fail
  go_loopw [5] (fun i wr => ∃ (i' : Nat), i = .int .i64 i' ∧ i' ≤ n ∧ Below w.heap.size w wr) (fun i _ => n - (intOf i).toNat)
  case atStart => exact ⟨0, rfl, by omega, by go_grown⟩
  case round =>
    obtain ⟨i', rfl, q3, q4⟩ := hrel
    by_cases hi : i' < n
    · obtain ⟨b, o, rfl, hb, hcc⟩ := hc (by omega)
      obtain ⟨b', o', rfl, hb', hcc'⟩ := hc' (by omega)
      have c0 := hcc i' hi 0 (by omega)
      have c0' := hcc' i' hi 0 (by omega)
      rw [← q4.cell (p := ⟨b, _, none⟩) hb] at c0
      rw [← q4.cell (p := ⟨b', _, none⟩) hb'] at c0'
      simp only [Nat.add_zero, Nat.mul_one, iC] at c0 c0'
      clear hcc hc hcc' hc'
      go_wp2_with fail
      go_region
      go_wp2_with fail
      go_roundw
      case rel => exact ⟨i' + 1, rfl, by omega, q4.drew⟩
      case measure => simp [intOf]; omega
    · go_wp2_with fail
      go_ret
      exact ⟨rfl, q4⟩
theorem wSameInts_in (s : Sl Int) (v v' : Value) (w : World) (hv : IsInts .i64 (· < w.heap.size) w v s) (hv' : IsInts .i64 (· < w.heap.size) w v' s) :
    Calls Tryz.prog 61 #[v, v'] w fun e w' => e = .returned (.bool true) ∧ Below w.heap.size w w' := by
  obtain ⟨ao, cap, rfl, hn, hc⟩ := hv
  obtain ⟨ao', cap', rfl, -, hc'⟩ := hv'
  obtain ⟨n, f⟩ := s
  simp only at hn hc hc' ⊢
  go_enter Tryz.func61, Tryz.ntmps61
  go_wp2_with fail
  go_loopw [5] (fun i wr => ∃ (i' : Nat), i = .int .i64 i' ∧ i' ≤ n ∧ Below w.heap.size w wr) (fun i _ => n - (intOf i).toNat)
  case atStart => exact ⟨0, rfl, by omega, by go_grown⟩
  case round =>
    obtain ⟨i', rfl, q3, q4⟩ := hrel
    by_cases hi : i' < n
    · obtain ⟨b, o, rfl, hb, hcc⟩ := hc (by omega)
      obtain ⟨b', o', rfl, hb', hcc'⟩ := hc' (by omega)
      have c0 := hcc i' hi 0 (by omega)
      have c0' := hcc' i' hi 0 (by omega)
      rw [← q4.cell (p := ⟨b, _, none⟩) hb] at c0
      rw [← q4.cell (p := ⟨b', _, none⟩) hb'] at c0'
      simp only [Nat.add_zero, Nat.mul_one, iC] at c0 c0'
      clear hcc hc hcc' hc'
      go_wp2_with fail
      go_region
      go_wp2_with fail
      go_roundw
      case rel => exact ⟨i' + 1, rfl, by omega, q4.drew⟩
      case measure => simp [intOf]; omega
    · go_wp2_with fail
      go_ret
      exact ⟨rfl, q4⟩
theorem wSameTexts_in (s : Sl ByteArray) (v v' : Value) (w : World) (hv : IsStrs (· < w.heap.size) w v s) (hv' : IsStrs (· < w.heap.size) w v' s) :
    Calls Tryz.prog 62 #[v, v'] w fun e w' => e = .returned (.bool true) ∧ Below w.heap.size w w' := by
  obtain ⟨⟨ao, cap, rfl, hn, hc⟩, -⟩ := hv
  obtain ⟨⟨ao', cap', rfl, -, hc'⟩, -⟩ := hv'
  obtain ⟨n, f⟩ := s
  simp only at hn hc hc' ⊢
  go_enter Tryz.func62, Tryz.ntmps62
  go_wp2_with fail
  go_loopw [5] (fun i wr => ∃ (i' : Nat), i = .int .i64 i' ∧ i' ≤ n ∧ Below w.heap.size w wr) (fun i _ => n - (intOf i).toNat)
  case atStart => exact ⟨0, rfl, by omega, by go_grown⟩
  case round =>
    obtain ⟨i', rfl, q3, q4⟩ := hrel
    by_cases hi : i' < n
    · obtain ⟨b, o, rfl, hb, hcc⟩ := hc (by omega)
      obtain ⟨b', o', rfl, hb', hcc'⟩ := hc' (by omega)
      have c0 := hcc i' hi 0 (by omega)
      have c0' := hcc' i' hi 0 (by omega)
      rw [← q4.cell (p := ⟨b, _, none⟩) hb] at c0
      rw [← q4.cell (p := ⟨b', _, none⟩) hb'] at c0'
      simp only [Nat.add_zero, Nat.mul_one, sC] at c0 c0'
      clear hcc hc hcc' hc'
      go_wp2_with fail
      go_region
      go_wp2_with fail
      go_roundw
      case rel => exact ⟨i' + 1, rfl, by omega, q4.drew⟩
      case measure => simp [intOf]; omega
    · go_wp2_with fail
      go_ret
      exact ⟨rfl, q4⟩
theorem wSameValues_in (s : Sl VD) (v v' : Value) (w : World) (hv : IsVals (· < w.heap.size) w v s) (hv' : IsVals (· < w.heap.size) w v' s) :
    Calls Tryz.prog 60 #[v, v'] w fun e w' => e = .returned (.bool true) ∧ Below w.heap.size w w' := by
  obtain ⟨⟨ao, cap, rfl, hn, hc⟩, -⟩ := hv
  obtain ⟨⟨ao', cap', rfl, -, hc'⟩, -⟩ := hv'
  obtain ⟨n, f⟩ := s
  simp only at hn hc hc' ⊢
  go_enter Tryz.func60, Tryz.ntmps60
  go_wp2_with fail
  go_loopw [5] (fun i wr => ∃ (i' : Nat), i = .int .i64 i' ∧ i' ≤ n ∧ Below w.heap.size w wr) (fun i _ => n - (intOf i).toNat)
  case atStart => exact ⟨0, rfl, by omega, by go_grown⟩
  case round =>
    obtain ⟨i', rfl, q3, q4⟩ := hrel
    by_cases hi : i' < n
    · obtain ⟨b, o, rfl, hb, hcc⟩ := hc (by omega)
      obtain ⟨b', o', rfl, hb', hcc'⟩ := hc' (by omega)
      have c0 := hcc i' hi 0 (by omega)
      have c0' := hcc' i' hi 0 (by omega)
      rw [← q4.cell (p := ⟨b, _, none⟩) hb] at c0
      rw [← q4.cell (p := ⟨b', _, none⟩) hb'] at c0'
      have c1 := hcc i' hi 1 (by omega)
      have c1' := hcc' i' hi 1 (by omega)
      rw [← q4.cell (p := ⟨b, _, none⟩) hb] at c1
      rw [← q4.cell (p := ⟨b', _, none⟩) hb'] at c1'
      have c2 := hcc i' hi 2 (by omega)
      have c2' := hcc' i' hi 2 (by omega)
      rw [← q4.cell (p := ⟨b, _, none⟩) hb] at c2
      rw [← q4.cell (p := ⟨b', _, none⟩) hb'] at c2'
      simp only [Nat.add_zero, Nat.mul_one, vC] at c0 c0' c1 c1' c2 c2'
      clear hcc hc hcc' hc'
      go_wp2_with fail
      go_region
      go_wp2_with fail
      go_roundw
      case rel => exact ⟨i' + 1, rfl, by omega, q4.drew⟩
      case measure => simp [intOf]; omega
    · go_wp2_with fail
      go_ret
      exact ⟨rfl, q4⟩
theorem wSameProto_in (p : PD) (a3 a4 a5 a8 a9 a3' a4' a5' a8' a9' : Value) (w : World) (hp : IsProto (· < w.heap.size) w a3 a4 a5 a8 a9 p) (hp' : IsProto (· < w.heap.size) w a3' a4' a5' a8' a9' p) :
    Calls Tryz.prog 22 #[pAgg p a3 a4 a5 a8 a9, pAgg p a3' a4' a5' a8' a9', .bool false] w fun e w' => e = .returned (.bool true) ∧ Below w.heap.size w w' := by
  obtain ⟨p3, p4, p5, p8, p9, -⟩ := id hp
  obtain ⟨p3', p4', p5', p8', p9', -⟩ := id hp'
  obtain ⟨o3, c3, rfl, -, -⟩ := p3
  obtain ⟨o5, c5, rfl, hn, hc⟩ := p5
  obtain ⟨o8, c8, rfl, -, -⟩ := p8
  obtain ⟨⟨o4, c4, rfl, -, -⟩, -⟩ := p4
  obtain ⟨⟨o9, c9, rfl, -, -⟩, -⟩ := p9
  obtain ⟨o3', c3', rfl, -, -⟩ := p3'
  obtain ⟨o5', c5', rfl, -, hc'⟩ := p5'
  obtain ⟨o8', c8', rfl, -, -⟩ := p8'
  obtain ⟨⟨o4', c4', rfl, -, -⟩, -⟩ := p4'
  obtain ⟨⟨o9', c9', rfl, -, -⟩, -⟩ := p9'
  unfold pAgg
  have R0 : RowL ((w.alloc (.cells #[.int .i64 p.params, .bool p.vararg, .int .i64 p.regs, .slice o3 p.code.n c3, .slice o4 p.consts.n c4, .slice o5 p.ups.n c5, .int .i64 p.kids, .string p.name, .slice o8 p.lines.n c8, .slice o9 p.upNames.n c9] 54)).alloc (.cells #[.int .i64 p.params, .bool p.vararg, .int .i64 p.regs, .slice o3' p.code.n c3', .slice o4' p.consts.n c4', .slice o5' p.ups.n c5', .int .i64 p.kids, .string p.name, .slice o8' p.lines.n c8', .slice o9' p.upNames.n c9'] 54)) w.heap.size 54 [.int .i64 p.params, .bool p.vararg, .int .i64 p.regs, .slice o3 p.code.n c3, .slice o4 p.consts.n c4, .slice o5 p.ups.n c5, .int .i64 p.kids, .string p.name, .slice o8 p.lines.n c8, .slice o9 p.upNames.n c9] := (RowL.new w [.int .i64 p.params, .bool p.vararg, .int .i64 p.regs, .slice o3 p.code.n c3, .slice o4 p.consts.n c4, .slice o5 p.ups.n c5, .int .i64 p.kids, .string p.name, .slice o8 p.lines.n c8, .slice o9 p.upNames.n c9] 54).alloc _
  have R1 : RowL ((w.alloc (.cells #[.int .i64 p.params, .bool p.vararg, .int .i64 p.regs, .slice o3 p.code.n c3, .slice o4 p.consts.n c4, .slice o5 p.ups.n c5, .int .i64 p.kids, .string p.name, .slice o8 p.lines.n c8, .slice o9 p.upNames.n c9] 54)).alloc (.cells #[.int .i64 p.params, .bool p.vararg, .int .i64 p.regs, .slice o3' p.code.n c3', .slice o4' p.consts.n c4', .slice o5' p.ups.n c5', .int .i64 p.kids, .string p.name, .slice o8' p.lines.n c8', .slice o9' p.upNames.n c9'] 54)) (w.heap.size + 1) 54 [.int .i64 p.params, .bool p.vararg, .int .i64 p.regs, .slice o3' p.code.n c3', .slice o4' p.consts.n c4', .slice o5' p.ups.n c5', .int .i64 p.kids, .string p.name, .slice o8' p.lines.n c8', .slice o9' p.upNames.n c9'] := by
    have := RowL.new (w.alloc (.cells #[.int .i64 p.params, .bool p.vararg, .int .i64 p.regs, .slice o3 p.code.n c3, .slice o4 p.consts.n c4, .slice o5 p.ups.n c5, .int .i64 p.kids, .string p.name, .slice o8 p.lines.n c8, .slice o9 p.upNames.n c9] 54)) [.int .i64 p.params, .bool p.vararg, .int .i64 p.regs, .slice o3' p.code.n c3', .slice o4' p.consts.n c4', .slice o5' p.ups.n c5', .int .i64 p.kids, .string p.name, .slice o8' p.lines.n c8', .slice o9' p.upNames.n c9'] 54
    rwa [World.size_alloc] at this
  have bw : Below w.heap.size w ((w.alloc (.cells #[.int .i64 p.params, .bool p.vararg, .int .i64 p.regs, .slice o3 p.code.n c3, .slice o4 p.consts.n c4, .slice o5 p.ups.n c5, .int .i64 p.kids, .string p.name, .slice o8 p.lines.n c8, .slice o9 p.upNames.n c9] 54)).alloc (.cells #[.int .i64 p.params, .bool p.vararg, .int .i64 p.regs, .slice o3' p.code.n c3', .slice o4' p.consts.n c4', .slice o5' p.ups.n c5', .int .i64 p.kids, .string p.name, .slice o8' p.lines.n c8', .slice o9' p.upNames.n c9'] 54)) := by go_grown
  go_enter Tryz.func22, Tryz.ntmps22
  go_wp2_with fail
  generalize (w.alloc (.cells #[.int .i64 p.params, .bool p.vararg, .int .i64 p.regs, .slice o3 p.code.n c3, .slice o4 p.consts.n c4, .slice o5 p.ups.n c5, .int .i64 p.kids, .string p.name, .slice o8 p.lines.n c8, .slice o9 p.upNames.n c9] 54)).alloc (.cells #[.int .i64 p.params, .bool p.vararg, .int .i64 p.regs, .slice o3' p.code.n c3', .slice o4' p.consts.n c4', .slice o5' p.ups.n c5', .int .i64 p.kids, .string p.name, .slice o8' p.lines.n c8', .slice o9' p.upNames.n c9'] 54) = y0 at R0 R1 bw ⊢
  go_loopw [7] (fun i wr => ∃ (i' : Nat), i = .int .i64 i' ∧ i' ≤ p.ups.n ∧ Hid (Below y0.heap.size y0 wr)) (fun i _ => p.ups.n - (intOf i).toNat)
  case atStart => exact ⟨0, rfl, by omega, Below.refl _ _⟩
  case round =>
    obtain ⟨i', rfl, q3, q4⟩ := hrel
    replace R0 := R0.call q4.out
    replace R1 := R1.call q4.out
    have bw1 := bw.trans (q4.out.mono bw.size)
    by_cases hi : i' < p.ups.n
    · obtain ⟨b, o, rfl, hb, hcc⟩ := hc (by omega)
      obtain ⟨b', o', rfl, hb', hcc'⟩ := hc' (by omega)
      have c0 := hcc i' hi 0 (by omega)
      have c0' := hcc' i' hi 0 (by omega)
      rw [← bw1.cell (p := ⟨b, _, none⟩) hb] at c0
      rw [← bw1.cell (p := ⟨b', _, none⟩) hb'] at c0'
      have c1 := hcc i' hi 1 (by omega)
      have c1' := hcc' i' hi 1 (by omega)
      rw [← bw1.cell (p := ⟨b, _, none⟩) hb] at c1
      rw [← bw1.cell (p := ⟨b', _, none⟩) hb'] at c1'
      simp only [Nat.add_zero, uC] at c0 c0' c1 c1'
      have u5 := R0.cell 5 rfl
      have v5 := R1.cell 5 rfl
      clear hcc hc hcc' hc'
      go_wp2_with fail
      go_region
      go_wp2_with fail
      go_roundw
      case rel => exact ⟨i' + 1, rfl, by omega, q4.out.drew⟩
      case measure => simp [intOf]; omega
    · obtain ⟨bw0, hbw0⟩ : ∃ x : Nat, x = 0 := ⟨_, rfl⟩
      clear hc hc'
      have u5 := R0.cell 5 rfl
      have v5 := R1.cell 5 rfl
      replace bw := bw1
      have u3 := R0.cell 3 rfl
      have v3 := R1.cell 3 rfl
      go_wp2_with fail
      clear u5 v5
      clear u3 v3
      refine (wSameWords_in p.code _ _ _ ((hp.later bw).code) ((hp'.later bw).code)).mono ?_
      rintro e y1 ⟨rfl, b1⟩
      replace R0 := R0.call b1
      replace R1 := R1.call b1
      replace bw : Below w.heap.size w y1 := bw.trans (b1.mono bw.size)
      clear b1
      have u4 := R0.cell 4 rfl
      have v4 := R1.cell 4 rfl
      go_wp2_with fail
      clear u4 v4
      refine (wSameValues_in p.consts _ _ _ ((hp.later bw).consts) ((hp'.later bw).consts)).mono ?_
      rintro e y2 ⟨rfl, b2⟩
      replace R0 := R0.call b2
      replace R1 := R1.call b2
      replace bw : Below w.heap.size w y2 := bw.trans (b2.mono bw.size)
      clear b2
      have u7 := R0.cell 7 rfl
      have v7 := R1.cell 7 rfl
      have u8 := R0.cell 8 rfl
      have v8 := R1.cell 8 rfl
      go_wp2_with fail
      clear u7 v7 u8 v8
      refine (wSameInts_in p.lines _ _ _ ((hp.later bw).lines) ((hp'.later bw).lines)).mono ?_
      rintro e y3 ⟨rfl, b3⟩
      replace R0 := R0.call b3
      replace R1 := R1.call b3
      replace bw : Below w.heap.size w y3 := bw.trans (b3.mono bw.size)
      clear b3
      have u9 := R0.cell 9 rfl
      have v9 := R1.cell 9 rfl
      go_wp2_with fail
      clear u9 v9
      refine (wSameTexts_in p.upNames _ _ _ ((hp.later bw).upNames) ((hp'.later bw).upNames)).mono ?_
      rintro e y4 ⟨rfl, b4⟩
      replace R0 := R0.call b4
      replace R1 := R1.call b4
      replace bw : Below w.heap.size w y4 := bw.trans (b4.mono bw.size)
      clear b4
      go_wp2_with fail
      go_ret
      exact ⟨rfl, bw⟩
theorem wSameChunk_in (s : Sl PD) (v v' : Value) (w : World) (hv : IsProtos (· < w.heap.size) w v s) (hv' : IsProtos (· < w.heap.size) w v' s) :
    Calls Tryz.prog 9 #[.agg #[v], .agg #[v'], .bool false] w fun e w' => e = .returned (.bool true) ∧ Below w.heap.size w w' := by
  obtain ⟨a3, a4, a5, a8, a9, ⟨ao, cap, rfl, hn, hc⟩, ht⟩ := hv
  obtain ⟨a3', a4', a5', a8', a9', ⟨ao', cap', rfl, -, hc'⟩, ht'⟩ := hv'
  obtain ⟨n, f⟩ := s
  simp only at hn hc hc' ht ht' ⊢
  have R0 : RowL ((w.alloc (.cells #[.slice ao n cap] 25)).alloc (.cells #[.slice ao' n cap'] 25)) w.heap.size 25 [.slice ao n cap] := (RowL.new w [.slice ao n cap] 25).alloc _
  have R1 : RowL ((w.alloc (.cells #[.slice ao n cap] 25)).alloc (.cells #[.slice ao' n cap'] 25)) (w.heap.size + 1) 25 [.slice ao' n cap'] := by
    have := RowL.new (w.alloc (.cells #[.slice ao n cap] 25)) [.slice ao' n cap'] 25
    rwa [World.size_alloc] at this
  have bw : Below w.heap.size w ((w.alloc (.cells #[.slice ao n cap] 25)).alloc (.cells #[.slice ao' n cap'] 25)) := by go_grown
  go_enter Tryz.func9, Tryz.ntmps9
  go_wp2_with fail
  generalize (w.alloc (.cells #[.slice ao n cap] 25)).alloc (.cells #[.slice ao' n cap'] 25) = y0 at R0 R1 bw ⊢
  go_loopw [7] (fun i wr => ∃ (i' : Nat), i = .int .i64 i' ∧ i' ≤ n ∧ Hid (Below y0.heap.size y0 wr)) (fun i _ => n - (intOf i).toNat)
  case atStart => exact ⟨0, rfl, by omega, Below.refl _ _⟩
  case round =>
    obtain ⟨i', rfl, q3, q4⟩ := hrel
    replace R0 := R0.call q4.out
    replace R1 := R1.call q4.out
    have bw1 := bw.trans (q4.out.mono bw.size)
    have u0 := R0.cell 0 rfl
    have v0 := R1.cell 0 rfl
    by_cases hi : i' < n
    · obtain ⟨b, o, rfl, hb, hcc⟩ := hc (by omega)
      obtain ⟨b', o', rfl, hb', hcc'⟩ := hc' (by omega)
      have c0 := hcc i' hi 0 (by omega)
      have c0' := hcc' i' hi 0 (by omega)
      have c1 := hcc i' hi 1 (by omega)
      have c1' := hcc' i' hi 1 (by omega)
      have c2 := hcc i' hi 2 (by omega)
      have c2' := hcc' i' hi 2 (by omega)
      have c3 := hcc i' hi 3 (by omega)
      have c3' := hcc' i' hi 3 (by omega)
      have c4 := hcc i' hi 4 (by omega)
      have c4' := hcc' i' hi 4 (by omega)
      have c5 := hcc i' hi 5 (by omega)
      have c5' := hcc' i' hi 5 (by omega)
      have c6 := hcc i' hi 6 (by omega)
      have c6' := hcc' i' hi 6 (by omega)
      have c7 := hcc i' hi 7 (by omega)
      have c7' := hcc' i' hi 7 (by omega)
      have c8 := hcc i' hi 8 (by omega)
      have c8' := hcc' i' hi 8 (by omega)
      have c9 := hcc i' hi 9 (by omega)
      have c9' := hcc' i' hi 9 (by omega)
      rw [← bw1.cell (p := ⟨b, _, none⟩) hb] at c0 c1 c2 c3 c4 c5 c6 c7 c8 c9
      rw [← bw1.cell (p := ⟨b', _, none⟩) hb'] at c0' c1' c2' c3' c4' c5' c6' c7' c8' c9'
      simp only [Nat.add_zero, Nat.mul_one, pC] at c0 c0' c1 c1' c2 c2' c3 c3' c4 c4' c5 c5' c6 c6' c7 c7' c8 c8' c9 c9'
      have hti : Hid (∀ v, Below wr.heap.size wr v → IsProto (· < v.heap.size) v (a3 i') (a4 i') (a5 i') (a8 i') (a9 i') (f i')) := fun v hx => ((ht i' hi).later bw1).later hx
      have hti' : Hid (∀ v, Below wr.heap.size wr v → IsProto (· < v.heap.size) v (a3' i') (a4' i') (a5' i') (a8' i') (a9' i') (f i')) := fun v hx => ((ht' i' hi).later bw1).later hx
      have hk : Hid (∀ v, Below wr.heap.size wr v → (v.cell? ⟨b, o + i' * 10, none⟩ = some (.int .i64 (f i').params) ∧ v.cell? ⟨b, o + i' * 10 + 1, none⟩ = some (.bool (f i').vararg) ∧ v.cell? ⟨b, o + i' * 10 + 2, none⟩ = some (.int .i64 (f i').regs) ∧ v.cell? ⟨b, o + i' * 10 + 3, none⟩ = some (a3 i') ∧ v.cell? ⟨b, o + i' * 10 + 4, none⟩ = some (a4 i') ∧ v.cell? ⟨b, o + i' * 10 + 5, none⟩ = some (a5 i') ∧ v.cell? ⟨b, o + i' * 10 + 6, none⟩ = some (.int .i64 (f i').kids) ∧ v.cell? ⟨b, o + i' * 10 + 7, none⟩ = some (.string (f i').name) ∧ v.cell? ⟨b, o + i' * 10 + 8, none⟩ = some (a8 i') ∧ v.cell? ⟨b, o + i' * 10 + 9, none⟩ = some (a9 i') ∧ v.cell? ⟨b', o' + i' * 10, none⟩ = some (.int .i64 (f i').params) ∧ v.cell? ⟨b', o' + i' * 10 + 1, none⟩ = some (.bool (f i').vararg) ∧ v.cell? ⟨b', o' + i' * 10 + 2, none⟩ = some (.int .i64 (f i').regs) ∧ v.cell? ⟨b', o' + i' * 10 + 3, none⟩ = some (a3' i') ∧ v.cell? ⟨b', o' + i' * 10 + 4, none⟩ = some (a4' i') ∧ v.cell? ⟨b', o' + i' * 10 + 5, none⟩ = some (a5' i') ∧ v.cell? ⟨b', o' + i' * 10 + 6, none⟩ = some (.int .i64 (f i').kids) ∧ v.cell? ⟨b', o' + i' * 10 + 7, none⟩ = some (.string (f i').name) ∧ v.cell? ⟨b', o' + i' * 10 + 8, none⟩ = some (a8' i') ∧ v.cell? ⟨b', o' + i' * 10 + 9, none⟩ = some (a9' i') ∧ v.cell? ⟨w.heap.size, 0, none⟩ = some (.slice (some ⟨b, o, none⟩) n cap) ∧ v.cell? ⟨w.heap.size + 1, 0, none⟩ = some (.slice (some ⟨b', o', none⟩) n cap'))) := fun v hx => ⟨(hx.cell (p := ⟨b, _, none⟩) (Nat.lt_of_lt_of_le hb bw1.size)).trans c0, (hx.cell (p := ⟨b, _, none⟩) (Nat.lt_of_lt_of_le hb bw1.size)).trans c1, (hx.cell (p := ⟨b, _, none⟩) (Nat.lt_of_lt_of_le hb bw1.size)).trans c2, (hx.cell (p := ⟨b, _, none⟩) (Nat.lt_of_lt_of_le hb bw1.size)).trans c3, (hx.cell (p := ⟨b, _, none⟩) (Nat.lt_of_lt_of_le hb bw1.size)).trans c4, (hx.cell (p := ⟨b, _, none⟩) (Nat.lt_of_lt_of_le hb bw1.size)).trans c5, (hx.cell (p := ⟨b, _, none⟩) (Nat.lt_of_lt_of_le hb bw1.size)).trans c6, (hx.cell (p := ⟨b, _, none⟩) (Nat.lt_of_lt_of_le hb bw1.size)).trans c7, (hx.cell (p := ⟨b, _, none⟩) (Nat.lt_of_lt_of_le hb bw1.size)).trans c8, (hx.cell (p := ⟨b, _, none⟩) (Nat.lt_of_lt_of_le hb bw1.size)).trans c9, (hx.cell (p := ⟨b', _, none⟩) (Nat.lt_of_lt_of_le hb' bw1.size)).trans c0', (hx.cell (p := ⟨b', _, none⟩) (Nat.lt_of_lt_of_le hb' bw1.size)).trans c1', (hx.cell (p := ⟨b', _, none⟩) (Nat.lt_of_lt_of_le hb' bw1.size)).trans c2', (hx.cell (p := ⟨b', _, none⟩) (Nat.lt_of_lt_of_le hb' bw1.size)).trans c3', (hx.cell (p := ⟨b', _, none⟩) (Nat.lt_of_lt_of_le hb' bw1.size)).trans c4', (hx.cell (p := ⟨b', _, none⟩) (Nat.lt_of_lt_of_le hb' bw1.size)).trans c5', (hx.cell (p := ⟨b', _, none⟩) (Nat.lt_of_lt_of_le hb' bw1.size)).trans c6', (hx.cell (p := ⟨b', _, none⟩) (Nat.lt_of_lt_of_le hb' bw1.size)).trans c7', (hx.cell (p := ⟨b', _, none⟩) (Nat.lt_of_lt_of_le hb' bw1.size)).trans c8', (hx.cell (p := ⟨b', _, none⟩) (Nat.lt_of_lt_of_le hb' bw1.size)).trans c9', (R0.call hx).cell 0 rfl, (R1.call hx).cell 0 rfl⟩
      clear hcc hc hcc' hc' ht ht'
      go_wp2_with fail
      go_region_held3 (fun v => v.cell? ⟨b, o + i' * 10, none⟩ = some (.int .i64 (f i').params) ∧ v.cell? ⟨b, o + i' * 10 + 1, none⟩ = some (.bool (f i').vararg) ∧ v.cell? ⟨b, o + i' * 10 + 2, none⟩ = some (.int .i64 (f i').regs) ∧ v.cell? ⟨b, o + i' * 10 + 3, none⟩ = some (a3 i') ∧ v.cell? ⟨b, o + i' * 10 + 4, none⟩ = some (a4 i') ∧ v.cell? ⟨b, o + i' * 10 + 5, none⟩ = some (a5 i') ∧ v.cell? ⟨b, o + i' * 10 + 6, none⟩ = some (.int .i64 (f i').kids) ∧ v.cell? ⟨b, o + i' * 10 + 7, none⟩ = some (.string (f i').name) ∧ v.cell? ⟨b, o + i' * 10 + 8, none⟩ = some (a8 i') ∧ v.cell? ⟨b, o + i' * 10 + 9, none⟩ = some (a9 i') ∧ v.cell? ⟨b', o' + i' * 10, none⟩ = some (.int .i64 (f i').params) ∧ v.cell? ⟨b', o' + i' * 10 + 1, none⟩ = some (.bool (f i').vararg) ∧ v.cell? ⟨b', o' + i' * 10 + 2, none⟩ = some (.int .i64 (f i').regs) ∧ v.cell? ⟨b', o' + i' * 10 + 3, none⟩ = some (a3' i') ∧ v.cell? ⟨b', o' + i' * 10 + 4, none⟩ = some (a4' i') ∧ v.cell? ⟨b', o' + i' * 10 + 5, none⟩ = some (a5' i') ∧ v.cell? ⟨b', o' + i' * 10 + 6, none⟩ = some (.int .i64 (f i').kids) ∧ v.cell? ⟨b', o' + i' * 10 + 7, none⟩ = some (.string (f i').name) ∧ v.cell? ⟨b', o' + i' * 10 + 8, none⟩ = some (a8' i') ∧ v.cell? ⟨b', o' + i' * 10 + 9, none⟩ = some (a9' i') ∧ v.cell? ⟨w.heap.size, 0, none⟩ = some (.slice (some ⟨b, o, none⟩) n cap) ∧ v.cell? ⟨w.heap.size + 1, 0, none⟩ = some (.slice (some ⟨b', o', none⟩) n cap')) (first | exact hk.out _ (Below.refl _ _).drew | assumption) (first | (go_at_call 22; refine (wSameProto_in (f i') (a3 i') (a4 i') (a5 i') (a8 i') (a9 i') (a3' i') (a4' i') (a5' i') (a8' i') (a9' i') _ (hti.out _ (Below.refl _ _).drew) (hti'.out _ (Below.refl _ _).drew)).mono ?_; rintro e w1 ⟨rfl, b1⟩; have hs1 := hk.out w1 ((Below.refl _ _).drew.trans b1)))
      clear hs1
      have hb1 : Below y0.heap.size y0 w1 := q4.out.drew.trans (b1.mono q4.out.size)
      clear hk
      go_wp2_with fail
      go_roundw
      case rel => exact ⟨i' + 1, rfl, by omega, hb1⟩
      case measure => simp [intOf]; omega
    · go_wp2_with fail
      go_ret
      exact ⟨rfl, bw1⟩
end Go.Proofs.YtebjplogpngeaaaGreatDoor

import Derived.Deep.QuietTactic
import Derived.BigQuiet
import Derived.Deep.Cut
import Derived.Deep.RegionHeld3
import Derived.Test.YtckapapejfnojaaGreatDoorGAV
import Derived.Test.YtckapapejfnojaaGreatDoorTpAV
import Derived.Test.YtckapapejfnojaaGreatDoorGFV
import Derived.Test.YtckapapejfnojaaGreatDoorVfGV
import Derived.Test.YtckapapejfnojaaGreatDoorTpBV
namespace Go.Proofs.YtckapapejfnojaaGreatDoor
open Go.RowKit Go.Shelf
set_option linter.unusedVariables false
set_option linter.unusedSimpArgs false
set_option maxRecDepth 100000
set_option maxHeartbeats 1000000
theorem l4Takes_in (z : Int) (w : World) (hz1 : 0 ≤ z) (hz2 : z ≤ 4294967295) : Calls Tryz.prog 39 #[insV (opW z) (aW z) (bW z) (cW z) (sW z)] w fun e w' => Says e (takesW z) ∧ Below w.heap.size w w' := by
  obtain ⟨op, hop⟩ : ∃ op, opW z = op := ⟨_, rfl⟩
  have hT : takesW z ↔ (op = 22 ∨ op = 30 ∨ op = 31 ∨ op = 23) ∧ bW z = 511 := by unfold takesW; rw [hop]
  rw [hop]
  by_cases k : op = 22 ∨ op = 30 ∨ op = 31 ∨ op = 23
  · by_cases h : bW z = 511
    · have hy : Hid (takesW z) := hT.2 ⟨k, h⟩
      have q : (bW z == 511) = true := by simp [h]
      clear hT hop
      replace h : Hid _ := h
      rcases k with rfl | rfl | rfl | rfl
      all_goals
        go_enter Tryz.func39, Tryz.ntmps39
        go_wp2
        go_ret
        exact ⟨says_yes hy.out, by go_grown⟩
    · have hy : Hid (¬ takesW z) := fun h' => h (hT.1 h').2
      have q : (bW z == 511) = false := by simp [h]
      clear hT hop
      rcases k with rfl | rfl | rfl | rfl
      all_goals
        go_enter Tryz.func39, Tryz.ntmps39
        go_wp2
        go_ret
        exact ⟨says_no hy.out, by go_grown⟩
  · have hy : Hid (¬ takesW z) := fun h' => k (hT.1 h').1
    have k1 : (op == 22) = false := by simp; omega
    have k2 : (op == 30) = false := by simp; omega
    have k3 : (op == 31) = false := by simp; omega
    have k4 : (op == 23) = false := by simp; omega
    clear hT hop k
    go_enter Tryz.func39, Tryz.ntmps39
    go_wp2
    go_ret
    exact ⟨says_no hy.out, by go_grown⟩
theorem l4From_z (z : Int) (w : World) (hz1 : 0 ≤ z) (hz2 : z ≤ 4294967295) : Calls Tryz.prog 40 #[insV (opW z) (aW z) (bW z) (cW z) (sW z)] w fun e w' => e = .returned (.int .i64 (fromW z)) ∧ Below w.heap.size w w' := by
  unfold fromW
  by_cases k : opW z = 22 ∨ opW z = 30
  · rw [if_pos k]
    exact l4From_1 _ _ _ _ _ w k (by unfold aW; omega) (by unfold aW; omega)
  · rw [if_neg k]
    exact l4From_0 _ _ _ _ _ w (by omega) (by omega)
/-- what Verify answers. -/
def VerD (s : Sl PD) (c pr pc : Int) : Prop := (¬ Wf s ∧ c = 12 ∧ pr = 0 ∧ pc = 0) ∨ (Wf s ∧ Rep (EE (kidsOf s) s.n) s c pr pc)
theorem VerD.det {s : Sl PD} {c pr pc c' pr' pc' : Int} (h : VerD s c pr pc) (h' : VerD s c' pr' pc') : c = c' ∧ pr = pr' ∧ pc = pc' := by
  rcases h with ⟨a, rfl, rfl, rfl⟩ | ⟨a, h⟩ <;> rcases h' with ⟨a', rfl, rfl, rfl⟩ | ⟨a', h'⟩
  · exact ⟨rfl, rfl, rfl⟩
  · exact absurd a' a
  · exact absurd a a'
  · exact h.det h'
theorem topOk_iff {p : PD} {pc : Nat} {v : Int} (h : TopAt p.code pc v) : TopOk p pc ↔ (v = -2 ∨ ((takesW (p.code.f pc) → fromW (p.code.f pc) ≤ v) ∧ (¬ takesW (p.code.f pc) → v = -1))) :=
  ⟨fun h' => h' v h, fun h' v' hv' => by rw [← h.det hv']; exact h'⟩
set_option maxHeartbeats 8000000 in
theorem specVerify_in (s : Sl PD) (v : Value) (w : World) (hv : IsProtos (· < w.heap.size) w v s) (hcb : CodeB s) :
    Calls Tryz.prog 18 #[.agg #[v]] w fun e w' => (∃ c pr pc, e = .returned (.agg #[.int .i64 c, .int .i64 pr, .int .i64 pc]) ∧ VerD s c pr pc) ∧ Below w.heap.size w w' := by
  have hv' : Hid (IsProtos (· < w.heap.size) w v s) := hv
  obtain ⟨-, -, -, -, -, ⟨ao, cap, rfl, hn, -⟩, -⟩ := hv
  replace hcb : Hid (CodeB s) := hcb
  go_enter Tryz.func18, Tryz.ntmps18
  go_wp2_with fail
  have R0 := (RowL.new w [.slice ao s.n cap] 24).alloc (.cells #[.int .i64 0, .int .i64 0, .int .i64 0] 41)
  have Q0 := RowL.new (w.alloc (.cells #[.slice ao s.n cap] 24)) [.int .i64 0, .int .i64 0, .int .i64 0] 41
  rw [World.size_alloc] at Q0
  have bw : Below w.heap.size w ((w.alloc (.cells #[.slice ao s.n cap] 24)).alloc (.cells #[.int .i64 0, .int .i64 0, .int .i64 0] 41)) := ((Below.refl _ _).alloc (Nat.le_refl _) _).alloc (by rw [World.size_alloc]; omega) _
  generalize (w.alloc (.cells #[.slice ao s.n cap] 24)).alloc (.cells #[.int .i64 0, .int .i64 0, .int .i64 0] 41) = w0 at R0 Q0 bw ⊢
  refine (specWF_in s _ _ (hv'.out.later bw)).mono ?_
  rintro e y ⟨⟨r, rfl, hr⟩, b1⟩
  have hR := R0.call b1
  have hQ := Q0.call b1
  have hB := bw.trans (b1.mono bw.size)
  clear b1 R0 Q0 bw
  obtain rfl | rfl : r = false ∨ r = true := by cases r <;> simp
  · have hfin : Hid (VerD s 12 0 0) := .inl ⟨fun h => by simpa using hr.2 h, rfl, rfl, rfl⟩
    have e0 := hQ.cell 0 rfl
    have e1 := hQ.cell 1 rfl
    have e2 := hQ.cell 2 rfl
    have ef := hQ.frozen
    have Lf := ((hQ.set 0 (.int .i64 12)).set 1 (.int .i64 0)).set 2 (.int .i64 0)
    have l0 := Lf.cell 0 rfl
    have l1 := Lf.cell 1 rfl
    have l2 := Lf.cell 2 rfl
    have bf := (((hB.setCell (p := ⟨w.heap.size + 1, 0, none⟩) (Nat.le_succ _) (.int .i64 12)).setCell (p := ⟨w.heap.size + 1, 1, none⟩) (Nat.le_succ _) (.int .i64 0)).setCell (p := ⟨w.heap.size + 1, 2, none⟩) (Nat.le_succ _) (.int .i64 0))
    replace Lf : Hid _ := Lf
    replace hQ : Hid _ := hQ
    clear hr hv'
    go_wp2_with fail
    refine bodyPost_ret (v := .agg #[.int .i64 12, .int .i64 0, .int .i64 0]) ?_ rfl ⟨⟨_, _, _, rfl, hfin.out⟩, bf⟩
    simp [results, Tryz.results18, go_sem, l0, l1, l2]
  have hwf : Hid (Wf s) := hr.1 rfl
  clear hr
  have hn2 := hwf.out.high
  have hn1 := hwf.out.low
  obtain ⟨b, o, rfl, hbb, hpr⟩ := hv'.out.proto (by omega)
  replace hpr : Hid (∀ k, k < s.n → ∃ ac cc o4 c4 o5 c5 o8 c8 o9 c9, PrAt w b (o + k * 10) (s.f k) ac cc o4 c4 o5 c5 o8 c8 o9 c9) := hpr
  have s0 : Hid (RowL y w.heap.size 24 [.slice (some ⟨b, o, none⟩) s.n cap] ∧ RowL y (w.heap.size + 1) 41 [.int .i64 0, .int .i64 0, .int .i64 0] ∧ Below w.heap.size w y ∧ ∀ j, j < 0 → Rep1 (EE (kidsOf s) s.n) s j 0 0 0) := ⟨hR, hQ, hB, fun j h => absurd h (by omega)⟩
  clear hR hQ hB
  go_wp2_with fail
  go_loopw [3, 4, 5, 6] (fun iv _ _ _ wr => ∃ k : Nat, iv = .int .i64 (k : Int) ∧ k ≤ s.n ∧ Hid (RowL wr w.heap.size 24 [.slice (some ⟨b, o, none⟩) s.n cap] ∧ RowL wr (w.heap.size + 1) 41 [.int .i64 0, .int .i64 0, .int .i64 0] ∧ Below w.heap.size w wr ∧ ∀ j, j < k → Rep1 (EE (kidsOf s) s.n) s j 0 0 0)) (fun iv _ _ _ _ => s.n - (intOf iv).toNat)
  case atStart => exact ⟨0, rfl, by omega, s0.out⟩
  case round =>
    obtain ⟨k, rfl, hk, hT⟩ := hrel
    obtain ⟨wA, hwA⟩ : ∃ x, x = wr := ⟨_, rfl⟩
    subst hwA
    clear s0
    obtain ⟨hR, hQ, hB, hprev⟩ := hT.out
    have hlR := hR.lt
    have r0 := hR.cell 0 rfl
    replace hprev : Hid (∀ j, j < k → Rep1 (EE (kidsOf s) s.n) s j 0 0 0) := hprev
    clear hT
    by_cases hlt : k < s.n
    · have hkI : (k : Int) < (s.n : Int) := by omega
      obtain ⟨ac, cc, o4, c4, o5, c5, o8, c8, o9, c9, hp⟩ := hpr.out k hlt
      have hpA := hp.later hB
      have hbA := hpA.lt
      have q0 := hpA.f0
      have q1 := hpA.f1
      have q2 := hpA.f2
      have q3 := hpA.f3
      have q4 := hpA.f4
      have q5 := hpA.f5
      have q6 := hpA.f6
      have q7 := hpA.f7
      have q8 := hpA.f8
      have q9 := hpA.f9
      have hsm := SmallP.of (hwf.out.each k hlt)
      have hm1 := hsm.1
      have hm2 := hsm.2.1
      have hm3 := hsm.2.2.1
      have hm4 := hsm.2.2.2
      clear hsm
      replace hpA : Hid _ := hpA
      go_upto_region 7 with fail
      clear r0 q0 q1 q2 q3 q4 q5 q6 q7 q8 q9
      have PB := RowL.new wA [.int .i64 (s.f k).params, .bool (s.f k).vararg, .int .i64 (s.f k).regs, .slice ac (s.f k).code.n cc, .slice o4 (s.f k).consts.n c4, .slice o5 (s.f k).ups.n c5, .int .i64 (s.f k).kids, .string (s.f k).name, .slice o8 (s.f k).lines.n c8, .slice o9 (s.f k).upNames.n c9] 52
      have bx : Below wA.heap.size wA (wA.alloc (.cells #[.int .i64 (s.f k).params, .bool (s.f k).vararg, .int .i64 (s.f k).regs, .slice ac (s.f k).code.n cc, .slice o4 (s.f k).consts.n c4, .slice o5 (s.f k).ups.n c5, .int .i64 (s.f k).kids, .string (s.f k).name, .slice o8 (s.f k).lines.n c8, .slice o9 (s.f k).upNames.n c9] 52)) := (Below.refl _ _).alloc (Nat.le_refl _) _
      replace hR := hR.call bx
      replace hQ := hQ.call bx
      replace hB := hB.trans (bx.mono hB.size)
      clear bx
      generalize wA.alloc (.cells #[.int .i64 (s.f k).params, .bool (s.f k).vararg, .int .i64 (s.f k).regs, .slice ac (s.f k).code.n cc, .slice o4 (s.f k).consts.n c4, .slice o5 (s.f k).ups.n c5, .int .i64 (s.f k).kids, .string (s.f k).name, .slice o8 (s.f k).lines.n c8, .slice o9 (s.f k).upNames.n c9] 52) = wB at PB hR hQ hB ⊢
      generalize hBP : wA.heap.size = BP at PB ⊢
      have s1 : Hid (RowL wB w.heap.size 24 [.slice (some ⟨b, o, none⟩) s.n cap] ∧ RowL wB (w.heap.size + 1) 41 [.int .i64 0, .int .i64 0, .int .i64 0] ∧ Below w.heap.size w wB ∧ RowL wB BP 52 [.int .i64 (s.f k).params, .bool (s.f k).vararg, .int .i64 (s.f k).regs, .slice ac (s.f k).code.n cc, .slice o4 (s.f k).consts.n c4, .slice o5 (s.f k).ups.n c5, .int .i64 (s.f k).kids, .string (s.f k).name, .slice o8 (s.f k).lines.n c8, .slice o9 (s.f k).upNames.n c9] ∧ ∀ j, j < 0 → Flt (s.f k) j 0) := ⟨hR, hQ, hB, PB, fun j h => absurd h (by omega)⟩
      clear hR hQ hB PB
      go_wp2_with fail
      go_loopw [5, 6] (fun pv _ wr => ∃ q : Nat, pv = .int .i64 (q : Int) ∧ q ≤ (s.f k).code.n ∧ Hid (RowL wr w.heap.size 24 [.slice (some ⟨b, o, none⟩) s.n cap] ∧ RowL wr (w.heap.size + 1) 41 [.int .i64 0, .int .i64 0, .int .i64 0] ∧ Below w.heap.size w wr ∧ RowL wr BP 52 [.int .i64 (s.f k).params, .bool (s.f k).vararg, .int .i64 (s.f k).regs, .slice ac (s.f k).code.n cc, .slice o4 (s.f k).consts.n c4, .slice o5 (s.f k).ups.n c5, .int .i64 (s.f k).kids, .string (s.f k).name, .slice o8 (s.f k).lines.n c8, .slice o9 (s.f k).upNames.n c9] ∧ ∀ j, j < q → Flt (s.f k) j 0)) (fun pv _ _ => (s.f k).code.n - (intOf pv).toNat)
      case atStart => exact ⟨0, rfl, by omega, s1.out⟩
      case round =>
        obtain ⟨q, rfl, hq, hT⟩ := hrel
        obtain ⟨wC, hwC⟩ : ∃ x, x = wr := ⟨_, rfl⟩
        subst hwC
        clear s1
        obtain ⟨hR, hQ, hB, PB, hz⟩ := hT.out
        have hlR2 := hR.lt
        have hlP := PB.lt
        obtain ⟨p0, p1, p2, p3, p4, p5, p6, p7, p8, p9⟩ := cells_p (w := w) (s.f k) ac cc o4 c4 o5 c5 o8 c8 o9 c9 PB
        replace hz : Hid (∀ j, j < q → Flt (s.f k) j 0) := hz
        clear hT
        by_cases hqn : q < (s.f k).code.n
        · have hqI : (q : Int) < ((s.f k).code.n : Int) := by omega
          go_wp2_with fail
          clear p0 p1 p2 p3 p4 p5 p6 p7 p8 p9
          refine (l4Fault_in (s.f k) ac cc o4 c4 o5 c5 o8 c8 o9 c9 q _ (hp.later hB).code (hcb.out k hlt) hm4 hm3 hqn hm2 hm1).mono ?_
          rintro e y1 ⟨⟨c0, rfl, hc0⟩, b1⟩
          replace hR := hR.call b1
          replace hQ := hQ.call b1
          replace PB := PB.call b1
          replace hB := hB.trans (b1.mono hB.size)
          clear b1
          by_cases hc : c0 = 0
          · subst hc
            have T1 : Hid (RowL y1 w.heap.size 24 [.slice (some ⟨b, o, none⟩) s.n cap] ∧ RowL y1 (w.heap.size + 1) 41 [.int .i64 0, .int .i64 0, .int .i64 0] ∧ Below w.heap.size w y1 ∧ RowL y1 BP 52 [.int .i64 (s.f k).params, .bool (s.f k).vararg, .int .i64 (s.f k).regs, .slice ac (s.f k).code.n cc, .slice o4 (s.f k).consts.n c4, .slice o5 (s.f k).ups.n c5, .int .i64 (s.f k).kids, .string (s.f k).name, .slice o8 (s.f k).lines.n c8, .slice o9 (s.f k).upNames.n c9] ∧ ∀ j, j < q + 1 → Flt (s.f k) j 0) := ⟨hR, hQ, hB, PB, fun j hj => by by_cases e : j = q; (subst e; exact hc0); exact hz.out j (by omega)⟩
            clear hc0 hz hR hQ hB PB
            go_wp2_with fail
            go_roundw
            case rel => exact ⟨q + 1, by go_num, by omega, T1.out⟩
            case measure => simp [intOf]; omega
          · have hfin : Hid (VerD s c0 (k : Int) (q : Int)) := .inr ⟨hwf.out, .inl ⟨hc, .inl ⟨k, hlt, hc, ⟨q, c0, .inl ⟨hqn, hc, hc0, hz.out⟩, .inl ⟨hc, rfl, rfl, rfl⟩⟩, hprev.out⟩⟩⟩
            have qc : (c0 != 0) = true := by simp [hc]
            have e0 := hQ.cell 0 rfl
            have e1 := hQ.cell 1 rfl
            have e2 := hQ.cell 2 rfl
            have ef := hQ.frozen
            have Lf := ((hQ.set 0 (.int .i64 c0)).set 1 (.int .i64 (k : Int))).set 2 (.int .i64 (q : Int))
            have l0 := Lf.cell 0 rfl
            have l1 := Lf.cell 1 rfl
            have l2 := Lf.cell 2 rfl
            have bf := (((hB.setCell (p := ⟨w.heap.size + 1, 0, none⟩) (Nat.le_succ _) (.int .i64 c0)).setCell (p := ⟨w.heap.size + 1, 1, none⟩) (Nat.le_succ _) (.int .i64 (k : Int))).setCell (p := ⟨w.heap.size + 1, 2, none⟩) (Nat.le_succ _) (.int .i64 (q : Int)))
            replace Lf : Hid _ := Lf
            replace hQ : Hid _ := hQ
            clear hc0 hz PB hR
            go_wp2_with fail
            refine bodyPost_ret (v := .agg #[.int .i64 c0, .int .i64 (k : Int), .int .i64 (q : Int)]) ?_ rfl ⟨⟨_, _, _, rfl, hfin.out⟩, bf⟩
            simp [results, Tryz.results18, go_sem, l0, l1, l2]
        · obtain rfl : q = (s.f k).code.n := by omega
          have hqI : ¬ (((s.f k).code.n : Int) < ((s.f k).code.n : Int)) := by omega
          have r0 := hR.cell 0 rfl
          go_wp2_with fail
          clear r0
          refine (l4Desc_in s _ cap k _ (hv'.out.later hB) hwf.out hlt).mono ?_
          rintro e y1 ⟨⟨r, rfl, hr⟩, b1⟩
          clear p0 p1 p2 p3 p4 p5 p6 p7 p8 p9
          replace hR := hR.call b1
          replace hQ := hQ.call b1
          replace PB := PB.call b1
          replace hB := hB.trans (b1.mono hB.size)
          clear b1
          obtain rfl | rfl : r = false ∨ r = true := by cases r <;> simp
          · have hfin : Hid (VerD s 11 (k : Int) ((s.f k).code.n : Int)) := .inr ⟨hwf.out, .inl ⟨by omega, .inl ⟨k, hlt, by omega, ⟨_, 0, .inr ⟨rfl, rfl, hz.out⟩, .inr (.inl ⟨rfl, fun h => by simpa using hr.2 h, rfl, rfl, rfl⟩)⟩, hprev.out⟩⟩⟩
            have p3 := PB.cell 3 rfl
            replace PB : Hid _ := PB
            have e0 := hQ.cell 0 rfl
            have e1 := hQ.cell 1 rfl
            have e2 := hQ.cell 2 rfl
            have ef := hQ.frozen
            have Lf := ((hQ.set 0 (.int .i64 11)).set 1 (.int .i64 (k : Int))).set 2 (.int .i64 ((s.f k).code.n : Int))
            have l0 := Lf.cell 0 rfl
            have l1 := Lf.cell 1 rfl
            have l2 := Lf.cell 2 rfl
            have bf := (((hB.setCell (p := ⟨w.heap.size + 1, 0, none⟩) (Nat.le_succ _) (.int .i64 11)).setCell (p := ⟨w.heap.size + 1, 1, none⟩) (Nat.le_succ _) (.int .i64 (k : Int))).setCell (p := ⟨w.heap.size + 1, 2, none⟩) (Nat.le_succ _) (.int .i64 ((s.f k).code.n : Int)))
            replace Lf : Hid _ := Lf
            replace hQ : Hid _ := hQ
            clear hr hz hR
            go_wp2_with fail
            refine bodyPost_ret (v := .agg #[.int .i64 11, .int .i64 (k : Int), .int .i64 ((s.f k).code.n : Int)]) ?_ rfl ⟨⟨_, _, _, rfl, hfin.out⟩, bf⟩
            simp [results, Tryz.results18, go_sem, l0, l1, l2]
          · have T1 : Hid (RowL y1 w.heap.size 24 [.slice (some ⟨b, o, none⟩) s.n cap] ∧ RowL y1 (w.heap.size + 1) 41 [.int .i64 0, .int .i64 0, .int .i64 0] ∧ Below w.heap.size w y1 ∧ ∀ j, j < k + 1 → Rep1 (EE (kidsOf s) s.n) s j 0 0 0) := ⟨hR, hQ, hB, fun j hj => by by_cases e : j = k; (subst e; exact ⟨_, 0, .inr ⟨rfl, rfl, hz.out⟩, .inr (.inr ⟨rfl, hr.1 rfl, rfl, rfl, rfl⟩)⟩); exact hprev.out j (by omega)⟩
            clear hr hz hR hQ hB PB
            go_wp2_with fail
            go_roundw
            case rel => exact ⟨k + 1, by go_num, by omega, T1.out⟩
            case measure => simp [intOf]; omega
    · obtain rfl : k = s.n := by omega
      have hkI : ¬ ((s.n : Int) < (s.n : Int)) := by omega
      have hone : Hid (RSc s.n (Rep1 (EE (kidsOf s) s.n) s) 0 0 0) := .inr ⟨rfl, rfl, rfl, hprev.out⟩
      have s2 : Hid (RowL wA w.heap.size 24 [.slice (some ⟨b, o, none⟩) s.n cap] ∧ RowL wA (w.heap.size + 1) 41 [.int .i64 0, .int .i64 0, .int .i64 0] ∧ Below w.heap.size w wA ∧ ∀ j, j < 0 → Rep2 s j 0 0 0) := ⟨hR, hQ, hB, fun j h => absurd h (by omega)⟩
      clear hR hQ hB hprev
      go_wp2_with fail
      clear r0
      go_loopw [7, 8, 9, 10, 11] (fun iv _ _ _ _ wr => ∃ k : Nat, iv = .int .i64 (k : Int) ∧ k ≤ s.n ∧ Hid (RowL wr w.heap.size 24 [.slice (some ⟨b, o, none⟩) s.n cap] ∧ RowL wr (w.heap.size + 1) 41 [.int .i64 0, .int .i64 0, .int .i64 0] ∧ Below w.heap.size w wr ∧ ∀ j, j < k → Rep2 s j 0 0 0)) (fun iv _ _ _ _ _ => s.n - (intOf iv).toNat)
      case atStart => exact ⟨0, rfl, by omega, s2.out⟩
      case round =>
        obtain ⟨k, rfl, hk, hT⟩ := hrel
        obtain ⟨wD, hwD⟩ : ∃ x, x = wr := ⟨_, rfl⟩
        subst hwD
        clear s2
        obtain ⟨hR, hQ, hB, hprev⟩ := hT.out
        have hlR := hR.lt
        have r0 := hR.cell 0 rfl
        replace hprev : Hid (∀ j, j < k → Rep2 s j 0 0 0) := hprev
        clear hT
        by_cases hlt : k < s.n
        · have hkI : (k : Int) < (s.n : Int) := by omega
          obtain ⟨ac, cc, o4, c4, o5, c5, o8, c8, o9, c9, hp⟩ := hpr.out k hlt
          have hpA := hp.later hB
          have hbA := hpA.lt
          have q0 := hpA.f0
          have q1 := hpA.f1
          have q2 := hpA.f2
          have q3 := hpA.f3
          have q4 := hpA.f4
          have q5 := hpA.f5
          have q6 := hpA.f6
          have q7 := hpA.f7
          have q8 := hpA.f8
          have q9 := hpA.f9
          have hsm := SmallP.of (hwf.out.each k hlt)
          have hm3 := hsm.2.2.1
          have hm4 := hsm.2.2.2
          clear hsm
          have hcd : Hid (IsInts .u32 (· < wD.heap.size) wD (.slice ac (s.f k).code.n cc) (s.f k).code) := hpA.code
          replace hpA : Hid _ := hpA
          go_wp2_with fail
          refine (l4Tops_in (s.f k).code (hcb.out k hlt) hm4 hm3 (s.f k).params (s.f k).regs (s.f k).kids (s.f k).vararg (s.f k).name o4 o5 o8 o9 (s.f k).consts.n c4 (s.f k).ups.n c5 (s.f k).lines.n c8 (s.f k).upNames.n c9 ac cc _ hcd.out).mono ?_
          rintro e y1 ⟨u, f, rfl, b1, hI, hf⟩
          clear r0 q0 q1 q2 q3 q4 q5 q6 q7 q8 q9 hcd
          obtain ⟨au, cu, rfl⟩ := IsArr.sl hI
          replace hR := hR.call b1
          replace hQ := hQ.call b1
          replace hB := hB.trans (b1.mono hB.size)
          clear b1
          obtain ⟨N2, hN2⟩ : ∃ N, y1.heap.size = N := ⟨_, rfl⟩
          have s3 : Hid (RowL y1 w.heap.size 24 [.slice (some ⟨b, o, none⟩) s.n cap] ∧ RowL y1 (w.heap.size + 1) 41 [.int .i64 0, .int .i64 0, .int .i64 0] ∧ Below w.heap.size w y1 ∧ IsInts .i64 (· < N2) y1 (.slice au (s.f k).code.n cu) ⟨(s.f k).code.n, f⟩ ∧ N2 ≤ y1.heap.size ∧ ∀ j, j < 0 → TopF (s.f k) j 0) := ⟨hR, hQ, hB, IsArr.mono hI fun b hb => by omega, by omega, fun j h => absurd h (by omega)⟩
          replace hf : Hid (∀ t, t < (s.f k).code.n → TopAt (s.f k).code t (f t)) := hf
          clear hR hQ hB hI hN2
          go_wp2_with fail
          go_loopw [9, 10, 11] (fun pv _ _ wr => ∃ q : Nat, pv = .int .i64 (q : Int) ∧ q ≤ (s.f k).code.n ∧ Hid (RowL wr w.heap.size 24 [.slice (some ⟨b, o, none⟩) s.n cap] ∧ RowL wr (w.heap.size + 1) 41 [.int .i64 0, .int .i64 0, .int .i64 0] ∧ Below w.heap.size w wr ∧ IsInts .i64 (· < N2) wr (.slice au (s.f k).code.n cu) ⟨(s.f k).code.n, f⟩ ∧ N2 ≤ wr.heap.size ∧ ∀ j, j < q → TopF (s.f k) j 0)) (fun pv _ _ _ => (s.f k).code.n - (intOf pv).toNat)
          case atStart => exact ⟨0, rfl, by omega, s3.out⟩
          case round =>
            obtain ⟨q, rfl, hq, hT⟩ := hrel
            obtain ⟨wE, hwE⟩ : ∃ x, x = wr := ⟨_, rfl⟩
            subst hwE
            clear s3
            obtain ⟨hR, hQ, hB, hI, hNE, hz⟩ := hT.out
            have hlR2 := hR.lt
            have r0 := hR.cell 0 rfl
            replace hz : Hid (∀ j, j < q → TopF (s.f k) j 0) := hz
            clear hT
            by_cases hqn : q < (s.f k).code.n
            · have hqI : (q : Int) < ((s.f k).code.n : Int) := by omega
              have hpE := hp.later hB
              have hbE := hpE.lt
              have q3 := hpE.f3
              obtain ⟨bc, oc, rfl, hbc, hcw⟩ := words_of hpE.code hm4
              obtain ⟨z, hz9⟩ : ∃ z, (s.f k).code.f q = z := ⟨_, rfl⟩
              have hcz := hcw q hqn
              rw [hz9] at hcz
              have hz12 := hcb.out k hlt q hqn
              rw [hz9] at hz12
              have hz1 := hz12.1
              have hz2 := hz12.2
              clear hz12 hcw
              obtain ⟨x, hx9⟩ : ∃ x, f q = x := ⟨_, rfl⟩
              obtain ⟨bt, ot, rfl, hbt, hct⟩ : ∃ bt ot, au = some ⟨bt, ot, none⟩ ∧ bt < N2 ∧ wE.cell? ⟨bt, ot + q, none⟩ = some (.int .i64 x) := by
                obtain ⟨_, _, e, _, h⟩ := hI
                obtain ⟨bt, ot, e', hb', hc'⟩ := h (by show 0 < (s.f k).code.n; omega)
                simp only [Value.slice.injEq] at e
                obtain ⟨rfl, -, -⟩ := e
                have h1 := hc' q hqn 0 (by omega)
                exact ⟨bt, ot, e', hb', by simpa [iC, hx9] using h1⟩
              have hok := topOk_iff (p := s.f k) (pc := q) (v := x) (by rw [← hx9]; exact hf.out q hqn)
              rw [hz9] at hok
              replace hok : Hid (TopOk (s.f k) q ↔ (x = -2 ∨ ((takesW z → fromW z ≤ x) ∧ (¬ takesW z → x = -1)))) := hok
              replace hz9 : Hid _ := hz9
              replace hx9 : Hid _ := hx9
              replace hpE : Hid _ := hpE
              replace hI : Hid (IsInts .i64 (· < N2) wE (.slice (some ⟨bt, ot, none⟩) (s.f k).code.n cu) ⟨(s.f k).code.n, f⟩) := hI
              go_wp2_with fail
              refine (unpackS z _ hz1 hz2).mono ?_
              rintro e y1 ⟨rfl, b1⟩
              clear r0 q3 hcz
              have hct1 : y1.cell? ⟨bt, ot + q, none⟩ = some (.int .i64 x) := (b1.cell (p := ⟨bt, ot + q, none⟩) (by show bt < wE.heap.size; omega)).trans hct
              replace hR := hR.call b1
              replace hQ := hQ.call b1
              replace hI : Hid (IsInts .i64 (· < N2) y1 (.slice (some ⟨bt, ot, none⟩) (s.f k).code.n cu) ⟨(s.f k).code.n, f⟩) := IsArr.keep hI.out fun b hb => b1.block b (by omega)
              replace hB := hB.trans (b1.mono hB.size)
              have hN1 : N2 ≤ y1.heap.size := Nat.le_trans hNE b1.size
              clear b1 hct
              have I0 := RowL.new y1 [.int .i64 (opW z), .int .i64 (aW z), .int .i64 (bW z), .int .i64 (cW z), .int .i64 (sW z)] 88
              have bx : Below y1.heap.size y1 (y1.alloc (.cells #[.int .i64 (opW z), .int .i64 (aW z), .int .i64 (bW z), .int .i64 (cW z), .int .i64 (sW z)] 88)) := (Below.refl _ _).alloc (Nat.le_refl _) _
              have hct2 : (y1.alloc (.cells #[.int .i64 (opW z), .int .i64 (aW z), .int .i64 (bW z), .int .i64 (cW z), .int .i64 (sW z)] 88)).cell? ⟨bt, ot + q, none⟩ = some (.int .i64 x) := (bx.cell (p := ⟨bt, ot + q, none⟩) (by show bt < y1.heap.size; omega)).trans hct1
              replace hR := hR.call bx
              replace hQ := hQ.call bx
              replace hI : Hid (IsInts .i64 (· < N2) (y1.alloc (.cells #[.int .i64 (opW z), .int .i64 (aW z), .int .i64 (bW z), .int .i64 (cW z), .int .i64 (sW z)] 88)) (.slice (some ⟨bt, ot, none⟩) (s.f k).code.n cu) ⟨(s.f k).code.n, f⟩) := IsArr.keep hI.out fun b hb => bx.block b (by omega)
              replace hB := hB.trans (bx.mono hB.size)
              replace hN1 : N2 ≤ (y1.alloc (.cells #[.int .i64 (opW z), .int .i64 (aW z), .int .i64 (bW z), .int .i64 (cW z), .int .i64 (sW z)] 88)).heap.size := Nat.le_trans hN1 bx.size
              clear bx hct1
              go_upto_region 23 with fail
              generalize y1.alloc (.cells #[.int .i64 (opW z), .int .i64 (aW z), .int .i64 (bW z), .int .i64 (cW z), .int .i64 (sW z)] 88) = y2 at I0 hct2 hR hQ hI hB hN1 ⊢
              generalize hBI : y1.heap.size = BI at I0 ⊢
              have i0 := I0.cell 0 rfl
              have i1 := I0.cell 1 rfl
              have i2 := I0.cell 2 rfl
              have i3 := I0.cell 3 rfl
              have i4 := I0.cell 4 rfl
              have il := I0.lt
              go_wp2_with fail
              clear i0 i1 i2 i3 i4
              refine (l4Takes_in z _ hz1 hz2).mono ?_
              rintro e y3 ⟨⟨r, rfl, hr⟩, b3⟩
              have hct3 : y3.cell? ⟨bt, ot + q, none⟩ = some (.int .i64 x) := (b3.cell (p := ⟨bt, ot + q, none⟩) (by show bt < y2.heap.size; omega)).trans hct2
              replace I0 := I0.call b3
              replace hR := hR.call b3
              replace hQ := hQ.call b3
              replace hI : Hid (IsInts .i64 (· < N2) y3 (.slice (some ⟨bt, ot, none⟩) (s.f k).code.n cu) ⟨(s.f k).code.n, f⟩) := IsArr.keep hI.out fun b hb => b3.block b (by omega)
              replace hB := hB.trans (b3.mono hB.size)
              replace hN1 : N2 ≤ y3.heap.size := Nat.le_trans hN1 b3.size
              have il3 := I0.lt
              clear b3 hct2
              obtain rfl | rfl : r = false ∨ r = true := by cases r <;> simp
              · have hnt : ¬ takesW z := fun h => by simpa using hr.2 h
                by_cases x1 : x = -1
                · have d1 : (x != -1) = false := by simp [x1]
                  have d2 : (x != -2) = true := by simp; omega
                  replace x1 : Hid (x = -1) := x1
                  have T1 : Hid (RowL y3 w.heap.size 24 [.slice (some ⟨b, o, none⟩) s.n cap] ∧ RowL y3 (w.heap.size + 1) 41 [.int .i64 0, .int .i64 0, .int .i64 0] ∧ Below w.heap.size w y3 ∧ IsInts .i64 (· < N2) y3 (.slice (some ⟨bt, ot, none⟩) (s.f k).code.n cu) ⟨(s.f k).code.n, f⟩ ∧ N2 ≤ y3.heap.size ∧ ∀ j, j < q + 1 → TopF (s.f k) j 0) := ⟨hR, hQ, hB, hI.out, hN1, fun j hj => by by_cases e : j = q; (subst e; exact .inl ⟨hok.out.2 (.inr ⟨fun h => absurd h hnt, fun _ => x1.out⟩), rfl⟩); exact hz.out j (by omega)⟩
                  clear hR hQ hB hI hz hok hr
                  go_wp2_with fail
                  go_roundw
                  case rel => exact ⟨q + 1, by go_num, by omega, T1.out⟩
                  case measure => simp [intOf]; omega
                · have d1 : (x != -1) = true := by simp [x1]
                  by_cases x2 : x = -2
                  · have d2 : (x != -2) = false := by simp [x2]
                    replace x2 : Hid (x = -2) := x2
                    have T1 : Hid (RowL y3 w.heap.size 24 [.slice (some ⟨b, o, none⟩) s.n cap] ∧ RowL y3 (w.heap.size + 1) 41 [.int .i64 0, .int .i64 0, .int .i64 0] ∧ Below w.heap.size w y3 ∧ IsInts .i64 (· < N2) y3 (.slice (some ⟨bt, ot, none⟩) (s.f k).code.n cu) ⟨(s.f k).code.n, f⟩ ∧ N2 ≤ y3.heap.size ∧ ∀ j, j < q + 1 → TopF (s.f k) j 0) := ⟨hR, hQ, hB, hI.out, hN1, fun j hj => by by_cases e : j = q; (subst e; exact .inl ⟨hok.out.2 (.inl x2.out), rfl⟩); exact hz.out j (by omega)⟩
                    clear hR hQ hB hI hz hok hr
                    go_wp2_with fail
                    go_roundw
                    case rel => exact ⟨q + 1, by go_num, by omega, T1.out⟩
                    case measure => simp [intOf]; omega
                  · have d2 : (x != -2) = true := by simp [x2]
                    have hfin : Hid (VerD s 10 (k : Int) (q : Int)) := .inr ⟨hwf.out, .inr ⟨hone.out, .inl ⟨k, hlt, by omega, ⟨q, 10, .inl ⟨hqn, by omega, .inr ⟨fun h => (fun h => h.elim x2 fun h => x1 (h.2 hnt)) (hok.out.1 h), rfl⟩, hz.out⟩, .inl ⟨by omega, rfl, rfl, rfl⟩⟩, hprev.out⟩⟩⟩
                    have e0 := hQ.cell 0 rfl
                    have e1 := hQ.cell 1 rfl
                    have e2 := hQ.cell 2 rfl
                    have ef := hQ.frozen
                    have Lf := ((hQ.set 0 (.int .i64 10)).set 1 (.int .i64 (k : Int))).set 2 (.int .i64 (q : Int))
                    have l0 := Lf.cell 0 rfl
                    have l1 := Lf.cell 1 rfl
                    have l2 := Lf.cell 2 rfl
                    have bf := (((hB.setCell (p := ⟨w.heap.size + 1, 0, none⟩) (Nat.le_succ _) (.int .i64 10)).setCell (p := ⟨w.heap.size + 1, 1, none⟩) (Nat.le_succ _) (.int .i64 (k : Int))).setCell (p := ⟨w.heap.size + 1, 2, none⟩) (Nat.le_succ _) (.int .i64 (q : Int)))
                    replace Lf : Hid _ := Lf
                    replace hQ : Hid _ := hQ
                    clear hR hI hz hok I0 hr
                    go_wp2_with fail
                    refine bodyPost_ret (v := .agg #[.int .i64 10, .int .i64 (k : Int), .int .i64 (q : Int)]) ?_ rfl ⟨⟨_, _, _, rfl, hfin.out⟩, bf⟩
                    simp [results, Tryz.results18, go_sem, l0, l1, l2]
              · have hyt : Hid (takesW z) := hr.1 rfl
                clear hr
                replace hBI : Hid _ := hBI
                obtain ⟨j0, j1, j2, j3, j4⟩ : y3.cell? ⟨BI, 0, none⟩ = some (.int .i64 (opW z)) ∧ y3.cell? ⟨BI, 1, none⟩ = some (.int .i64 (aW z)) ∧ y3.cell? ⟨BI, 2, none⟩ = some (.int .i64 (bW z)) ∧ y3.cell? ⟨BI, 3, none⟩ = some (.int .i64 (cW z)) ∧ y3.cell? ⟨BI, 4, none⟩ = some (.int .i64 (sW z)) := ⟨I0.cell 0 rfl, I0.cell 1 rfl, I0.cell 2 rfl, I0.cell 3 rfl, I0.cell 4 rfl⟩
                have hbt3 : bt < y3.heap.size := by omega
                go_wp2_with fail
                have hd : OldS y3 y3.drew := OldS.of (Below.refl _ _).drew
                refine wp_region_held_drew (S := OldS y3) (by kernel_rfl) hd (fun hH => ?_)
                refine take_dst 0 89 (.slice (some ⟨bt, ot, none⟩) (s.f k).code.n cu) rfl (by kernel_rfl) (by kernel_rfl) (by kernel_rfl) (fun _ _ _ h => h) (Or.inl ⟨by rfl, by intro wv hSv; unfold OldS at hSv; go_simp⟩) hd rfl ?_
                try simp only [tk0, tk1, tk2, tk3, tk4]
                refine take_dst 1 90 (.int .i64 (q : Int)) rfl (by kernel_rfl) (by kernel_rfl) (by kernel_rfl) (fun _ _ _ h => h) (Or.inl ⟨by rfl, by intro wv hSv; unfold OldS at hSv; go_simp⟩) hd rfl ?_
                try simp only [tk0, tk1, tk2, tk3, tk4]
                refine take_dst 2 91 (.pointer (some ⟨bt, ot + q, none⟩)) rfl (by kernel_rfl) (by kernel_rfl) (by kernel_rfl) (fun _ _ _ h => h) (Or.inl ⟨by rfl, by intro wv hSv; unfold OldS at hSv; go_simp⟩) hd rfl ?_
                try simp only [tk0, tk1, tk2, tk3, tk4]
                refine take_dst 3 92 (.int .i64 x) rfl (by kernel_rfl) (by kernel_rfl) (by kernel_rfl) (fun _ _ _ h => h) (Or.inl ⟨by rfl, by intro wv hSv; unfold OldS at hSv; go_simp⟩) hd rfl ?_
                try simp only [tk0, tk1, tk2, tk3, tk4]
                refine take_dst 4 93 (.agg #[.int .i64 (opW z), .int .i64 (aW z), .int .i64 (bW z), .int .i64 (cW z), .int .i64 (sW z)]) rfl (by kernel_rfl) (by kernel_rfl) (by kernel_rfl) (fun _ _ _ h => h) (Or.inl ⟨by rfl, by intro wv hSv; unfold OldS at hSv; go_simp⟩) hd rfl ?_
                try simp only [tk0, tk1, tk2, tk3, tk4]
                refine wpAnyH_ready (rs := [5]) (by kernel_rfl) (by simp) ?_
                refine AllReadyH.cons rfl (fun KK hKK => ?_) AllReadyH.nil
                go_simp
                refine (l4From_z z _ hz1 hz2).mono ?_
                rintro e y4 ⟨rfl, b4⟩
                replace b4 : Below y3.heap.size y3 y4 := ⟨b4.os, b4.tape, b4.output, b4.size, b4.block⟩
                have h4 : OldS y3 y4 := OldS.of b4
                go_wp2_with fail
                refine hKK.out _ _ h4 (fun _ => ?_)
                clear hKK KK
                try simp only [tk0, tk1, tk2, tk3, tk4]
                refine take_dst 6 95 (.bool (decide (x < fromW z))) rfl (by kernel_rfl) (by kernel_rfl) (by kernel_rfl) (fun _ _ _ h => h) (Or.inl ⟨by rfl, by intro wv hSv; unfold OldS at hSv; go_simp⟩) h4 rfl ?_
                try simp only [tk0, tk1, tk2, tk3, tk4]
                refine take_dst 7 11 (.bool (decide (x < fromW z))) rfl (by kernel_rfl) (by kernel_rfl) (by kernel_rfl) (fun _ _ _ h => h) (Or.inl ⟨by rfl, by intro wv hSv; unfold OldS at hSv; go_simp⟩) h4 rfl ?_
                try simp only [tk0, tk1, tk2, tk3, tk4]
                refine wpAnyH_done (by kernel_rfl) ?_ _
                have hct4 : y4.cell? ⟨bt, ot + q, none⟩ = some (.int .i64 x) := (b4.cell (p := ⟨bt, ot + q, none⟩) hbt3).trans hct3
                replace hR := hR.call b4
                replace hQ := hQ.call b4
                replace hI : Hid (IsInts .i64 (· < N2) y4 (.slice (some ⟨bt, ot, none⟩) (s.f k).code.n cu) ⟨(s.f k).code.n, f⟩) := IsArr.keep hI.out fun b hb => b4.block b (by omega)
                replace hB := hB.trans (b4.mono hB.size)
                replace hN1 : N2 ≤ y4.heap.size := Nat.le_trans hN1 b4.size
                have hbt4 : bt < y4.heap.size := by omega
                clear b4 hct3 j0 j1 j2 j3 j4 hd h4 hH
                by_cases x2 : x = -2
                · have d2 : (x != -2) = false := by simp [x2]
                  replace x2 : Hid (x = -2) := x2
                  have T1 : Hid (RowL y4 w.heap.size 24 [.slice (some ⟨b, o, none⟩) s.n cap] ∧ RowL y4 (w.heap.size + 1) 41 [.int .i64 0, .int .i64 0, .int .i64 0] ∧ Below w.heap.size w y4 ∧ IsInts .i64 (· < N2) y4 (.slice (some ⟨bt, ot, none⟩) (s.f k).code.n cu) ⟨(s.f k).code.n, f⟩ ∧ N2 ≤ y4.heap.size ∧ ∀ j, j < q + 1 → TopF (s.f k) j 0) := ⟨hR, hQ, hB, hI.out, hN1, fun j hj => by by_cases e : j = q; (subst e; exact .inl ⟨hok.out.2 (.inl x2.out), rfl⟩); exact hz.out j (by omega)⟩
                  clear hR hQ hB hI hz hok
                  go_wp2_with fail
                  go_roundw
                  case rel => exact ⟨q + 1, by go_num, by omega, T1.out⟩
                  case measure => simp [intOf]; omega
                · have d2 : (x != -2) = true := by simp [x2]
                  by_cases x3 : x < fromW z
                  · have d3 : decide (x < fromW z) = true := by simp [x3]
                    have hfin : Hid (VerD s 10 (k : Int) (q : Int)) := .inr ⟨hwf.out, .inr ⟨hone.out, .inl ⟨k, hlt, by omega, ⟨q, 10, .inl ⟨hqn, by omega, .inr ⟨fun h => (fun h => h.elim x2 fun h => by have := h.1 hyt.out; omega) (hok.out.1 h), rfl⟩, hz.out⟩, .inl ⟨by omega, rfl, rfl, rfl⟩⟩, hprev.out⟩⟩⟩
                    have e0 := hQ.cell 0 rfl
                    have e1 := hQ.cell 1 rfl
                    have e2 := hQ.cell 2 rfl
                    have ef := hQ.frozen
                    have Lf := ((hQ.set 0 (.int .i64 10)).set 1 (.int .i64 (k : Int))).set 2 (.int .i64 (q : Int))
                    have l0 := Lf.cell 0 rfl
                    have l1 := Lf.cell 1 rfl
                    have l2 := Lf.cell 2 rfl
                    have bf := (((hB.setCell (p := ⟨w.heap.size + 1, 0, none⟩) (Nat.le_succ _) (.int .i64 10)).setCell (p := ⟨w.heap.size + 1, 1, none⟩) (Nat.le_succ _) (.int .i64 (k : Int))).setCell (p := ⟨w.heap.size + 1, 2, none⟩) (Nat.le_succ _) (.int .i64 (q : Int)))
                    replace Lf : Hid _ := Lf
                    replace hQ : Hid _ := hQ
                    clear hR hI hz hok I0
                    go_wp2_with fail
                    refine bodyPost_ret (v := .agg #[.int .i64 10, .int .i64 (k : Int), .int .i64 (q : Int)]) ?_ rfl ⟨⟨_, _, _, rfl, hfin.out⟩, bf⟩
                    simp [results, Tryz.results18, go_sem, l0, l1, l2]
                  · have d3 : decide (x < fromW z) = false := by simpa using x3
                    have T1 : Hid (RowL y4 w.heap.size 24 [.slice (some ⟨b, o, none⟩) s.n cap] ∧ RowL y4 (w.heap.size + 1) 41 [.int .i64 0, .int .i64 0, .int .i64 0] ∧ Below w.heap.size w y4 ∧ IsInts .i64 (· < N2) y4 (.slice (some ⟨bt, ot, none⟩) (s.f k).code.n cu) ⟨(s.f k).code.n, f⟩ ∧ N2 ≤ y4.heap.size ∧ ∀ j, j < q + 1 → TopF (s.f k) j 0) := ⟨hR, hQ, hB, hI.out, hN1, fun j hj => by by_cases e : j = q; (subst e; exact .inl ⟨hok.out.2 (.inr ⟨fun _ => by omega, fun h => absurd hyt.out h⟩), rfl⟩); exact hz.out j (by omega)⟩
                    clear hR hQ hB hI hz hok
                    go_wp2_with fail
                    go_roundw
                    case rel => exact ⟨q + 1, by go_num, by omega, T1.out⟩
                    case measure => simp [intOf]; omega
            · obtain rfl : q = (s.f k).code.n := by omega
              have hqI : ¬ (((s.f k).code.n : Int) < ((s.f k).code.n : Int)) := by omega
              have T1 : Hid (RowL wE w.heap.size 24 [.slice (some ⟨b, o, none⟩) s.n cap] ∧ RowL wE (w.heap.size + 1) 41 [.int .i64 0, .int .i64 0, .int .i64 0] ∧ Below w.heap.size w wE ∧ ∀ j, j < k + 1 → Rep2 s j 0 0 0) := ⟨hR, hQ, hB, fun j hj => by by_cases e : j = k; (subst e; exact ⟨_, 0, .inr ⟨rfl, rfl, hz.out⟩, .inr ⟨rfl, rfl, rfl, rfl⟩⟩); exact hprev.out j (by omega)⟩
              clear hz hR hQ hB hI r0
              go_wp2_with fail
              go_roundw
              case rel => exact ⟨k + 1, by go_num, by omega, T1.out⟩
              case measure => simp [intOf]; omega
        · obtain rfl : k = s.n := by omega
          have hkI : ¬ ((s.n : Int) < (s.n : Int)) := by omega
          have hfin : Hid (VerD s 0 0 0) := .inr ⟨hwf.out, .inr ⟨hone.out, .inr ⟨rfl, rfl, rfl, hprev.out⟩⟩⟩
          have e0 := hQ.cell 0 rfl
          have e1 := hQ.cell 1 rfl
          have e2 := hQ.cell 2 rfl
          have ef := hQ.frozen
          have Lf := ((hQ.set 0 (.int .i64 0)).set 1 (.int .i64 0)).set 2 (.int .i64 0)
          have l0 := Lf.cell 0 rfl
          have l1 := Lf.cell 1 rfl
          have l2 := Lf.cell 2 rfl
          have bf := (((hB.setCell (p := ⟨w.heap.size + 1, 0, none⟩) (Nat.le_succ _) (.int .i64 0)).setCell (p := ⟨w.heap.size + 1, 1, none⟩) (Nat.le_succ _) (.int .i64 0)).setCell (p := ⟨w.heap.size + 1, 2, none⟩) (Nat.le_succ _) (.int .i64 0))
          replace Lf : Hid _ := Lf
          replace hQ : Hid _ := hQ
          clear hR hprev
          go_wp2_with fail
          refine bodyPost_ret (v := .agg #[.int .i64 0, .int .i64 0, .int .i64 0]) ?_ rfl ⟨⟨_, _, _, rfl, hfin.out⟩, bf⟩
          simp [results, Tryz.results18, go_sem, l0, l1, l2]
end Go.Proofs.YtckapapejfnojaaGreatDoor

import Derived.Test.YtndpbdpngniepaaStK
import Derived.Test.YtndpbdpngniepaaChR
namespace Go.Proofs.Ytndpbdpngniepaa
open Go.RowKit Go.Shelf
set_option linter.unusedVariables false
set_option linter.unusedSimpArgs false
set_option maxRecDepth 100000 in
set_option maxHeartbeats 4000000 in
theorem specStrip_in (s : Sl PD) (v : Value) (w : World) (hv : IsProtos (· < w.heap.size) w v s) (hs : SmallC s) :
    Calls Try.prog 25 #[.agg #[v]] w fun e w' => ((Wf s ∧ ∃ v' lo B0 rng a b, e = .returned (.agg #[v']) ∧ w.heap.size ≤ lo ∧ COwn w' v' s.n (fun i => stripP (s.f i)) lo w'.heap.size B0 rng a b) ∨ (¬ Wf s ∧ e = .returned (.agg #[.slice none 0 0]))) ∧ Below w.heap.size w w' := by
  have hv' : Hid (IsProtos (· < w.heap.size) w v s) := hv
  obtain ⟨a3, a4, a5, a8, a9, ⟨ao, cap, rfl, hn, hc⟩, ht⟩ := hv
  replace hc : Hid _ := hc
  replace ht : Hid _ := ht
  go_enter Try.func25, Try.ntmps25
  go_wp2_with fail
  have Q0 : RowL ((w.alloc (.cells #[.slice ao s.n cap] 38)).alloc (.cells #[.slice none 0 0] 38)) w.heap.size 38 [.slice ao s.n cap] := (RowL.new w _ 38).alloc _
  have Q1 : RowL ((w.alloc (.cells #[.slice ao s.n cap] 38)).alloc (.cells #[.slice none 0 0] 38)) (w.heap.size + 1) 38 [.slice none 0 0] := by
    have := RowL.new (w.alloc (.cells #[.slice ao s.n cap] 38)) [.slice none 0 0] 38
    rwa [World.size_alloc] at this
  have bw : Below w.heap.size w ((w.alloc (.cells #[.slice ao s.n cap] 38)).alloc (.cells #[.slice none 0 0] 38)) := by go_grown
  generalize (w.alloc (.cells #[.slice ao s.n cap] 38)).alloc (.cells #[.slice none 0 0] 38) = w3 at Q0 Q1 bw ⊢
  refine (specWF_in s _ _ (hv'.out.later bw)).mono ?_
  rintro e y ⟨⟨r, rfl, hr⟩, b1⟩
  replace Q0 := Q0.call b1
  replace Q1 := Q1.call b1
  replace bw := bw.trans (b1.mono bw.size)
  clear b1
  have q0 := Q0.cell 0 rfl
  have q1 := Q1.cell 0 rfl
  have f1 := Q1.frozen 0
  obtain rfl | rfl : r = false ∨ r = true := by cases r <;> simp
  · have hno : Hid (¬ Wf s) := fun h => by simpa using hr.2 h
    have S1 := Q1.set 0 (.slice none 0 0)
    have hfin := S1.cell 0 rfl
    clear hr hv' Q0 Q1 S1
    go_wp2_with fail
    refine bodyPost_ret (v := .agg #[.slice none 0 0]) (by simp [results, Try.results25, go_sem, hfin]) rfl ⟨.inr ⟨hno.out, rfl⟩, bw.setCell (p := ⟨w.heap.size + 1, 0, none⟩) (by show w.heap.size ≤ w.heap.size + 1; omega) _⟩
  have hwf : Hid (Wf s) := hr.1 rfl
  clear hr q1 f1
  have q0' : ∀ o, (y.alloc o).cell? ⟨w.heap.size, 0, none⟩ = some (.slice ao s.n cap) := fun o => (Q0.alloc o).cell 0 rfl
  go_wp2_with fail
  have RY := RowL.new y [.slice none 0 0] 38
  have R0 := Q0.alloc (.cells #[.slice none 0 0] 38)
  have R1 := Q1.alloc (.cells #[.slice none 0 0] 38)
  have hy3 : w.heap.size + 2 ≤ y.heap.size := by
    have := Q1.lt
    omega
  have bw' : Below w.heap.size w (y.alloc (.cells #[.slice none 0 0] 38)) := bw.alloc (by omega) _
  have sz : (y.alloc (.cells #[.slice none 0 0] 38)).heap.size = y.heap.size + 1 := by simp
  clear Q0 Q1 q0 q0'
  generalize (y.alloc (.cells #[.slice none 0 0] 38)) = w0 at R0 R1 RY bw' sz ⊢
  have hlow := hwf.out.low
  have hhigh := hwf.out.high
  replace R0 : Hid (RowL w0 w.heap.size 38 [.slice ao s.n cap]) := R0
  replace R1 : Hid (RowL w0 (w.heap.size + 1) 38 [.slice none 0 0]) := R1
  have hI0 : Hid (∃ U, SI s (y.heap.size + 1) y.heap.size (w.heap.size + 2) w0 ((List.finRange s.n).take 0) U w0) := by
    refine ⟨fun c => c = y.heap.size, Below.refl _ _, by omega, .slice none 0 0, fun _ => w0.heap.size, fun _ _ => undef, fun _ _ => 0, RY, World.ownsRow_nil _ _ _ _, (show y.heap.size + 1 ≤ w0.heap.size by omega), fun _ => Nat.le_refl _, fun _ => Nat.le_refl _, fun g hg => (by cases (show (none : Option Nat) = some g from hg)), fun i hi => absurd hi (Nat.not_lt_zero _), fun c => ?_⟩
    constructor
    · exact .inl
    · rintro (h | h | ⟨i, hi, _⟩)
      · exact h
      · cases h
      · exact absurd hi (Nat.not_lt_zero _)
  clear RY
  go_loopw [4] (fun i wr => ∃ i' : Nat, i = .int .i64 (i' : Int) ∧ i' ≤ s.n ∧ Hid (∃ U, SI s (y.heap.size + 1) y.heap.size (w.heap.size + 2) w0 ((List.finRange s.n).take i') U wr)) (fun i _ => s.n - (intOf i).toNat)
  case atStart => exact ⟨0, rfl, by omega, hI0⟩
  case round =>
    clear hI0
    obtain ⟨i', rfl, hin, hI⟩ := hrel
    obtain ⟨wz, hwz⟩ : ∃ x, x = wr := ⟨_, rfl⟩
    subst hwz
    obtain ⟨U, hB, hbase, vo, rng, a, b, hS⟩ := id hI.out
    replace hS : Hid (SOwn s ((List.finRange s.n).take i') (y.heap.size + 1) y.heap.size wz U vo rng a b) := hS
    have r0 := (R0.out.below hB (by omega)).cell 0 rfl
    by_cases hi' : i' < s.n
    · have hii : (i' : Int) < (s.n : Int) := by omega
      obtain ⟨bb, oo, rfl, hbb, hcc⟩ := hc.out (by omega)
      have hel : ∀ j, j < 10 → wz.cell? ⟨bb, oo + i' * 10 + j, none⟩ = some (pC s.f a3 a4 a5 a8 a9 i' j) := fun j hj =>
        ((hB.cell (p := ⟨bb, _, none⟩) (by show bb < w.heap.size + 2; omega)).trans ((bw'.cell (p := ⟨bb, _, none⟩) hbb).trans (hcc i' hi' j hj)))
      have hp := (ht.out i' hi').later (bw'.trans (hB.mono (by omega)))
      obtain ⟨p3, p4, p5, p8, p9, -⟩ := hp
      obtain ⟨o3, k3, e3, n3, h3⟩ := p3
      obtain ⟨o5, k5, e5, n5, h5⟩ := p5
      obtain ⟨o8, k8, e8, -, -⟩ := p8
      obtain ⟨⟨o4, k4, e4, n4, h4⟩, -⟩ := p4
      obtain ⟨⟨o9, k9, e9, -, -⟩, -⟩ := p9
      have c0 := hel 0 (by omega)
      have c1 := hel 1 (by omega)
      have c2 := hel 2 (by omega)
      have c3 := hel 3 (by omega)
      have c4 := hel 4 (by omega)
      have c5 := hel 5 (by omega)
      have c6 := hel 6 (by omega)
      have c7 := hel 7 (by omega)
      have c8 := hel 8 (by omega)
      have c9 := hel 9 (by omega)
      simp only [Nat.add_zero, pC, e3, e4, e5, e8, e9] at c0 c1 c2 c3 c4 c5 c6 c7 c8 c9
      replace h3 : Hid _ := h3
      replace h4 : Hid _ := h4
      replace h5 : Hid _ := h5
      clear hel hcc
      go_wp2_with fail
      have RP : RowL ((wz.alloc (.cells #[.int .i64 (s.f i').params, .bool (s.f i').vararg, .int .i64 (s.f i').regs, .slice o3 (s.f i').code.n k3, .slice o4 (s.f i').consts.n k4, .slice o5 (s.f i').ups.n k5, .int .i64 (s.f i').kids, .string (s.f i').name, .slice o8 (s.f i').lines.n k8, .slice o9 (s.f i').upNames.n k9] 61)).alloc (.cells #[.int .i64 (s.f i').params, .bool (s.f i').vararg, .int .i64 (s.f i').regs, .slice none 0 0, .slice none 0 0, .slice none 0 0, .int .i64 (s.f i').kids, .string ⟨#[]⟩, .slice none 0 0, .slice none 0 0] 61)) wz.heap.size 61 [.int .i64 (s.f i').params, .bool (s.f i').vararg, .int .i64 (s.f i').regs, .slice o3 (s.f i').code.n k3, .slice o4 (s.f i').consts.n k4, .slice o5 (s.f i').ups.n k5, .int .i64 (s.f i').kids, .string (s.f i').name, .slice o8 (s.f i').lines.n k8, .slice o9 (s.f i').upNames.n k9] := (RowL.new wz _ 61).alloc _
      have RQ : RowL ((wz.alloc (.cells #[.int .i64 (s.f i').params, .bool (s.f i').vararg, .int .i64 (s.f i').regs, .slice o3 (s.f i').code.n k3, .slice o4 (s.f i').consts.n k4, .slice o5 (s.f i').ups.n k5, .int .i64 (s.f i').kids, .string (s.f i').name, .slice o8 (s.f i').lines.n k8, .slice o9 (s.f i').upNames.n k9] 61)).alloc (.cells #[.int .i64 (s.f i').params, .bool (s.f i').vararg, .int .i64 (s.f i').regs, .slice none 0 0, .slice none 0 0, .slice none 0 0, .int .i64 (s.f i').kids, .string ⟨#[]⟩, .slice none 0 0, .slice none 0 0] 61)) (wz.heap.size + 1) 61 [.int .i64 (s.f i').params, .bool (s.f i').vararg, .int .i64 (s.f i').regs, .slice none 0 0, .slice none 0 0, .slice none 0 0, .int .i64 (s.f i').kids, .string ⟨#[]⟩, .slice none 0 0, .slice none 0 0] := by
        have := RowL.new (wz.alloc (.cells #[.int .i64 (s.f i').params, .bool (s.f i').vararg, .int .i64 (s.f i').regs, .slice o3 (s.f i').code.n k3, .slice o4 (s.f i').consts.n k4, .slice o5 (s.f i').ups.n k5, .int .i64 (s.f i').kids, .string (s.f i').name, .slice o8 (s.f i').lines.n k8, .slice o9 (s.f i').upNames.n k9] 61)) [.int .i64 (s.f i').params, .bool (s.f i').vararg, .int .i64 (s.f i').regs, .slice none 0 0, .slice none 0 0, .slice none 0 0, .int .i64 (s.f i').kids, .string ⟨#[]⟩, .slice none 0 0, .slice none 0 0] 61
        rwa [World.size_alloc] at this
      have bz : Below wz.heap.size wz ((wz.alloc (.cells #[.int .i64 (s.f i').params, .bool (s.f i').vararg, .int .i64 (s.f i').regs, .slice o3 (s.f i').code.n k3, .slice o4 (s.f i').consts.n k4, .slice o5 (s.f i').ups.n k5, .int .i64 (s.f i').kids, .string (s.f i').name, .slice o8 (s.f i').lines.n k8, .slice o9 (s.f i').upNames.n k9] 61)).alloc (.cells #[.int .i64 (s.f i').params, .bool (s.f i').vararg, .int .i64 (s.f i').regs, .slice none 0 0, .slice none 0 0, .slice none 0 0, .int .i64 (s.f i').kids, .string ⟨#[]⟩, .slice none 0 0, .slice none 0 0] 61)) := ((Below.refl _ wz).alloc (Nat.le_refl _) _).alloc (by simp) _
      have szz : ((wz.alloc (.cells #[.int .i64 (s.f i').params, .bool (s.f i').vararg, .int .i64 (s.f i').regs, .slice o3 (s.f i').code.n k3, .slice o4 (s.f i').consts.n k4, .slice o5 (s.f i').ups.n k5, .int .i64 (s.f i').kids, .string (s.f i').name, .slice o8 (s.f i').lines.n k8, .slice o9 (s.f i').upNames.n k9] 61)).alloc (.cells #[.int .i64 (s.f i').params, .bool (s.f i').vararg, .int .i64 (s.f i').regs, .slice none 0 0, .slice none 0 0, .slice none 0 0, .int .i64 (s.f i').kids, .string ⟨#[]⟩, .slice none 0 0, .slice none 0 0] 61)).heap.size = wz.heap.size + 2 := by simp
      generalize ((wz.alloc (.cells #[.int .i64 (s.f i').params, .bool (s.f i').vararg, .int .i64 (s.f i').regs, .slice o3 (s.f i').code.n k3, .slice o4 (s.f i').consts.n k4, .slice o5 (s.f i').ups.n k5, .int .i64 (s.f i').kids, .string (s.f i').name, .slice o8 (s.f i').lines.n k8, .slice o9 (s.f i').upNames.n k9] 61)).alloc (.cells #[.int .i64 (s.f i').params, .bool (s.f i').vararg, .int .i64 (s.f i').regs, .slice none 0 0, .slice none 0 0, .slice none 0 0, .int .i64 (s.f i').kids, .string ⟨#[]⟩, .slice none 0 0, .slice none 0 0] 61)) = z0 at RP RQ bz szz ⊢
      replace RP : Hid (RowL z0 wz.heap.size 61 [.int .i64 (s.f i').params, .bool (s.f i').vararg, .int .i64 (s.f i').regs, .slice o3 (s.f i').code.n k3, .slice o4 (s.f i').consts.n k4, .slice o5 (s.f i').ups.n k5, .int .i64 (s.f i').kids, .string (s.f i').name, .slice o8 (s.f i').lines.n k8, .slice o9 (s.f i').upNames.n k9]) := RP
      have kz0 : Hid (∀ c, c < wz.heap.size → z0.heap[c]? = wz.heap[c]?) := fun c hc => bz.block c hc
      go_loopw [7] (fun j wr => ∃ j' : Nat, j = .int .i64 (j' : Int) ∧ j' ≤ (s.f i').code.n ∧ Hid (∃ v, Only (wz.heap.size + 1) z0 wr ∧ RowL wr (wz.heap.size + 1) 61 [.int .i64 (s.f i').params, .bool (s.f i').vararg, .int .i64 (s.f i').regs, v, .slice none 0 0, .slice none 0 0, .int .i64 (s.f i').kids, .string ⟨#[]⟩, .slice none 0 0, .slice none 0 0] ∧ wr.ownsRow z0.heap.size 49 1 v j' (flat 1 j' (iC .u32 (s.f i').code.f)))) (fun j _ => (s.f i').code.n - (intOf j).toNat)
      case atStart => exact ⟨0, rfl, by omega, _, ⟨rfl, rfl, rfl, Nat.le_refl _, fun _ _ _ => rfl⟩, RQ, World.ownsRow_nil _ _ _ _⟩
      case round =>
        obtain ⟨j', rfl, hjn, hJ⟩ := hrel
        obtain ⟨v, on, Rq, row⟩ := id hJ.out
        have hPz : wr.heap[wz.heap.size]? = z0.heap[wz.heap.size]? := on.block _ (by omega) (by omega)
        have RPj : RowL wr wz.heap.size 61 [.int .i64 (s.f i').params, .bool (s.f i').vararg, .int .i64 (s.f i').regs, .slice o3 (s.f i').code.n k3, .slice o4 (s.f i').consts.n k4, .slice o5 (s.f i').ups.n k5, .int .i64 (s.f i').kids, .string (s.f i').name, .slice o8 (s.f i').lines.n k8, .slice o9 (s.f i').upNames.n k9] := World.rowIs.of_block RP.out hPz
        have rp := RPj.cell 3 rfl
        by_cases hj : j' < (s.f i').code.n
        · have hjj : (j' : Int) < ((s.f i').code.n : Int) := by omega
          obtain ⟨b3, f3, rfl, hbw, hccc⟩ := h3.out (by omega)
          have hbz : b3 < z0.heap.size := by omega
          have hbl : b3 < wr.heap.size := Nat.lt_of_lt_of_le hbz on.size
          have hQl : wz.heap.size + 1 < wr.heap.size := Rq.lt
          have hk : Hid (∀ z : World, z.heap[wz.heap.size]? = wr.heap[wz.heap.size]? → z.heap[b3]? = wr.heap[b3]? → (z.cell? ⟨wz.heap.size, 3, none⟩ = some (.slice (some ⟨b3, f3, none⟩) (s.f i').code.n k3) ∧ z.cell? ⟨b3, f3 + j', none⟩ = some (.int .u32 ((s.f i').code.f j')))) := fun z h1 h2 => by
            have hel : ∀ j, j < 1 → z.cell? ⟨b3, f3 + j' * 1 + j, none⟩ = some ((iC .u32 (s.f i').code.f) j' j) := fun j hj' => by
              rw [World.cell?_of_block (a := ⟨b3, f3 + j' * 1 + j, none⟩) (h2.trans ((on.block b3 hbz (by omega)).trans (kz0.out b3 hbw)))]
              exact hccc j' hj j hj'
            exact ⟨(World.cell?_of_block (a := ⟨wz.heap.size, 3, none⟩) h1).trans rp, (by simpa [iC] using hel 0 (by omega))⟩
          obtain ⟨i0, hi, hz0, hz1, hz2⟩ := info_parts (show (Try.prog.info? 49).map (fun i => (i.zero, i.size, i.bytes)) = some (some (.int .u32 0), 1, 4) by kernel_rfl)
          obtain ⟨hs3, hs4, hs5, -, -⟩ := hs.2 i' hi'
          clear hccc
          go_wp2_with fail
          refine wp_region_held_drew (S := fun z => z.cell? ⟨wz.heap.size, 3, none⟩ = some (.slice (some ⟨b3, f3, none⟩) (s.f i').code.n k3) ∧ z.cell? ⟨b3, f3 + j', none⟩ = some (.int .u32 ((s.f i').code.f j'))) (by kernel_rfl) (hk.out _ rfl rfl) (fun hHeld => ?_)
          have hd : Below wr.heap.size wr wr.drew := (Below.refl _ _).drew
          have hdz : wr.drew.heap.size = wr.heap.size := rfl
          generalize wr.drew = wd at hd hdz hHeld ⊢
          replace row := ownsRow_keepG row (fun g hg => hd.block g (row.lt g hg).2)
          replace hk : Hid (∀ z : World, z.heap[wz.heap.size]? = wd.heap[wz.heap.size]? → z.heap[b3]? = wd.heap[b3]? → (z.cell? ⟨wz.heap.size, 3, none⟩ = some (.slice (some ⟨b3, f3, none⟩) (s.f i').code.n k3) ∧ z.cell? ⟨b3, f3 + j', none⟩ = some (.int .u32 ((s.f i').code.f j')))) := fun z h1 h2 => hk.out z (h1.trans (hd.block _ (by omega))) (h2.trans (hd.block _ hbl))
          replace Rq := Rq.call hd
          replace on := on.trans (Only.of_below hd)
          replace hbl : b3 < wd.heap.size := by omega
          replace hQl : wz.heap.size + 1 < wd.heap.size := by omega
          clear hd hdz rp RPj hPz hJ
          refine take_dst 0 43 (.pointer (some ⟨wz.heap.size + 1, 3, none⟩)) rfl (by kernel_rfl) (by kernel_rfl) (by kernel_rfl) (fun _ _ _ h => h) (Or.inl ⟨by rfl, by intro wv hSv; (try dsimp only at hSv); go_simp⟩) hHeld rfl ?_
          try simp only [Act.put, List.setIfInBounds_toArray, List.set_cons_zero, List.set_cons_succ]
          refine take_dst 2 45 (.pointer (some ⟨wz.heap.size, 3, none⟩)) rfl (by kernel_rfl) (by kernel_rfl) (by kernel_rfl) (fun _ _ _ h => h) (Or.inl ⟨by rfl, by intro wv hSv; (try dsimp only at hSv); go_simp⟩) hHeld rfl ?_
          try simp only [Act.put, List.setIfInBounds_toArray, List.set_cons_zero, List.set_cons_succ]
          refine take_dst 3 46 (.slice (some ⟨b3, f3, none⟩) (s.f i').code.n k3) rfl (by kernel_rfl) (by kernel_rfl) (by kernel_rfl) (fun _ _ _ h => h) (Or.inl ⟨by rfl, by intro wv hSv; (try dsimp only at hSv); go_simp⟩) hHeld rfl ?_
          try simp only [Act.put, List.setIfInBounds_toArray, List.set_cons_zero, List.set_cons_succ]
          refine take_dst 4 47 (.int .i64 (j' : Int)) rfl (by kernel_rfl) (by kernel_rfl) (by kernel_rfl) (fun _ _ _ h => h) (Or.inl ⟨by rfl, by intro wv hSv; (try dsimp only at hSv); go_simp⟩) hHeld rfl ?_
          try simp only [Act.put, List.setIfInBounds_toArray, List.set_cons_zero, List.set_cons_succ]
          refine take_dst 5 48 (.pointer (some ⟨b3, f3 + j', none⟩)) rfl (by kernel_rfl) (by kernel_rfl) (by kernel_rfl) (fun _ _ _ h => h) (Or.inl ⟨by rfl, by intro wv hSv; (try dsimp only at hSv); go_simp⟩) hHeld rfl ?_
          try simp only [Act.put, List.setIfInBounds_toArray, List.set_cons_zero, List.set_cons_succ]
          refine take_dst 6 49 (.int .u32 ((s.f i').code.f j')) rfl (by kernel_rfl) (by kernel_rfl) (by kernel_rfl) (fun _ _ _ h => h) (Or.inl ⟨by rfl, by intro wv hSv; (try dsimp only at hSv); go_simp⟩) hHeld rfl ?_
          try simp only [Act.put, List.setIfInBounds_toArray, List.set_cons_zero, List.set_cons_succ]
          refine wpAnyH_ready (rs := [1, 7]) (by kernel_rfl) (by simp) ?_
          refine AllReadyH.cons rfl (fun K hK => ?_) (AllReadyH.cons rfl (fun K hK => ?_) AllReadyH.nil)
          · have cY := Rq.cell 3 rfl
            go_simp
            refine hK.out _ _ (hk.out _ rfl rfl) (fun _ => ?_)
            clear hK K
            try simp only [Act.put, List.setIfInBounds_toArray, List.set_cons_zero, List.set_cons_succ]
            refine wpAnyH_ready (rs := [7]) (by kernel_rfl) (by simp) ?_
            refine AllReadyH.cons rfl (fun K hK => ?_) AllReadyH.nil
            go_simp
            refine hK.out _ _ (hk.out _ (Below.heap_alloc _ _ _ (by show wz.heap.size < wd.heap.size; omega)) (Below.heap_alloc _ _ _ hbl)) (fun _ => ?_)
            clear hK K
            try simp only [Act.put, List.setIfInBounds_toArray, List.set_cons_zero, List.set_cons_succ]
            refine wpAnyH_ready (rs := [8]) (by kernel_rfl) (by simp) ?_
            refine AllReadyH.cons rfl (fun K hK => ?_) AllReadyH.nil
            refine step_append_lies _ rfl (.tmp 44) (.tmp 50) 55 rfl z0.heap.size 49 i0 _ 1 4 Try.underlying55 hi hz0 hz1 hz2 rfl (by decide) v j' (flat 1 j' (iC .u32 (s.f i').code.f)) rfl
              (ownsRow_keepG row fun g hg => Below.heap_alloc _ _ _ (row.lt g hg).2) ⟨wd.heap.size, 0, none⟩ 1 1 [.int .u32 ((s.f i').code.f j')] rfl rfl
              (World.news_of_block (World.alloc_heap_new wd _)) (by intro u hu; simp only [List.mem_cons, List.not_mem_nil, or_false] at hu; subst hu; rfl) (by omega) (by simp only [maxLen]; omega) (by omega) (by simp only [World.size_alloc]; exact Nat.le_succ_of_le on.size) _ rfl ?_
            intro g cap' w' hrow hgrow hat hglt
            have sz2 := hgrow.size
            rw [World.size_alloc] at sz2
            replace sz2 : wd.heap.size + 1 ≤ w'.heap.size := sz2
            have kW : ∀ c, c < z0.heap.size → w'.heap[c]? = wd.heap[c]? := fun c h1 => by
              have hcl : c < wd.heap.size := Nat.lt_of_lt_of_le h1 on.size
              rw [hgrow.block c (by rw [World.size_alloc]; exact Nat.lt_succ_of_lt hcl) (fun e => by have := (row.lt c e.symm).1; omega), Below.heap_alloc _ _ _ hcl]
            have hH2 := hk.out w' (kW _ (by omega)) (kW _ hbz)
            have bY : RowL w' (wz.heap.size + 1) 61 [.int .i64 (s.f i').params, .bool (s.f i').vararg, .int .i64 (s.f i').regs, v, .slice none 0 0, .slice none 0 0, .int .i64 (s.f i').kids, .string ⟨#[]⟩, .slice none 0 0, .slice none 0 0] := World.rowIs.of_block Rq (kW _ (by omega))
            have cY := bY.cell 3 rfl
            have fY := bY.frozen 3
            have hnew : Hid (∃ v', v' = Value.slice (some ⟨g, 0, none⟩) (j' + 1) cap' ∧ Only (wz.heap.size + 1) z0 (w'.setCell ⟨wz.heap.size + 1, 3, none⟩ v') ∧ RowL (w'.setCell ⟨wz.heap.size + 1, 3, none⟩ v') (wz.heap.size + 1) 61 [.int .i64 (s.f i').params, .bool (s.f i').vararg, .int .i64 (s.f i').regs, v', .slice none 0 0, .slice none 0 0, .int .i64 (s.f i').kids, .string ⟨#[]⟩, .slice none 0 0, .slice none 0 0] ∧ (w'.setCell ⟨wz.heap.size + 1, 3, none⟩ v').ownsRow z0.heap.size 49 1 v' (j' + 1) (flat 1 (j' + 1) (iC .u32 (s.f i').code.f))) := by
              refine ⟨_, rfl, ⟨?_, ?_, ?_, ?_, fun c h1 h2 => ?_⟩, bY.set 3 _, ?_⟩
              · exact hgrow.os.trans on.os
              · exact (((Below.refl 0 w').setCell (p := ⟨wz.heap.size + 1, 3, none⟩) (Nat.zero_le _) _).tape.trans hgrow.tape).trans on.tape
              · exact (((Below.refl 0 w').setCell (p := ⟨wz.heap.size + 1, 3, none⟩) (Nat.zero_le _) _).output.trans hgrow.output).trans on.output
              · have h0 := on.size
                have h1 : (w'.setCell ⟨wz.heap.size + 1, 3, none⟩ (.slice (some ⟨g, 0, none⟩) (j' + 1) cap')).heap.size = w'.heap.size := by simp
                omega
              · rw [Below.heap_setCell _ _ _ _ h2, kW c h1, on.block c h1 h2]
              · refine ownsRow_keepG (w := w') ?_ fun g' hg' => Below.heap_setCell _ _ _ _ (by have := (hrow.lt g' hg').1; show g' ≠ wz.heap.size + 1; omega)
                rw [flat_succ _ _ (by omega)]
                simpa [iC, List.range_succ] using hrow
            replace hrow : Hid _ := hrow
            refine hK.out _ _ hH2 (fun _ => ?_)
            clear hK K
            try simp only [Act.put, List.setIfInBounds_toArray, List.set_cons_zero, List.set_cons_succ]
            refine take_dst 9 52 (.pointer (some ⟨wz.heap.size + 1, 3, none⟩)) rfl (by kernel_rfl) (by kernel_rfl) (by kernel_rfl) (fun _ _ _ h => h) (Or.inl ⟨by rfl, by intro wv hSv; (try dsimp only at hSv); go_simp⟩) hH2 rfl ?_
            try simp only [Act.put, List.setIfInBounds_toArray, List.set_cons_zero, List.set_cons_succ]
            refine wpAnyH_ready (rs := [10]) (by kernel_rfl) (by simp) ?_
            refine AllReadyH.cons rfl (fun K hK => ?_) AllReadyH.nil
            go_simp
            refine hK.out _ _ (hk.out _ ((Below.heap_setCell _ _ _ _ (by show wz.heap.size ≠ wz.heap.size + 1; omega)).trans (kW _ (by omega))) ((Below.heap_setCell _ _ _ _ (by show b3 ≠ wz.heap.size + 1; omega)).trans (kW _ hbz))) (fun _ => ?_)
            clear hK K
            try simp only [Act.put, List.setIfInBounds_toArray, List.set_cons_zero, List.set_cons_succ]
            refine wpAnyH_done (by kernel_rfl) ?_ _
            obtain ⟨v', rfl, n1, n2, n3⟩ := id hnew.out
            replace n1 : Hid _ := n1
            replace n2 : Hid _ := n2
            replace n3 : Hid _ := n3
            clear hnew hrow hgrow kW bY cY fY hH2 hk row on Rq
            go_wp2_with fail
            go_roundw
            case rel => exact ⟨j' + 1, rfl, by omega, _, n1.out, n2.out, n3.out⟩
            case measure => simp [intOf]; omega
          · go_simp
            refine hK.out _ _ (hk.out _ (Below.heap_alloc _ _ _ (by show wz.heap.size < wd.heap.size; omega)) (Below.heap_alloc _ _ _ hbl)) (fun _ => ?_)
            clear hK K
            try simp only [Act.put, List.setIfInBounds_toArray, List.set_cons_zero, List.set_cons_succ]
            refine wpAnyH_ready (rs := [1]) (by kernel_rfl) (by simp) ?_
            refine AllReadyH.cons rfl (fun K hK => ?_) AllReadyH.nil
            have cY : ∀ o, (wd.alloc o).cell? ⟨wz.heap.size + 1, 3, none⟩ = some v := fun o => (World.cell?_of_block (a := ⟨wz.heap.size + 1, 3, none⟩) (Below.heap_alloc _ _ _ hQl)).trans (Rq.cell 3 rfl)
            go_simp
            refine hK.out _ _ (hk.out _ (Below.heap_alloc _ _ _ (by show wz.heap.size < wd.heap.size; omega)) (Below.heap_alloc _ _ _ hbl)) (fun _ => ?_)
            clear hK K
            try simp only [Act.put, List.setIfInBounds_toArray, List.set_cons_zero, List.set_cons_succ]
            refine wpAnyH_ready (rs := [8]) (by kernel_rfl) (by simp) ?_
            refine AllReadyH.cons rfl (fun K hK => ?_) AllReadyH.nil
            refine step_append_lies _ rfl (.tmp 44) (.tmp 50) 55 rfl z0.heap.size 49 i0 _ 1 4 Try.underlying55 hi hz0 hz1 hz2 rfl (by decide) v j' (flat 1 j' (iC .u32 (s.f i').code.f)) rfl
              (ownsRow_keepG row fun g hg => Below.heap_alloc _ _ _ (row.lt g hg).2) ⟨wd.heap.size, 0, none⟩ 1 1 [.int .u32 ((s.f i').code.f j')] rfl rfl
              (World.news_of_block (World.alloc_heap_new wd _)) (by intro u hu; simp only [List.mem_cons, List.not_mem_nil, or_false] at hu; subst hu; rfl) (by omega) (by simp only [maxLen]; omega) (by omega) (by simp only [World.size_alloc]; exact Nat.le_succ_of_le on.size) _ rfl ?_
            intro g cap' w' hrow hgrow hat hglt
            have sz2 := hgrow.size
            rw [World.size_alloc] at sz2
            replace sz2 : wd.heap.size + 1 ≤ w'.heap.size := sz2
            have kW : ∀ c, c < z0.heap.size → w'.heap[c]? = wd.heap[c]? := fun c h1 => by
              have hcl : c < wd.heap.size := Nat.lt_of_lt_of_le h1 on.size
              rw [hgrow.block c (by rw [World.size_alloc]; exact Nat.lt_succ_of_lt hcl) (fun e => by have := (row.lt c e.symm).1; omega), Below.heap_alloc _ _ _ hcl]
            have hH2 := hk.out w' (kW _ (by omega)) (kW _ hbz)
            have bY : RowL w' (wz.heap.size + 1) 61 [.int .i64 (s.f i').params, .bool (s.f i').vararg, .int .i64 (s.f i').regs, v, .slice none 0 0, .slice none 0 0, .int .i64 (s.f i').kids, .string ⟨#[]⟩, .slice none 0 0, .slice none 0 0] := World.rowIs.of_block Rq (kW _ (by omega))
            have cY := bY.cell 3 rfl
            have fY := bY.frozen 3
            have hnew : Hid (∃ v', v' = Value.slice (some ⟨g, 0, none⟩) (j' + 1) cap' ∧ Only (wz.heap.size + 1) z0 (w'.setCell ⟨wz.heap.size + 1, 3, none⟩ v') ∧ RowL (w'.setCell ⟨wz.heap.size + 1, 3, none⟩ v') (wz.heap.size + 1) 61 [.int .i64 (s.f i').params, .bool (s.f i').vararg, .int .i64 (s.f i').regs, v', .slice none 0 0, .slice none 0 0, .int .i64 (s.f i').kids, .string ⟨#[]⟩, .slice none 0 0, .slice none 0 0] ∧ (w'.setCell ⟨wz.heap.size + 1, 3, none⟩ v').ownsRow z0.heap.size 49 1 v' (j' + 1) (flat 1 (j' + 1) (iC .u32 (s.f i').code.f))) := by
              refine ⟨_, rfl, ⟨?_, ?_, ?_, ?_, fun c h1 h2 => ?_⟩, bY.set 3 _, ?_⟩
              · exact hgrow.os.trans on.os
              · exact (((Below.refl 0 w').setCell (p := ⟨wz.heap.size + 1, 3, none⟩) (Nat.zero_le _) _).tape.trans hgrow.tape).trans on.tape
              · exact (((Below.refl 0 w').setCell (p := ⟨wz.heap.size + 1, 3, none⟩) (Nat.zero_le _) _).output.trans hgrow.output).trans on.output
              · have h0 := on.size
                have h1 : (w'.setCell ⟨wz.heap.size + 1, 3, none⟩ (.slice (some ⟨g, 0, none⟩) (j' + 1) cap')).heap.size = w'.heap.size := by simp
                omega
              · rw [Below.heap_setCell _ _ _ _ h2, kW c h1, on.block c h1 h2]
              · refine ownsRow_keepG (w := w') ?_ fun g' hg' => Below.heap_setCell _ _ _ _ (by have := (hrow.lt g' hg').1; show g' ≠ wz.heap.size + 1; omega)
                rw [flat_succ _ _ (by omega)]
                simpa [iC, List.range_succ] using hrow
            replace hrow : Hid _ := hrow
            refine hK.out _ _ hH2 (fun _ => ?_)
            clear hK K
            try simp only [Act.put, List.setIfInBounds_toArray, List.set_cons_zero, List.set_cons_succ]
            refine take_dst 9 52 (.pointer (some ⟨wz.heap.size + 1, 3, none⟩)) rfl (by kernel_rfl) (by kernel_rfl) (by kernel_rfl) (fun _ _ _ h => h) (Or.inl ⟨by rfl, by intro wv hSv; (try dsimp only at hSv); go_simp⟩) hH2 rfl ?_
            try simp only [Act.put, List.setIfInBounds_toArray, List.set_cons_zero, List.set_cons_succ]
            refine wpAnyH_ready (rs := [10]) (by kernel_rfl) (by simp) ?_
            refine AllReadyH.cons rfl (fun K hK => ?_) AllReadyH.nil
            go_simp
            refine hK.out _ _ (hk.out _ ((Below.heap_setCell _ _ _ _ (by show wz.heap.size ≠ wz.heap.size + 1; omega)).trans (kW _ (by omega))) ((Below.heap_setCell _ _ _ _ (by show b3 ≠ wz.heap.size + 1; omega)).trans (kW _ hbz))) (fun _ => ?_)
            clear hK K
            try simp only [Act.put, List.setIfInBounds_toArray, List.set_cons_zero, List.set_cons_succ]
            refine wpAnyH_done (by kernel_rfl) ?_ _
            obtain ⟨v', rfl, n1, n2, n3⟩ := id hnew.out
            replace n1 : Hid _ := n1
            replace n2 : Hid _ := n2
            replace n3 : Hid _ := n3
            clear hnew hrow hgrow kW bY cY fY hH2 hk row on Rq
            go_wp2_with fail
            go_roundw
            case rel => exact ⟨j' + 1, rfl, by omega, _, n1.out, n2.out, n3.out⟩
            case measure => simp [intOf]; omega
        · have hje : j' = (s.f i').code.n := by omega
          subst hje
          obtain ⟨hs3, hs4, hs5, -, -⟩ := hs.2 i' hi'
          obtain ⟨B3, hO3, hR3⟩ := own_of_ownsRow row (by omega)
          obtain ⟨q3, d3, rfl, -, -⟩ := id hO3
          replace hO3 : Hid (OwnArr wr (.slice q3 ((s.f i').code.n) d3) 1 ((s.f i').code.n) (iC .u32 (s.f i').code.f) B3) := hO3
          replace hR3 : Hid (0 < (s.f i').code.n → z0.heap.size ≤ B3 ∧ B3 < wr.heap.size) := hR3
          replace RQ : RowL wr (wz.heap.size + 1) 61 [.int .i64 (s.f i').params, .bool (s.f i').vararg, .int .i64 (s.f i').regs, .slice q3 ((s.f i').code.n) d3, .slice none 0 0, .slice none 0 0, .int .i64 (s.f i').kids, .string ⟨#[]⟩, .slice none 0 0, .slice none 0 0] := Rq
          replace RP : Hid (RowL wr wz.heap.size 61 [.int .i64 (s.f i').params, .bool (s.f i').vararg, .int .i64 (s.f i').regs, .slice o3 (s.f i').code.n k3, .slice o4 (s.f i').consts.n k4, .slice o5 (s.f i').ups.n k5, .int .i64 (s.f i').kids, .string (s.f i').name, .slice o8 (s.f i').lines.n k8, .slice o9 (s.f i').upNames.n k9]) := RPj
          have kz1 : Hid (∀ c, c < wz.heap.size → wr.heap[c]? = wz.heap[c]?) := fun c hc => (on.block c (by omega) (by omega)).trans (kz0.out c hc)
          have szz1 := on.size
          have on3 : Hid (Only (wz.heap.size + 1) z0 wr) := on
          clear hJ row Rq RPj on hs3 hs4 hs5
          obtain ⟨z1, hwz⟩ : ∃ x, x = wr := ⟨_, rfl⟩
          subst hwz
          go_wp2_with fail
          go_loopw [8] (fun j wr => ∃ j' : Nat, j = .int .i64 (j' : Int) ∧ j' ≤ (s.f i').consts.n ∧ Hid (∃ v, Only (wz.heap.size + 1) z1 wr ∧ RowL wr (wz.heap.size + 1) 61 [.int .i64 (s.f i').params, .bool (s.f i').vararg, .int .i64 (s.f i').regs, .slice q3 (s.f i').code.n d3, v, .slice none 0 0, .int .i64 (s.f i').kids, .string ⟨#[]⟩, .slice none 0 0, .slice none 0 0] ∧ wr.ownsRow z1.heap.size 71 3 v j' (flat 3 j' (vC (s.f i').consts.f)))) (fun j _ => (s.f i').consts.n - (intOf j).toNat)
          case atStart => exact ⟨0, rfl, by omega, _, ⟨rfl, rfl, rfl, Nat.le_refl _, fun _ _ _ => rfl⟩, RQ, World.ownsRow_nil _ _ _ _⟩
          case round =>
            obtain ⟨j', rfl, hjn, hJ⟩ := hrel
            obtain ⟨v, on, Rq, row⟩ := id hJ.out
            have hPz : wr.heap[wz.heap.size]? = z1.heap[wz.heap.size]? := on.block _ (by omega) (by omega)
            have RPj : RowL wr wz.heap.size 61 [.int .i64 (s.f i').params, .bool (s.f i').vararg, .int .i64 (s.f i').regs, .slice o3 (s.f i').code.n k3, .slice o4 (s.f i').consts.n k4, .slice o5 (s.f i').ups.n k5, .int .i64 (s.f i').kids, .string (s.f i').name, .slice o8 (s.f i').lines.n k8, .slice o9 (s.f i').upNames.n k9] := World.rowIs.of_block RP.out hPz
            have rp := RPj.cell 4 rfl
            by_cases hj : j' < (s.f i').consts.n
            · have hjj : (j' : Int) < ((s.f i').consts.n : Int) := by omega
              obtain ⟨b4, f4, rfl, hbw, hccc⟩ := h4.out (by omega)
              have hbz : b4 < z1.heap.size := by omega
              have hbl : b4 < wr.heap.size := Nat.lt_of_lt_of_le hbz on.size
              have hQl : wz.heap.size + 1 < wr.heap.size := Rq.lt
              have hk : Hid (∀ z : World, z.heap[wz.heap.size]? = wr.heap[wz.heap.size]? → z.heap[b4]? = wr.heap[b4]? → (z.cell? ⟨wz.heap.size, 4, none⟩ = some (.slice (some ⟨b4, f4, none⟩) (s.f i').consts.n k4) ∧ z.cell? ⟨b4, f4 + j' * 3, none⟩ = some (.int .i64 ((s.f i').consts.f j').kind) ∧ z.cell? ⟨b4, f4 + j' * 3 + 1, none⟩ = some (.int .i64 ((s.f i').consts.f j').num) ∧ z.cell? ⟨b4, f4 + j' * 3 + 2, none⟩ = some (.string ((s.f i').consts.f j').text))) := fun z h1 h2 => by
                have hel : ∀ j, j < 3 → z.cell? ⟨b4, f4 + j' * 3 + j, none⟩ = some ((vC (s.f i').consts.f) j' j) := fun j hj' => by
                  rw [World.cell?_of_block (a := ⟨b4, f4 + j' * 3 + j, none⟩) (h2.trans ((on.block b4 hbz (by omega)).trans (kz1.out b4 hbw)))]
                  exact hccc j' hj j hj'
                exact ⟨(World.cell?_of_block (a := ⟨wz.heap.size, 4, none⟩) h1).trans rp, (by simpa [vC] using hel 0 (by omega)), (by simpa [vC] using hel 1 (by omega)), (by simpa [vC] using hel 2 (by omega))⟩
              obtain ⟨i0, hi, hz0, hz1, hz2⟩ := info_parts (show (Try.prog.info? 71).map (fun i => (i.zero, i.size, i.bytes)) = some (some (.agg #[.int .i64 0, .int .i64 0, .string ⟨#[]⟩]), 3, 32) by kernel_rfl)
              obtain ⟨hs3, hs4, hs5, -, -⟩ := hs.2 i' hi'
              clear hccc
              go_wp2_with fail
              refine wp_region_held_drew (S := fun z => z.cell? ⟨wz.heap.size, 4, none⟩ = some (.slice (some ⟨b4, f4, none⟩) (s.f i').consts.n k4) ∧ z.cell? ⟨b4, f4 + j' * 3, none⟩ = some (.int .i64 ((s.f i').consts.f j').kind) ∧ z.cell? ⟨b4, f4 + j' * 3 + 1, none⟩ = some (.int .i64 ((s.f i').consts.f j').num) ∧ z.cell? ⟨b4, f4 + j' * 3 + 2, none⟩ = some (.string ((s.f i').consts.f j').text)) (by kernel_rfl) (hk.out _ rfl rfl) (fun hHeld => ?_)
              have hd : Below wr.heap.size wr wr.drew := (Below.refl _ _).drew
              have hdz : wr.drew.heap.size = wr.heap.size := rfl
              generalize wr.drew = wd at hd hdz hHeld ⊢
              replace row := ownsRow_keepG row (fun g hg => hd.block g (row.lt g hg).2)
              replace hk : Hid (∀ z : World, z.heap[wz.heap.size]? = wd.heap[wz.heap.size]? → z.heap[b4]? = wd.heap[b4]? → (z.cell? ⟨wz.heap.size, 4, none⟩ = some (.slice (some ⟨b4, f4, none⟩) (s.f i').consts.n k4) ∧ z.cell? ⟨b4, f4 + j' * 3, none⟩ = some (.int .i64 ((s.f i').consts.f j').kind) ∧ z.cell? ⟨b4, f4 + j' * 3 + 1, none⟩ = some (.int .i64 ((s.f i').consts.f j').num) ∧ z.cell? ⟨b4, f4 + j' * 3 + 2, none⟩ = some (.string ((s.f i').consts.f j').text))) := fun z h1 h2 => hk.out z (h1.trans (hd.block _ (by omega))) (h2.trans (hd.block _ hbl))
              replace Rq := Rq.call hd
              replace on := on.trans (Only.of_below hd)
              replace hbl : b4 < wd.heap.size := by omega
              replace hQl : wz.heap.size + 1 < wd.heap.size := by omega
              clear hd hdz rp RPj hPz hJ
              refine take_dst 0 60 (.pointer (some ⟨wz.heap.size + 1, 4, none⟩)) rfl (by kernel_rfl) (by kernel_rfl) (by kernel_rfl) (fun _ _ _ h => h) (Or.inl ⟨by rfl, by intro wv hSv; (try dsimp only at hSv); go_simp⟩) hHeld rfl ?_
              try simp only [Act.put, List.setIfInBounds_toArray, List.set_cons_zero, List.set_cons_succ]
              refine take_dst 2 62 (.pointer (some ⟨wz.heap.size, 4, none⟩)) rfl (by kernel_rfl) (by kernel_rfl) (by kernel_rfl) (fun _ _ _ h => h) (Or.inl ⟨by rfl, by intro wv hSv; (try dsimp only at hSv); go_simp⟩) hHeld rfl ?_
              try simp only [Act.put, List.setIfInBounds_toArray, List.set_cons_zero, List.set_cons_succ]
              refine take_dst 3 63 (.slice (some ⟨b4, f4, none⟩) (s.f i').consts.n k4) rfl (by kernel_rfl) (by kernel_rfl) (by kernel_rfl) (fun _ _ _ h => h) (Or.inl ⟨by rfl, by intro wv hSv; (try dsimp only at hSv); go_simp⟩) hHeld rfl ?_
              try simp only [Act.put, List.setIfInBounds_toArray, List.set_cons_zero, List.set_cons_succ]
              refine take_dst 4 64 (.int .i64 (j' : Int)) rfl (by kernel_rfl) (by kernel_rfl) (by kernel_rfl) (fun _ _ _ h => h) (Or.inl ⟨by rfl, by intro wv hSv; (try dsimp only at hSv); go_simp⟩) hHeld rfl ?_
              try simp only [Act.put, List.setIfInBounds_toArray, List.set_cons_zero, List.set_cons_succ]
              refine take_dst 5 65 (.pointer (some ⟨b4, f4 + j' * 3, none⟩)) rfl (by kernel_rfl) (by kernel_rfl) (by kernel_rfl) (fun _ _ _ h => h) (Or.inl ⟨by rfl, by intro wv hSv; (try dsimp only at hSv); go_simp⟩) hHeld rfl ?_
              try simp only [Act.put, List.setIfInBounds_toArray, List.set_cons_zero, List.set_cons_succ]
              refine take_dst 6 66 (.agg #[.int .i64 ((s.f i').consts.f j').kind, .int .i64 ((s.f i').consts.f j').num, .string ((s.f i').consts.f j').text]) rfl (by kernel_rfl) (by kernel_rfl) (by kernel_rfl) (fun _ _ _ h => h) (Or.inl ⟨by rfl, by intro wv hSv; (try dsimp only at hSv); go_simp⟩) hHeld rfl ?_
              try simp only [Act.put, List.setIfInBounds_toArray, List.set_cons_zero, List.set_cons_succ]
              refine wpAnyH_ready (rs := [1, 7]) (by kernel_rfl) (by simp) ?_
              refine AllReadyH.cons rfl (fun K hK => ?_) (AllReadyH.cons rfl (fun K hK => ?_) AllReadyH.nil)
              · have cY := Rq.cell 4 rfl
                go_simp
                refine hK.out _ _ (hk.out _ rfl rfl) (fun _ => ?_)
                clear hK K
                try simp only [Act.put, List.setIfInBounds_toArray, List.set_cons_zero, List.set_cons_succ]
                refine wpAnyH_ready (rs := [7]) (by kernel_rfl) (by simp) ?_
                refine AllReadyH.cons rfl (fun K hK => ?_) AllReadyH.nil
                go_simp
                refine hK.out _ _ (hk.out _ (Below.heap_alloc _ _ _ (by show wz.heap.size < wd.heap.size; omega)) (Below.heap_alloc _ _ _ hbl)) (fun _ => ?_)
                clear hK K
                try simp only [Act.put, List.setIfInBounds_toArray, List.set_cons_zero, List.set_cons_succ]
                refine wpAnyH_ready (rs := [8]) (by kernel_rfl) (by simp) ?_
                refine AllReadyH.cons rfl (fun K hK => ?_) AllReadyH.nil
                refine step_append_lies _ rfl (.tmp 61) (.tmp 67) 56 rfl z1.heap.size 71 i0 _ 3 32 Try.underlying56 hi hz0 hz1 hz2 rfl (by decide) v j' (flat 3 j' (vC (s.f i').consts.f)) rfl
                  (ownsRow_keepG row fun g hg => Below.heap_alloc _ _ _ (row.lt g hg).2) ⟨wd.heap.size, 0, none⟩ 1 1 [.int .i64 ((s.f i').consts.f j').kind, .int .i64 ((s.f i').consts.f j').num, .string ((s.f i').consts.f j').text] rfl rfl
                  (World.news_of_block (World.alloc_heap_new wd _)) (by intro u hu; simp only [List.mem_cons, List.not_mem_nil, or_false] at hu; rcases hu with rfl | rfl | rfl <;> rfl) (by omega) (by simp only [maxLen]; omega) (by omega) (by simp only [World.size_alloc]; exact Nat.le_succ_of_le on.size) _ rfl ?_
                intro g cap' w' hrow hgrow hat hglt
                have sz2 := hgrow.size
                rw [World.size_alloc] at sz2
                replace sz2 : wd.heap.size + 1 ≤ w'.heap.size := sz2
                have kW : ∀ c, c < z1.heap.size → w'.heap[c]? = wd.heap[c]? := fun c h1 => by
                  have hcl : c < wd.heap.size := Nat.lt_of_lt_of_le h1 on.size
                  rw [hgrow.block c (by rw [World.size_alloc]; exact Nat.lt_succ_of_lt hcl) (fun e => by have := (row.lt c e.symm).1; omega), Below.heap_alloc _ _ _ hcl]
                have hH2 := hk.out w' (kW _ (by omega)) (kW _ hbz)
                have bY : RowL w' (wz.heap.size + 1) 61 [.int .i64 (s.f i').params, .bool (s.f i').vararg, .int .i64 (s.f i').regs, .slice q3 (s.f i').code.n d3, v, .slice none 0 0, .int .i64 (s.f i').kids, .string ⟨#[]⟩, .slice none 0 0, .slice none 0 0] := World.rowIs.of_block Rq (kW _ (by omega))
                have cY := bY.cell 4 rfl
                have fY := bY.frozen 4
                have hnew : Hid (∃ v', v' = Value.slice (some ⟨g, 0, none⟩) (j' + 1) cap' ∧ Only (wz.heap.size + 1) z1 (w'.setCell ⟨wz.heap.size + 1, 4, none⟩ v') ∧ RowL (w'.setCell ⟨wz.heap.size + 1, 4, none⟩ v') (wz.heap.size + 1) 61 [.int .i64 (s.f i').params, .bool (s.f i').vararg, .int .i64 (s.f i').regs, .slice q3 (s.f i').code.n d3, v', .slice none 0 0, .int .i64 (s.f i').kids, .string ⟨#[]⟩, .slice none 0 0, .slice none 0 0] ∧ (w'.setCell ⟨wz.heap.size + 1, 4, none⟩ v').ownsRow z1.heap.size 71 3 v' (j' + 1) (flat 3 (j' + 1) (vC (s.f i').consts.f))) := by
                  refine ⟨_, rfl, ⟨?_, ?_, ?_, ?_, fun c h1 h2 => ?_⟩, bY.set 4 _, ?_⟩
                  · exact hgrow.os.trans on.os
                  · exact (((Below.refl 0 w').setCell (p := ⟨wz.heap.size + 1, 4, none⟩) (Nat.zero_le _) _).tape.trans hgrow.tape).trans on.tape
                  · exact (((Below.refl 0 w').setCell (p := ⟨wz.heap.size + 1, 4, none⟩) (Nat.zero_le _) _).output.trans hgrow.output).trans on.output
                  · have h0 := on.size
                    have h1 : (w'.setCell ⟨wz.heap.size + 1, 4, none⟩ (.slice (some ⟨g, 0, none⟩) (j' + 1) cap')).heap.size = w'.heap.size := by simp
                    omega
                  · rw [Below.heap_setCell _ _ _ _ h2, kW c h1, on.block c h1 h2]
                  · refine ownsRow_keepG (w := w') ?_ fun g' hg' => Below.heap_setCell _ _ _ _ (by have := (hrow.lt g' hg').1; show g' ≠ wz.heap.size + 1; omega)
                    rw [flat_succ _ _ (by omega)]
                    simpa [vC, List.range_succ] using hrow
                replace hrow : Hid _ := hrow
                refine hK.out _ _ hH2 (fun _ => ?_)
                clear hK K
                try simp only [Act.put, List.setIfInBounds_toArray, List.set_cons_zero, List.set_cons_succ]
                refine take_dst 9 69 (.pointer (some ⟨wz.heap.size + 1, 4, none⟩)) rfl (by kernel_rfl) (by kernel_rfl) (by kernel_rfl) (fun _ _ _ h => h) (Or.inl ⟨by rfl, by intro wv hSv; (try dsimp only at hSv); go_simp⟩) hH2 rfl ?_
                try simp only [Act.put, List.setIfInBounds_toArray, List.set_cons_zero, List.set_cons_succ]
                refine wpAnyH_ready (rs := [10]) (by kernel_rfl) (by simp) ?_
                refine AllReadyH.cons rfl (fun K hK => ?_) AllReadyH.nil
                go_simp
                refine hK.out _ _ (hk.out _ ((Below.heap_setCell _ _ _ _ (by show wz.heap.size ≠ wz.heap.size + 1; omega)).trans (kW _ (by omega))) ((Below.heap_setCell _ _ _ _ (by show b4 ≠ wz.heap.size + 1; omega)).trans (kW _ hbz))) (fun _ => ?_)
                clear hK K
                try simp only [Act.put, List.setIfInBounds_toArray, List.set_cons_zero, List.set_cons_succ]
                refine wpAnyH_done (by kernel_rfl) ?_ _
                obtain ⟨v', rfl, n1, n2, n3⟩ := id hnew.out
                replace n1 : Hid _ := n1
                replace n2 : Hid _ := n2
                replace n3 : Hid _ := n3
                clear hnew hrow hgrow kW bY cY fY hH2 hk row on Rq
                go_wp2_with fail
                go_roundw
                case rel => exact ⟨j' + 1, rfl, by omega, _, n1.out, n2.out, n3.out⟩
                case measure => simp [intOf]; omega
              · go_simp
                refine hK.out _ _ (hk.out _ (Below.heap_alloc _ _ _ (by show wz.heap.size < wd.heap.size; omega)) (Below.heap_alloc _ _ _ hbl)) (fun _ => ?_)
                clear hK K
                try simp only [Act.put, List.setIfInBounds_toArray, List.set_cons_zero, List.set_cons_succ]
                refine wpAnyH_ready (rs := [1]) (by kernel_rfl) (by simp) ?_
                refine AllReadyH.cons rfl (fun K hK => ?_) AllReadyH.nil
                have cY : ∀ o, (wd.alloc o).cell? ⟨wz.heap.size + 1, 4, none⟩ = some v := fun o => (World.cell?_of_block (a := ⟨wz.heap.size + 1, 4, none⟩) (Below.heap_alloc _ _ _ hQl)).trans (Rq.cell 4 rfl)
                go_simp
                refine hK.out _ _ (hk.out _ (Below.heap_alloc _ _ _ (by show wz.heap.size < wd.heap.size; omega)) (Below.heap_alloc _ _ _ hbl)) (fun _ => ?_)
                clear hK K
                try simp only [Act.put, List.setIfInBounds_toArray, List.set_cons_zero, List.set_cons_succ]
                refine wpAnyH_ready (rs := [8]) (by kernel_rfl) (by simp) ?_
                refine AllReadyH.cons rfl (fun K hK => ?_) AllReadyH.nil
                refine step_append_lies _ rfl (.tmp 61) (.tmp 67) 56 rfl z1.heap.size 71 i0 _ 3 32 Try.underlying56 hi hz0 hz1 hz2 rfl (by decide) v j' (flat 3 j' (vC (s.f i').consts.f)) rfl
                  (ownsRow_keepG row fun g hg => Below.heap_alloc _ _ _ (row.lt g hg).2) ⟨wd.heap.size, 0, none⟩ 1 1 [.int .i64 ((s.f i').consts.f j').kind, .int .i64 ((s.f i').consts.f j').num, .string ((s.f i').consts.f j').text] rfl rfl
                  (World.news_of_block (World.alloc_heap_new wd _)) (by intro u hu; simp only [List.mem_cons, List.not_mem_nil, or_false] at hu; rcases hu with rfl | rfl | rfl <;> rfl) (by omega) (by simp only [maxLen]; omega) (by omega) (by simp only [World.size_alloc]; exact Nat.le_succ_of_le on.size) _ rfl ?_
                intro g cap' w' hrow hgrow hat hglt
                have sz2 := hgrow.size
                rw [World.size_alloc] at sz2
                replace sz2 : wd.heap.size + 1 ≤ w'.heap.size := sz2
                have kW : ∀ c, c < z1.heap.size → w'.heap[c]? = wd.heap[c]? := fun c h1 => by
                  have hcl : c < wd.heap.size := Nat.lt_of_lt_of_le h1 on.size
                  rw [hgrow.block c (by rw [World.size_alloc]; exact Nat.lt_succ_of_lt hcl) (fun e => by have := (row.lt c e.symm).1; omega), Below.heap_alloc _ _ _ hcl]
                have hH2 := hk.out w' (kW _ (by omega)) (kW _ hbz)
                have bY : RowL w' (wz.heap.size + 1) 61 [.int .i64 (s.f i').params, .bool (s.f i').vararg, .int .i64 (s.f i').regs, .slice q3 (s.f i').code.n d3, v, .slice none 0 0, .int .i64 (s.f i').kids, .string ⟨#[]⟩, .slice none 0 0, .slice none 0 0] := World.rowIs.of_block Rq (kW _ (by omega))
                have cY := bY.cell 4 rfl
                have fY := bY.frozen 4
                have hnew : Hid (∃ v', v' = Value.slice (some ⟨g, 0, none⟩) (j' + 1) cap' ∧ Only (wz.heap.size + 1) z1 (w'.setCell ⟨wz.heap.size + 1, 4, none⟩ v') ∧ RowL (w'.setCell ⟨wz.heap.size + 1, 4, none⟩ v') (wz.heap.size + 1) 61 [.int .i64 (s.f i').params, .bool (s.f i').vararg, .int .i64 (s.f i').regs, .slice q3 (s.f i').code.n d3, v', .slice none 0 0, .int .i64 (s.f i').kids, .string ⟨#[]⟩, .slice none 0 0, .slice none 0 0] ∧ (w'.setCell ⟨wz.heap.size + 1, 4, none⟩ v').ownsRow z1.heap.size 71 3 v' (j' + 1) (flat 3 (j' + 1) (vC (s.f i').consts.f))) := by
                  refine ⟨_, rfl, ⟨?_, ?_, ?_, ?_, fun c h1 h2 => ?_⟩, bY.set 4 _, ?_⟩
                  · exact hgrow.os.trans on.os
                  · exact (((Below.refl 0 w').setCell (p := ⟨wz.heap.size + 1, 4, none⟩) (Nat.zero_le _) _).tape.trans hgrow.tape).trans on.tape
                  · exact (((Below.refl 0 w').setCell (p := ⟨wz.heap.size + 1, 4, none⟩) (Nat.zero_le _) _).output.trans hgrow.output).trans on.output
                  · have h0 := on.size
                    have h1 : (w'.setCell ⟨wz.heap.size + 1, 4, none⟩ (.slice (some ⟨g, 0, none⟩) (j' + 1) cap')).heap.size = w'.heap.size := by simp
                    omega
                  · rw [Below.heap_setCell _ _ _ _ h2, kW c h1, on.block c h1 h2]
                  · refine ownsRow_keepG (w := w') ?_ fun g' hg' => Below.heap_setCell _ _ _ _ (by have := (hrow.lt g' hg').1; show g' ≠ wz.heap.size + 1; omega)
                    rw [flat_succ _ _ (by omega)]
                    simpa [vC, List.range_succ] using hrow
                replace hrow : Hid _ := hrow
                refine hK.out _ _ hH2 (fun _ => ?_)
                clear hK K
                try simp only [Act.put, List.setIfInBounds_toArray, List.set_cons_zero, List.set_cons_succ]
                refine take_dst 9 69 (.pointer (some ⟨wz.heap.size + 1, 4, none⟩)) rfl (by kernel_rfl) (by kernel_rfl) (by kernel_rfl) (fun _ _ _ h => h) (Or.inl ⟨by rfl, by intro wv hSv; (try dsimp only at hSv); go_simp⟩) hH2 rfl ?_
                try simp only [Act.put, List.setIfInBounds_toArray, List.set_cons_zero, List.set_cons_succ]
                refine wpAnyH_ready (rs := [10]) (by kernel_rfl) (by simp) ?_
                refine AllReadyH.cons rfl (fun K hK => ?_) AllReadyH.nil
                go_simp
                refine hK.out _ _ (hk.out _ ((Below.heap_setCell _ _ _ _ (by show wz.heap.size ≠ wz.heap.size + 1; omega)).trans (kW _ (by omega))) ((Below.heap_setCell _ _ _ _ (by show b4 ≠ wz.heap.size + 1; omega)).trans (kW _ hbz))) (fun _ => ?_)
                clear hK K
                try simp only [Act.put, List.setIfInBounds_toArray, List.set_cons_zero, List.set_cons_succ]
                refine wpAnyH_done (by kernel_rfl) ?_ _
                obtain ⟨v', rfl, n1, n2, n3⟩ := id hnew.out
                replace n1 : Hid _ := n1
                replace n2 : Hid _ := n2
                replace n3 : Hid _ := n3
                clear hnew hrow hgrow kW bY cY fY hH2 hk row on Rq
                go_wp2_with fail
                go_roundw
                case rel => exact ⟨j' + 1, rfl, by omega, _, n1.out, n2.out, n3.out⟩
                case measure => simp [intOf]; omega
            · have hje : j' = (s.f i').consts.n := by omega
              subst hje
              obtain ⟨hs3, hs4, hs5, -, -⟩ := hs.2 i' hi'
              obtain ⟨B4, hO4, hR4⟩ := own_of_ownsRow row (by omega)
              obtain ⟨q4, d4, rfl, -, -⟩ := id hO4
              replace hO4 : Hid (OwnArr wr (.slice q4 ((s.f i').consts.n) d4) 3 ((s.f i').consts.n) (vC (s.f i').consts.f) B4) := hO4
              replace hR4 : Hid (0 < (s.f i').consts.n → z1.heap.size ≤ B4 ∧ B4 < wr.heap.size) := hR4
              replace RQ : RowL wr (wz.heap.size + 1) 61 [.int .i64 (s.f i').params, .bool (s.f i').vararg, .int .i64 (s.f i').regs, .slice q3 ((s.f i').code.n) d3, .slice q4 ((s.f i').consts.n) d4, .slice none 0 0, .int .i64 (s.f i').kids, .string ⟨#[]⟩, .slice none 0 0, .slice none 0 0] := Rq
              replace RP : Hid (RowL wr wz.heap.size 61 [.int .i64 (s.f i').params, .bool (s.f i').vararg, .int .i64 (s.f i').regs, .slice o3 (s.f i').code.n k3, .slice o4 (s.f i').consts.n k4, .slice o5 (s.f i').ups.n k5, .int .i64 (s.f i').kids, .string (s.f i').name, .slice o8 (s.f i').lines.n k8, .slice o9 (s.f i').upNames.n k9]) := RPj
              have kz2 : Hid (∀ c, c < wz.heap.size → wr.heap[c]? = wz.heap[c]?) := fun c hc => (on.block c (by omega) (by omega)).trans (kz1.out c hc)
              have szz2 := on.size
              have on4 : Hid (Only (wz.heap.size + 1) z1 wr) := on
              clear hJ row Rq RPj on hs3 hs4 hs5
              obtain ⟨z2, hwz⟩ : ∃ x, x = wr := ⟨_, rfl⟩
              subst hwz
              go_wp2_with fail
              go_loopw [9] (fun j wr => ∃ j' : Nat, j = .int .i64 (j' : Int) ∧ j' ≤ (s.f i').ups.n ∧ Hid (∃ v, Only (wz.heap.size + 1) z2 wr ∧ RowL wr (wz.heap.size + 1) 61 [.int .i64 (s.f i').params, .bool (s.f i').vararg, .int .i64 (s.f i').regs, .slice q3 (s.f i').code.n d3, .slice q4 (s.f i').consts.n d4, v, .int .i64 (s.f i').kids, .string ⟨#[]⟩, .slice none 0 0, .slice none 0 0] ∧ wr.ownsRow z2.heap.size 73 2 v j' (flat 2 j' (uC (s.f i').ups.f)))) (fun j _ => (s.f i').ups.n - (intOf j).toNat)
              case atStart => exact ⟨0, rfl, by omega, _, ⟨rfl, rfl, rfl, Nat.le_refl _, fun _ _ _ => rfl⟩, RQ, World.ownsRow_nil _ _ _ _⟩
              case round =>
                obtain ⟨j', rfl, hjn, hJ⟩ := hrel
                obtain ⟨v, on, Rq, row⟩ := id hJ.out
                have hPz : wr.heap[wz.heap.size]? = z2.heap[wz.heap.size]? := on.block _ (by omega) (by omega)
                have RPj : RowL wr wz.heap.size 61 [.int .i64 (s.f i').params, .bool (s.f i').vararg, .int .i64 (s.f i').regs, .slice o3 (s.f i').code.n k3, .slice o4 (s.f i').consts.n k4, .slice o5 (s.f i').ups.n k5, .int .i64 (s.f i').kids, .string (s.f i').name, .slice o8 (s.f i').lines.n k8, .slice o9 (s.f i').upNames.n k9] := World.rowIs.of_block RP.out hPz
                have rp := RPj.cell 5 rfl
                by_cases hj : j' < (s.f i').ups.n
                · have hjj : (j' : Int) < ((s.f i').ups.n : Int) := by omega
                  obtain ⟨b5, f5, rfl, hbw, hccc⟩ := h5.out (by omega)
                  have hbz : b5 < z2.heap.size := by omega
                  have hbl : b5 < wr.heap.size := Nat.lt_of_lt_of_le hbz on.size
                  have hQl : wz.heap.size + 1 < wr.heap.size := Rq.lt
                  have hk : Hid (∀ z : World, z.heap[wz.heap.size]? = wr.heap[wz.heap.size]? → z.heap[b5]? = wr.heap[b5]? → (z.cell? ⟨wz.heap.size, 5, none⟩ = some (.slice (some ⟨b5, f5, none⟩) (s.f i').ups.n k5) ∧ z.cell? ⟨b5, f5 + j' * 2, none⟩ = some (.bool ((s.f i').ups.f j').stack) ∧ z.cell? ⟨b5, f5 + j' * 2 + 1, none⟩ = some (.int .i64 ((s.f i').ups.f j').index))) := fun z h1 h2 => by
                    have hel : ∀ j, j < 2 → z.cell? ⟨b5, f5 + j' * 2 + j, none⟩ = some ((uC (s.f i').ups.f) j' j) := fun j hj' => by
                      rw [World.cell?_of_block (a := ⟨b5, f5 + j' * 2 + j, none⟩) (h2.trans ((on.block b5 hbz (by omega)).trans (kz2.out b5 hbw)))]
                      exact hccc j' hj j hj'
                    exact ⟨(World.cell?_of_block (a := ⟨wz.heap.size, 5, none⟩) h1).trans rp, (by simpa [uC] using hel 0 (by omega)), (by simpa [uC] using hel 1 (by omega))⟩
                  obtain ⟨i0, hi, hz0, hz1, hz2⟩ := info_parts (show (Try.prog.info? 73).map (fun i => (i.zero, i.size, i.bytes)) = some (some (.agg #[.bool false, .int .i64 0]), 2, 16) by kernel_rfl)
                  obtain ⟨hs3, hs4, hs5, -, -⟩ := hs.2 i' hi'
                  clear hccc
                  go_wp2_with fail
                  refine wp_region_held_drew (S := fun z => z.cell? ⟨wz.heap.size, 5, none⟩ = some (.slice (some ⟨b5, f5, none⟩) (s.f i').ups.n k5) ∧ z.cell? ⟨b5, f5 + j' * 2, none⟩ = some (.bool ((s.f i').ups.f j').stack) ∧ z.cell? ⟨b5, f5 + j' * 2 + 1, none⟩ = some (.int .i64 ((s.f i').ups.f j').index)) (by kernel_rfl) (hk.out _ rfl rfl) (fun hHeld => ?_)
                  have hd : Below wr.heap.size wr wr.drew := (Below.refl _ _).drew
                  have hdz : wr.drew.heap.size = wr.heap.size := rfl
                  generalize wr.drew = wd at hd hdz hHeld ⊢
                  replace row := ownsRow_keepG row (fun g hg => hd.block g (row.lt g hg).2)
                  replace hk : Hid (∀ z : World, z.heap[wz.heap.size]? = wd.heap[wz.heap.size]? → z.heap[b5]? = wd.heap[b5]? → (z.cell? ⟨wz.heap.size, 5, none⟩ = some (.slice (some ⟨b5, f5, none⟩) (s.f i').ups.n k5) ∧ z.cell? ⟨b5, f5 + j' * 2, none⟩ = some (.bool ((s.f i').ups.f j').stack) ∧ z.cell? ⟨b5, f5 + j' * 2 + 1, none⟩ = some (.int .i64 ((s.f i').ups.f j').index))) := fun z h1 h2 => hk.out z (h1.trans (hd.block _ (by omega))) (h2.trans (hd.block _ hbl))
                  replace Rq := Rq.call hd
                  replace on := on.trans (Only.of_below hd)
                  replace hbl : b5 < wd.heap.size := by omega
                  replace hQl : wz.heap.size + 1 < wd.heap.size := by omega
                  clear hd hdz rp RPj hPz hJ
                  refine take_dst 0 77 (.pointer (some ⟨wz.heap.size + 1, 5, none⟩)) rfl (by kernel_rfl) (by kernel_rfl) (by kernel_rfl) (fun _ _ _ h => h) (Or.inl ⟨by rfl, by intro wv hSv; (try dsimp only at hSv); go_simp⟩) hHeld rfl ?_
                  try simp only [Act.put, List.setIfInBounds_toArray, List.set_cons_zero, List.set_cons_succ]
                  refine take_dst 2 79 (.pointer (some ⟨wz.heap.size, 5, none⟩)) rfl (by kernel_rfl) (by kernel_rfl) (by kernel_rfl) (fun _ _ _ h => h) (Or.inl ⟨by rfl, by intro wv hSv; (try dsimp only at hSv); go_simp⟩) hHeld rfl ?_
                  try simp only [Act.put, List.setIfInBounds_toArray, List.set_cons_zero, List.set_cons_succ]
                  refine take_dst 3 80 (.slice (some ⟨b5, f5, none⟩) (s.f i').ups.n k5) rfl (by kernel_rfl) (by kernel_rfl) (by kernel_rfl) (fun _ _ _ h => h) (Or.inl ⟨by rfl, by intro wv hSv; (try dsimp only at hSv); go_simp⟩) hHeld rfl ?_
                  try simp only [Act.put, List.setIfInBounds_toArray, List.set_cons_zero, List.set_cons_succ]
                  refine take_dst 4 81 (.int .i64 (j' : Int)) rfl (by kernel_rfl) (by kernel_rfl) (by kernel_rfl) (fun _ _ _ h => h) (Or.inl ⟨by rfl, by intro wv hSv; (try dsimp only at hSv); go_simp⟩) hHeld rfl ?_
                  try simp only [Act.put, List.setIfInBounds_toArray, List.set_cons_zero, List.set_cons_succ]
                  refine take_dst 5 82 (.pointer (some ⟨b5, f5 + j' * 2, none⟩)) rfl (by kernel_rfl) (by kernel_rfl) (by kernel_rfl) (fun _ _ _ h => h) (Or.inl ⟨by rfl, by intro wv hSv; (try dsimp only at hSv); go_simp⟩) hHeld rfl ?_
                  try simp only [Act.put, List.setIfInBounds_toArray, List.set_cons_zero, List.set_cons_succ]
                  refine take_dst 6 83 (.agg #[.bool ((s.f i').ups.f j').stack, .int .i64 ((s.f i').ups.f j').index]) rfl (by kernel_rfl) (by kernel_rfl) (by kernel_rfl) (fun _ _ _ h => h) (Or.inl ⟨by rfl, by intro wv hSv; (try dsimp only at hSv); go_simp⟩) hHeld rfl ?_
                  try simp only [Act.put, List.setIfInBounds_toArray, List.set_cons_zero, List.set_cons_succ]
                  refine wpAnyH_ready (rs := [1, 7]) (by kernel_rfl) (by simp) ?_
                  refine AllReadyH.cons rfl (fun K hK => ?_) (AllReadyH.cons rfl (fun K hK => ?_) AllReadyH.nil)
                  · have cY := Rq.cell 5 rfl
                    go_simp
                    refine hK.out _ _ (hk.out _ rfl rfl) (fun _ => ?_)
                    clear hK K
                    try simp only [Act.put, List.setIfInBounds_toArray, List.set_cons_zero, List.set_cons_succ]
                    refine wpAnyH_ready (rs := [7]) (by kernel_rfl) (by simp) ?_
                    refine AllReadyH.cons rfl (fun K hK => ?_) AllReadyH.nil
                    go_simp
                    refine hK.out _ _ (hk.out _ (Below.heap_alloc _ _ _ (by show wz.heap.size < wd.heap.size; omega)) (Below.heap_alloc _ _ _ hbl)) (fun _ => ?_)
                    clear hK K
                    try simp only [Act.put, List.setIfInBounds_toArray, List.set_cons_zero, List.set_cons_succ]
                    refine wpAnyH_ready (rs := [8]) (by kernel_rfl) (by simp) ?_
                    refine AllReadyH.cons rfl (fun K hK => ?_) AllReadyH.nil
                    refine step_append_lies _ rfl (.tmp 78) (.tmp 84) 57 rfl z2.heap.size 73 i0 _ 2 16 Try.underlying57 hi hz0 hz1 hz2 rfl (by decide) v j' (flat 2 j' (uC (s.f i').ups.f)) rfl
                      (ownsRow_keepG row fun g hg => Below.heap_alloc _ _ _ (row.lt g hg).2) ⟨wd.heap.size, 0, none⟩ 1 1 [.bool ((s.f i').ups.f j').stack, .int .i64 ((s.f i').ups.f j').index] rfl rfl
                      (World.news_of_block (World.alloc_heap_new wd _)) (by intro u hu; simp only [List.mem_cons, List.not_mem_nil, or_false] at hu; rcases hu with rfl | rfl <;> rfl) (by omega) (by simp only [maxLen]; omega) (by omega) (by simp only [World.size_alloc]; exact Nat.le_succ_of_le on.size) _ rfl ?_
                    intro g cap' w' hrow hgrow hat hglt
                    have sz2 := hgrow.size
                    rw [World.size_alloc] at sz2
                    replace sz2 : wd.heap.size + 1 ≤ w'.heap.size := sz2
                    have kW : ∀ c, c < z2.heap.size → w'.heap[c]? = wd.heap[c]? := fun c h1 => by
                      have hcl : c < wd.heap.size := Nat.lt_of_lt_of_le h1 on.size
                      rw [hgrow.block c (by rw [World.size_alloc]; exact Nat.lt_succ_of_lt hcl) (fun e => by have := (row.lt c e.symm).1; omega), Below.heap_alloc _ _ _ hcl]
                    have hH2 := hk.out w' (kW _ (by omega)) (kW _ hbz)
                    have bY : RowL w' (wz.heap.size + 1) 61 [.int .i64 (s.f i').params, .bool (s.f i').vararg, .int .i64 (s.f i').regs, .slice q3 (s.f i').code.n d3, .slice q4 (s.f i').consts.n d4, v, .int .i64 (s.f i').kids, .string ⟨#[]⟩, .slice none 0 0, .slice none 0 0] := World.rowIs.of_block Rq (kW _ (by omega))
                    have cY := bY.cell 5 rfl
                    have fY := bY.frozen 5
                    have hnew : Hid (∃ v', v' = Value.slice (some ⟨g, 0, none⟩) (j' + 1) cap' ∧ Only (wz.heap.size + 1) z2 (w'.setCell ⟨wz.heap.size + 1, 5, none⟩ v') ∧ RowL (w'.setCell ⟨wz.heap.size + 1, 5, none⟩ v') (wz.heap.size + 1) 61 [.int .i64 (s.f i').params, .bool (s.f i').vararg, .int .i64 (s.f i').regs, .slice q3 (s.f i').code.n d3, .slice q4 (s.f i').consts.n d4, v', .int .i64 (s.f i').kids, .string ⟨#[]⟩, .slice none 0 0, .slice none 0 0] ∧ (w'.setCell ⟨wz.heap.size + 1, 5, none⟩ v').ownsRow z2.heap.size 73 2 v' (j' + 1) (flat 2 (j' + 1) (uC (s.f i').ups.f))) := by
                      refine ⟨_, rfl, ⟨?_, ?_, ?_, ?_, fun c h1 h2 => ?_⟩, bY.set 5 _, ?_⟩
                      · exact hgrow.os.trans on.os
                      · exact (((Below.refl 0 w').setCell (p := ⟨wz.heap.size + 1, 5, none⟩) (Nat.zero_le _) _).tape.trans hgrow.tape).trans on.tape
                      · exact (((Below.refl 0 w').setCell (p := ⟨wz.heap.size + 1, 5, none⟩) (Nat.zero_le _) _).output.trans hgrow.output).trans on.output
                      · have h0 := on.size
                        have h1 : (w'.setCell ⟨wz.heap.size + 1, 5, none⟩ (.slice (some ⟨g, 0, none⟩) (j' + 1) cap')).heap.size = w'.heap.size := by simp
                        omega
                      · rw [Below.heap_setCell _ _ _ _ h2, kW c h1, on.block c h1 h2]
                      · refine ownsRow_keepG (w := w') ?_ fun g' hg' => Below.heap_setCell _ _ _ _ (by have := (hrow.lt g' hg').1; show g' ≠ wz.heap.size + 1; omega)
                        rw [flat_succ _ _ (by omega)]
                        simpa [uC, List.range_succ] using hrow
                    replace hrow : Hid _ := hrow
                    refine hK.out _ _ hH2 (fun _ => ?_)
                    clear hK K
                    try simp only [Act.put, List.setIfInBounds_toArray, List.set_cons_zero, List.set_cons_succ]
                    refine take_dst 9 86 (.pointer (some ⟨wz.heap.size + 1, 5, none⟩)) rfl (by kernel_rfl) (by kernel_rfl) (by kernel_rfl) (fun _ _ _ h => h) (Or.inl ⟨by rfl, by intro wv hSv; (try dsimp only at hSv); go_simp⟩) hH2 rfl ?_
                    try simp only [Act.put, List.setIfInBounds_toArray, List.set_cons_zero, List.set_cons_succ]
                    refine wpAnyH_ready (rs := [10]) (by kernel_rfl) (by simp) ?_
                    refine AllReadyH.cons rfl (fun K hK => ?_) AllReadyH.nil
                    go_simp
                    refine hK.out _ _ (hk.out _ ((Below.heap_setCell _ _ _ _ (by show wz.heap.size ≠ wz.heap.size + 1; omega)).trans (kW _ (by omega))) ((Below.heap_setCell _ _ _ _ (by show b5 ≠ wz.heap.size + 1; omega)).trans (kW _ hbz))) (fun _ => ?_)
                    clear hK K
                    try simp only [Act.put, List.setIfInBounds_toArray, List.set_cons_zero, List.set_cons_succ]
                    refine wpAnyH_done (by kernel_rfl) ?_ _
                    obtain ⟨v', rfl, n1, n2, n3⟩ := id hnew.out
                    replace n1 : Hid _ := n1
                    replace n2 : Hid _ := n2
                    replace n3 : Hid _ := n3
                    clear hnew hrow hgrow kW bY cY fY hH2 hk row on Rq
                    go_wp2_with fail
                    go_roundw
                    case rel => exact ⟨j' + 1, rfl, by omega, _, n1.out, n2.out, n3.out⟩
                    case measure => simp [intOf]; omega
                  · go_simp
                    refine hK.out _ _ (hk.out _ (Below.heap_alloc _ _ _ (by show wz.heap.size < wd.heap.size; omega)) (Below.heap_alloc _ _ _ hbl)) (fun _ => ?_)
                    clear hK K
                    try simp only [Act.put, List.setIfInBounds_toArray, List.set_cons_zero, List.set_cons_succ]
                    refine wpAnyH_ready (rs := [1]) (by kernel_rfl) (by simp) ?_
                    refine AllReadyH.cons rfl (fun K hK => ?_) AllReadyH.nil
                    have cY : ∀ o, (wd.alloc o).cell? ⟨wz.heap.size + 1, 5, none⟩ = some v := fun o => (World.cell?_of_block (a := ⟨wz.heap.size + 1, 5, none⟩) (Below.heap_alloc _ _ _ hQl)).trans (Rq.cell 5 rfl)
                    go_simp
                    refine hK.out _ _ (hk.out _ (Below.heap_alloc _ _ _ (by show wz.heap.size < wd.heap.size; omega)) (Below.heap_alloc _ _ _ hbl)) (fun _ => ?_)
                    clear hK K
                    try simp only [Act.put, List.setIfInBounds_toArray, List.set_cons_zero, List.set_cons_succ]
                    refine wpAnyH_ready (rs := [8]) (by kernel_rfl) (by simp) ?_
                    refine AllReadyH.cons rfl (fun K hK => ?_) AllReadyH.nil
                    refine step_append_lies _ rfl (.tmp 78) (.tmp 84) 57 rfl z2.heap.size 73 i0 _ 2 16 Try.underlying57 hi hz0 hz1 hz2 rfl (by decide) v j' (flat 2 j' (uC (s.f i').ups.f)) rfl
                      (ownsRow_keepG row fun g hg => Below.heap_alloc _ _ _ (row.lt g hg).2) ⟨wd.heap.size, 0, none⟩ 1 1 [.bool ((s.f i').ups.f j').stack, .int .i64 ((s.f i').ups.f j').index] rfl rfl
                      (World.news_of_block (World.alloc_heap_new wd _)) (by intro u hu; simp only [List.mem_cons, List.not_mem_nil, or_false] at hu; rcases hu with rfl | rfl <;> rfl) (by omega) (by simp only [maxLen]; omega) (by omega) (by simp only [World.size_alloc]; exact Nat.le_succ_of_le on.size) _ rfl ?_
                    intro g cap' w' hrow hgrow hat hglt
                    have sz2 := hgrow.size
                    rw [World.size_alloc] at sz2
                    replace sz2 : wd.heap.size + 1 ≤ w'.heap.size := sz2
                    have kW : ∀ c, c < z2.heap.size → w'.heap[c]? = wd.heap[c]? := fun c h1 => by
                      have hcl : c < wd.heap.size := Nat.lt_of_lt_of_le h1 on.size
                      rw [hgrow.block c (by rw [World.size_alloc]; exact Nat.lt_succ_of_lt hcl) (fun e => by have := (row.lt c e.symm).1; omega), Below.heap_alloc _ _ _ hcl]
                    have hH2 := hk.out w' (kW _ (by omega)) (kW _ hbz)
                    have bY : RowL w' (wz.heap.size + 1) 61 [.int .i64 (s.f i').params, .bool (s.f i').vararg, .int .i64 (s.f i').regs, .slice q3 (s.f i').code.n d3, .slice q4 (s.f i').consts.n d4, v, .int .i64 (s.f i').kids, .string ⟨#[]⟩, .slice none 0 0, .slice none 0 0] := World.rowIs.of_block Rq (kW _ (by omega))
                    have cY := bY.cell 5 rfl
                    have fY := bY.frozen 5
                    have hnew : Hid (∃ v', v' = Value.slice (some ⟨g, 0, none⟩) (j' + 1) cap' ∧ Only (wz.heap.size + 1) z2 (w'.setCell ⟨wz.heap.size + 1, 5, none⟩ v') ∧ RowL (w'.setCell ⟨wz.heap.size + 1, 5, none⟩ v') (wz.heap.size + 1) 61 [.int .i64 (s.f i').params, .bool (s.f i').vararg, .int .i64 (s.f i').regs, .slice q3 (s.f i').code.n d3, .slice q4 (s.f i').consts.n d4, v', .int .i64 (s.f i').kids, .string ⟨#[]⟩, .slice none 0 0, .slice none 0 0] ∧ (w'.setCell ⟨wz.heap.size + 1, 5, none⟩ v').ownsRow z2.heap.size 73 2 v' (j' + 1) (flat 2 (j' + 1) (uC (s.f i').ups.f))) := by
                      refine ⟨_, rfl, ⟨?_, ?_, ?_, ?_, fun c h1 h2 => ?_⟩, bY.set 5 _, ?_⟩
                      · exact hgrow.os.trans on.os
                      · exact (((Below.refl 0 w').setCell (p := ⟨wz.heap.size + 1, 5, none⟩) (Nat.zero_le _) _).tape.trans hgrow.tape).trans on.tape
                      · exact (((Below.refl 0 w').setCell (p := ⟨wz.heap.size + 1, 5, none⟩) (Nat.zero_le _) _).output.trans hgrow.output).trans on.output
                      · have h0 := on.size
                        have h1 : (w'.setCell ⟨wz.heap.size + 1, 5, none⟩ (.slice (some ⟨g, 0, none⟩) (j' + 1) cap')).heap.size = w'.heap.size := by simp
                        omega
                      · rw [Below.heap_setCell _ _ _ _ h2, kW c h1, on.block c h1 h2]
                      · refine ownsRow_keepG (w := w') ?_ fun g' hg' => Below.heap_setCell _ _ _ _ (by have := (hrow.lt g' hg').1; show g' ≠ wz.heap.size + 1; omega)
                        rw [flat_succ _ _ (by omega)]
                        simpa [uC, List.range_succ] using hrow
                    replace hrow : Hid _ := hrow
                    refine hK.out _ _ hH2 (fun _ => ?_)
                    clear hK K
                    try simp only [Act.put, List.setIfInBounds_toArray, List.set_cons_zero, List.set_cons_succ]
                    refine take_dst 9 86 (.pointer (some ⟨wz.heap.size + 1, 5, none⟩)) rfl (by kernel_rfl) (by kernel_rfl) (by kernel_rfl) (fun _ _ _ h => h) (Or.inl ⟨by rfl, by intro wv hSv; (try dsimp only at hSv); go_simp⟩) hH2 rfl ?_
                    try simp only [Act.put, List.setIfInBounds_toArray, List.set_cons_zero, List.set_cons_succ]
                    refine wpAnyH_ready (rs := [10]) (by kernel_rfl) (by simp) ?_
                    refine AllReadyH.cons rfl (fun K hK => ?_) AllReadyH.nil
                    go_simp
                    refine hK.out _ _ (hk.out _ ((Below.heap_setCell _ _ _ _ (by show wz.heap.size ≠ wz.heap.size + 1; omega)).trans (kW _ (by omega))) ((Below.heap_setCell _ _ _ _ (by show b5 ≠ wz.heap.size + 1; omega)).trans (kW _ hbz))) (fun _ => ?_)
                    clear hK K
                    try simp only [Act.put, List.setIfInBounds_toArray, List.set_cons_zero, List.set_cons_succ]
                    refine wpAnyH_done (by kernel_rfl) ?_ _
                    obtain ⟨v', rfl, n1, n2, n3⟩ := id hnew.out
                    replace n1 : Hid _ := n1
                    replace n2 : Hid _ := n2
                    replace n3 : Hid _ := n3
                    clear hnew hrow hgrow kW bY cY fY hH2 hk row on Rq
                    go_wp2_with fail
                    go_roundw
                    case rel => exact ⟨j' + 1, rfl, by omega, _, n1.out, n2.out, n3.out⟩
                    case measure => simp [intOf]; omega
                · have hje : j' = (s.f i').ups.n := by omega
                  subst hje
                  obtain ⟨hs3, hs4, hs5, -, -⟩ := hs.2 i' hi'
                  obtain ⟨B5, hO5, hR5⟩ := own_of_ownsRow row (by omega)
                  obtain ⟨q5, d5, rfl, -, -⟩ := id hO5
                  replace hO5 : Hid (OwnArr wr (.slice q5 ((s.f i').ups.n) d5) 2 ((s.f i').ups.n) (uC (s.f i').ups.f) B5) := hO5
                  replace hR5 : Hid (0 < (s.f i').ups.n → z2.heap.size ≤ B5 ∧ B5 < wr.heap.size) := hR5
                  replace RQ : RowL wr (wz.heap.size + 1) 61 [.int .i64 (s.f i').params, .bool (s.f i').vararg, .int .i64 (s.f i').regs, .slice q3 ((s.f i').code.n) d3, .slice q4 ((s.f i').consts.n) d4, .slice q5 ((s.f i').ups.n) d5, .int .i64 (s.f i').kids, .string ⟨#[]⟩, .slice none 0 0, .slice none 0 0] := Rq
                  replace RP : Hid (RowL wr wz.heap.size 61 [.int .i64 (s.f i').params, .bool (s.f i').vararg, .int .i64 (s.f i').regs, .slice o3 (s.f i').code.n k3, .slice o4 (s.f i').consts.n k4, .slice o5 (s.f i').ups.n k5, .int .i64 (s.f i').kids, .string (s.f i').name, .slice o8 (s.f i').lines.n k8, .slice o9 (s.f i').upNames.n k9]) := RPj
                  have kz3 : Hid (∀ c, c < wz.heap.size → wr.heap[c]? = wz.heap[c]?) := fun c hc => (on.block c (by omega) (by omega)).trans (kz2.out c hc)
                  have szz3 := on.size
                  have on5 : Hid (Only (wz.heap.size + 1) z2 wr) := on
                  clear hJ row Rq RPj on hs3 hs4 hs5
                  obtain ⟨z3, hwz⟩ : ∃ x, x = wr := ⟨_, rfl⟩
                  subst hwz
                  have hYl : y.heap.size < wz.heap.size := hS.out.box.lt
                  have bY : RowL z3 y.heap.size 38 [vo] := World.rowIs.of_block hS.out.box (kz3.out _ hYl)
                  have cY := bY.cell 0 rfl
                  have hYne : vo.ownBlock ≠ some y.heap.size := fun e => by have := (hS.out.out _ e).1; omega
                  have cYa : ∀ o, (z3.alloc o).cell? ⟨y.heap.size, 0, none⟩ = some vo := fun o => (bY.alloc o).cell 0 rfl
                  have q0 := RQ.cell 0 rfl
                  have q1 := RQ.cell 1 rfl
                  have q2 := RQ.cell 2 rfl
                  have q3' := RQ.cell 3 rfl
                  have q4' := RQ.cell 4 rfl
                  have q5' := RQ.cell 5 rfl
                  have q6 := RQ.cell 6 rfl
                  have q7 := RQ.cell 7 rfl
                  have q8 := RQ.cell 8 rfl
                  have q9 := RQ.cell 9 rfl
                  have hbel : Hid (Below wz.heap.size wz z3) := ⟨on5.out.os.trans (on4.out.os.trans (on3.out.os.trans bz.os)), on5.out.tape.trans (on4.out.tape.trans (on3.out.tape.trans bz.tape)), on5.out.output.trans (on4.out.output.trans (on3.out.output.trans bz.output)), by omega, fun c hc => kz3.out c hc⟩
                  have hOwn : Hid (OwnProto z3 wz.heap.size z3.heap.size (.slice q3 ((s.f i').code.n) d3) (.slice q4 ((s.f i').consts.n) d4) (.slice q5 ((s.f i').ups.n) d5) (.slice none 0 0) (.slice none 0 0) B3 B4 B5 0 0 (stripP (s.f i'))) := by
                    have e3 := hR3.out
                    have e4 := hR4.out
                    have e5 := hR5.out
                    refine ⟨?_, ?_, hO5.out, ⟨none, 0, rfl, by show (0 : Nat) ≤ _; omega, fun h => absurd h (Nat.lt_irrefl 0)⟩, ⟨none, 0, rfl, by show (0 : Nat) ≤ _; omega, fun h => absurd h (Nat.lt_irrefl 0)⟩, ?_, ?_, ?_, fun h => absurd h (Nat.lt_irrefl 0), fun h => absurd h (Nat.lt_irrefl 0), ?_, ?_, fun _ h => absurd h (Nat.lt_irrefl 0), fun _ h => absurd h (Nat.lt_irrefl 0), ?_, fun _ h => absurd h (Nat.lt_irrefl 0), fun _ h => absurd h (Nat.lt_irrefl 0), fun _ h => absurd h (Nat.lt_irrefl 0), fun _ h => absurd h (Nat.lt_irrefl 0), fun h => absurd h (Nat.lt_irrefl 0)⟩
                    · refine OwnArr.keep hO3.out fun hp => ?_
                      have := e3 hp
                      rw [on5.out.block _ (by omega) (by omega), on4.out.block _ (by omega) (by omega)]
                    · refine OwnArr.keep hO4.out fun hp => ?_
                      have := e4 hp
                      rw [on5.out.block _ (by omega) (by omega)]
                    · intro hp; have := e3 hp; omega
                    · intro hp; have := e4 hp; omega
                    · intro hp; have := e5 hp; omega
                    · intro h1 h2; have := e3 h1; have := e4 h2; omega
                    · intro h1 h2; have := e3 h1; have := e5 h2; omega
                    · intro h1 h2; have := e4 h1; have := e5 h2; omega
                  obtain ⟨i0, hi, hz0, hz1, hz2⟩ := info_parts (show (Try.prog.info? 61).map (fun i => (i.zero, i.size, i.bytes)) = some (some (.agg #[.int .i64 0, .bool false, .int .i64 0, .slice none 0 0, .slice none 0 0, .slice none 0 0, .int .i64 0, .string ⟨#[]⟩, .slice none 0 0, .slice none 0 0]), 10, 168) by kernel_rfl)
                  have hlp : ((List.finRange s.n).take i').length = i' := by simp; omega
                  replace bz : Hid _ := bz
                  clear c0 c1 c2 c3 c4 c5 c6 c7 c8 c9 r0
                  go_wp2_with (at_builtin; refine wpList_append_lies _ rfl (.tmp 88) (.tmp 90) 36 rfl (y.heap.size + 1) 61 i0 _ 10 168 Try.underlying36 hi hz0 hz1 hz2 rfl (by decide) vo ((List.finRange s.n).take i').length (flat 10 ((List.finRange s.n).take i').length (pC (fP s ((List.finRange s.n).take i')) (a 3) (a 4) (a 5) (a 8) (a 9))) rfl (ownsRow_keepG hS.out.row fun g hg => (Below.heap_alloc _ _ _ (Nat.lt_of_lt_of_le (hS.out.out g hg).2.1 hbel.out.size)).trans (hbel.out.block g (hS.out.out g hg).2.1)) ⟨z3.heap.size, 0, none⟩ 1 1 (pL (stripP (s.f i')) (.slice q3 ((s.f i').code.n) d3) (.slice q4 ((s.f i').consts.n) d4) (.slice q5 ((s.f i').ups.n) d5) (.slice none 0 0) (.slice none 0 0)) rfl rfl (World.news_of_block (World.alloc_heap_new z3 _)) (by intro u hu; simp only [pL, List.mem_cons, List.not_mem_nil, or_false] at hu; rcases hu with rfl | rfl | rfl | rfl | rfl | rfl | rfl | rfl | rfl | rfl <;> rfl) (by omega) (by simp only [maxLen]; omega) (by omega) (by simp only [World.size_alloc]; omega) _ rfl ?_; intro g cap' w' hrow hgrow hat hglt; have sz5 := hgrow.size; rw [World.size_alloc] at sz5; have bY2 : RowL w' y.heap.size 38 [vo] := World.rowIs.of_block bY ((hgrow.block _ (by rw [World.size_alloc]; omega) (fun e => hYne e.symm)).trans (Below.heap_alloc _ _ _ (by omega))); have cY2 := bY2.cell 0 rfl; have fY2 := bY2.frozen 0; obtain ⟨U', hg1, hg2⟩ := SI.step (x := ⟨i', hi'⟩) hB hbase hS.out (by omega) (by omega) (by omega) (Below.refl _ _) rfl hbel.out hOwn.out hrow hgrow hat; replace hg2 : Hid _ := hg2; clear hrow hgrow hat hg1)
                  go_roundw
                  case rel =>
                    refine ⟨i' + 1, rfl, by omega, U', ?_⟩
                    rw [take_succ_fin hi']
                    have h := hg2.out
                    rw [hlp] at h
                    exact h
                  case measure => simp [intOf]; omega
    · have hie : i' = s.n := by omega
      subst hie
      replace hS := hS.out
      rw [List.take_of_length_le (by simp)] at hS
      have hlen : (List.finRange s.n).length = s.n := by simp
      have hrow := hS.row
      rw [hlen] at hrow
      obtain ⟨g, cp, rfl, hg1, hg2⟩ := hrow.form (by omega)
      have sY := hS.box.cell 0 rfl
      have S1 := R1.out.below hB (by omega)
      have c1 := S1.cell 0 rfl
      have f1 := S1.frozen 0
      have S1' := S1.set 0 (.slice (some ⟨g, 0, none⟩) s.n cp)
      have hbel : Hid (Below w.heap.size w (wz.setCell ⟨w.heap.size + 1, 0, none⟩ (.slice (some ⟨g, 0, none⟩) s.n cp))) := (bw'.trans (hB.mono (by omega))).setCell (p := ⟨w.heap.size + 1, 0, none⟩) (by show w.heap.size ≤ w.heap.size + 1; omega) _
      have hCO : Hid (COwn (wz.setCell ⟨w.heap.size + 1, 0, none⟩ (.slice (some ⟨g, 0, none⟩) s.n cp)) (.slice (some ⟨g, 0, none⟩) s.n cp) s.n (fun i => stripP (s.f i)) (y.heap.size + 1) (wz.setCell ⟨w.heap.size + 1, 0, none⟩ (.slice (some ⟨g, 0, none⟩) s.n cp)).heap.size g rng a b) := by
        have hkp : ∀ c, y.heap.size + 1 ≤ c → (wz.setCell ⟨w.heap.size + 1, 0, none⟩ (.slice (some ⟨g, 0, none⟩) s.n cp)).heap[c]? = wz.heap[c]? := fun c hc => by
          rw [Below.heap_setCell _ _ _ _ (by show c ≠ w.heap.size + 1; omega)]
        obtain ⟨B, hO, hB2⟩ := own_of_ownsRow hrow (by omega)
        obtain ⟨ao', cap', he, q1, q2⟩ := hO
        obtain ⟨e2, t, mm, gg, q3, q4, q5⟩ := q2 (by omega)
        subst e2
        simp only [Value.slice.injEq, Option.some.injEq, Addr.mk.injEq, true_and, and_true] at he
        obtain ⟨rfl, rfl⟩ := he
        refine ⟨⟨_, _, rfl, q1, fun _ => ⟨rfl, t, mm, gg, q3.of_block (hkp _ hg1), q4, fun i hi j hj => ?_⟩⟩, hg1, ⟨hS.rlo, fun i hi => (hS.out g rfl).2.2 i (by omega)⟩, hS.mono, ?_, fun i hi => ?_⟩
        · rw [q5 i hi j hj]
          simp only [pC, fP_all s hi]
        · have := hS.rhi (2 * s.n)
          simpa using this
        · have h1 := hS.each i (by omega)
          rw [fP_all s hi] at h1
          refine h1.keep fun c k1 k2 k3 => hkp c ?_
          have := rng_le hS.mono 0 (2 * i) (by omega)
          have := hS.rlo
          omega
      clear hS hrow R0 R1 S1 hv' hc ht hB hI
      go_wp2_with fail
      have hfin := S1'.cell 0 rfl
      refine bodyPost_ret (v := .agg #[.slice (some ⟨g, 0, none⟩) s.n cp]) (by simp [results, Try.results25, go_sem, hfin]) rfl ⟨.inl ⟨hwf.out, _, _, _, _, _, _, rfl, by omega, hCO.out⟩, hbel.out⟩
end Go.Proofs.Ytndpbdpngniepaa

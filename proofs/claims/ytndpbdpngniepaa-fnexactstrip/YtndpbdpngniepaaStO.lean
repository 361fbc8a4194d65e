import Derived.Test.YtndpbdpngniepaaStN
namespace Go.Proofs.Ytndpbdpngniepaa
open Go.RowKit Go.Shelf
set_option linter.unusedVariables false
set_option linter.unusedSimpArgs false
set_option maxRecDepth 100000 in
set_option maxHeartbeats 2000000 in
theorem strip_law (s : Sl PD) (v : Value) (w : World) (hv : IsProtos (· < w.heap.size) w v s) :
    Calls Try.prog 9 #[.agg #[v]] w fun e w' => e = .returned (.bool true) ∧ Below w.heap.size w w' := by
  have hv' : Hid (IsProtos (· < w.heap.size) w v s) := hv
  have hT : Hid (∀ i, i < s.n → TextP (s.f i)) := by
    obtain ⟨_, _, _, _, _, _, h⟩ := hv
    exact fun i hi => (h i hi).text
  obtain ⟨q, hq⟩ : ∃ q : Bool, (q = true ↔ Wf s) := by
    by_cases h : Wf s
    · exact ⟨true, by simp [h]⟩
    · exact ⟨false, by simp [h]⟩
  have hU : Hid (∀ i, i < (stripS q s).n → TextP ((stripS q s).f i)) := fun i hi => by
    rw [stripS_f]
    exact (hT.out i (Nat.lt_of_lt_of_le hi (stripS_n q s))).strip
  obtain ⟨-, -, -, -, -, ⟨ao, cap, rfl, -, -⟩, -⟩ := hv
  go_enter Try.func9, Try.ntmps9
  go_wp2_with fail
  have R0 := RowL.new w [.slice ao s.n cap] 33
  have bw : Below w.heap.size w (w.alloc (.cells #[.slice ao s.n cap] 33)) := by go_grown
  generalize w.alloc (.cells #[.slice ao s.n cap] 33) = w0 at R0 bw ⊢
  refine (szChunk_in s _ _ (hv'.out.later bw)).mono ?_
  rintro e w1 ⟨⟨r, rfl, hr⟩, b1⟩
  replace R0 := R0.call b1
  replace bw := bw.trans (b1.mono bw.size)
  clear b1
  by_cases hr0 : r < 0
  · clear hr
    go_wp2_with fail
    go_ret
    exact ⟨rfl, bw⟩
  have hs : Hid (SmallC s) := hr (by omega)
  have hs' : Hid (SmallC (stripS q s)) := stripS_small hs.out
  clear hr
  have r0 := R0.cell 0 rfl
  go_wp2_with fail
  clear r0
  refine (to_post s _ _ (hv'.out.later bw) hs.out).mono ?_
  rintro e w2 ⟨⟨ao1, cap1, lo1, hi1, rfl, l1, l1', m1⟩, b2⟩
  replace R0 := R0.call b2
  replace bw := bw.trans (b2.mono bw.size)
  clear b2
  go_wp2_with fail
  refine (spec_post s hq _ _ (m1.out.is hT.out) hs.out).mono ?_
  rintro e w3 ⟨⟨ao2, cap2, lo2, hi2, rfl, l2, l2', m2⟩, b3⟩
  replace R0 := R0.call b3
  replace bw := bw.trans (b3.mono bw.size)
  have lw2 := bw.size
  clear m1 b3
  have r0 := R0.cell 0 rfl
  have r0' : ∀ o, (w3.alloc o).cell? ⟨w.heap.size, 0, none⟩ = some (.slice ao s.n cap) := fun o => (R0.alloc o).cell 0 rfl
  go_wp2_with fail
  have RW := RowL.new w3 [.slice ao2 (stripS q s).n cap2] 38
  have bx : Below w3.heap.size w3 (w3.alloc (.cells #[.slice ao2 (stripS q s).n cap2] 38)) := by go_grown
  have sxW : (w3.alloc (.cells #[.slice ao2 (stripS q s).n cap2] 38)).heap.size = w3.heap.size + 1 := by simp
  replace R0 := R0.call bx
  replace m2 : Hid (Mine (w3.alloc (.cells #[.slice ao2 (stripS q s).n cap2] 38)) (.slice ao2 (stripS q s).n cap2) (stripS q s) lo2 hi2) := m2.out.call bx
  replace bw := bw.trans (bx.mono bw.size)
  clear bx
  generalize (w3.alloc (.cells #[.slice ao2 (stripS q s).n cap2] 38)) = w4 at R0 RW m2 bw sxW ⊢
  generalize hBW : w3.heap.size = BW at RW sxW ⊢
  clear r0 r0'
  refine (to_post s _ _ (hv'.out.later bw) hs.out).mono ?_
  rintro e w5 ⟨⟨ao3, cap3, lo3, hi3, rfl, l3, l3', m3⟩, b5⟩
  replace R0 := R0.call b5
  replace RW := RW.call b5
  replace m2 : Hid (Mine w5 (.slice ao2 (stripS q s).n cap2) (stripS q s) lo2 hi2) := m2.out.call b5
  replace bw := bw.trans (b5.mono bw.size)
  have s5 := b5.size
  clear b5
  go_wp2_with fail
  have RX := RowL.new w5 [.slice ao3 s.n cap3] 38
  have bx : Below w5.heap.size w5 (w5.alloc (.cells #[.slice ao3 s.n cap3] 38)) := by go_grown
  have sxX : (w5.alloc (.cells #[.slice ao3 s.n cap3] 38)).heap.size = w5.heap.size + 1 := by simp
  replace R0 := R0.call bx
  replace RW := RW.call bx
  replace m2 : Hid (Mine (w5.alloc (.cells #[.slice ao3 s.n cap3] 38)) (.slice ao2 (stripS q s).n cap2) (stripS q s) lo2 hi2) := m2.out.call bx
  replace m3 : Hid (Mine (w5.alloc (.cells #[.slice ao3 s.n cap3] 38)) (.slice ao3 s.n cap3) s lo3 hi3) := m3.out.call bx
  replace bw := bw.trans (bx.mono bw.size)
  clear bx
  generalize (w5.alloc (.cells #[.slice ao3 s.n cap3] 38)) = w6 at R0 RX RW m2 m3 bw sxX ⊢
  generalize hBX : w5.heap.size = BX at RX sxX ⊢
  refine (impl_post s hq _ _ (m3.out.is hT.out) hs.out).mono ?_
  rintro e w7 ⟨⟨ao4, cap4, lo4, hi4, rfl, l4, l4', m4⟩, b7⟩
  replace R0 := R0.call b7
  replace RW := RW.call b7
  replace RX := RX.call b7
  replace m2 : Hid (Mine w7 (.slice ao2 (stripS q s).n cap2) (stripS q s) lo2 hi2) := m2.out.call b7
  replace m3 : Hid (Mine w7 (.slice ao3 s.n cap3) s lo3 hi3) := m3.out.call b7
  replace bw := bw.trans (b7.mono bw.size)
  have s7 := b7.size
  clear b7
  have rW : ∀ o, (w7.alloc o).cell? ⟨BW, 0, none⟩ = some (.slice ao2 (stripS q s).n cap2) := fun o => (RW.alloc o).cell 0 rfl
  go_wp2_with fail
  clear rW
  have RG := RowL.new w7 [.slice ao4 (stripS q s).n cap4] 38
  have bx : Below w7.heap.size w7 (w7.alloc (.cells #[.slice ao4 (stripS q s).n cap4] 38)) := by go_grown
  have sxG : (w7.alloc (.cells #[.slice ao4 (stripS q s).n cap4] 38)).heap.size = w7.heap.size + 1 := by simp
  replace R0 := R0.call bx
  replace RW := RW.call bx
  replace RX := RX.call bx
  replace m2 : Hid (Mine (w7.alloc (.cells #[.slice ao4 (stripS q s).n cap4] 38)) (.slice ao2 (stripS q s).n cap2) (stripS q s) lo2 hi2) := m2.out.call bx
  replace m3 : Hid (Mine (w7.alloc (.cells #[.slice ao4 (stripS q s).n cap4] 38)) (.slice ao3 s.n cap3) s lo3 hi3) := m3.out.call bx
  replace m4 : Hid (Mine (w7.alloc (.cells #[.slice ao4 (stripS q s).n cap4] 38)) (.slice ao4 (stripS q s).n cap4) (stripS q s) lo4 hi4) := m4.out.call bx
  replace bw := bw.trans (bx.mono bw.size)
  clear bx
  generalize (w7.alloc (.cells #[.slice ao4 (stripS q s).n cap4] 38)) = w8 at R0 RG RW RX m2 m3 m4 bw sxG ⊢
  generalize hBG : w7.heap.size = BG at RG sxG ⊢
  refine (eqChunk_in (stripS q s) _ _ _ (m4.out.is hU.out) (m2.out.is hU.out)).mono ?_
  rintro e w9 ⟨rfl, b9⟩
  replace R0 := R0.call b9
  replace RW := RW.call b9
  replace RX := RX.call b9
  replace RG := RG.call b9
  replace m2 : Hid (Mine w9 (.slice ao2 (stripS q s).n cap2) (stripS q s) lo2 hi2) := m2.out.call b9
  replace m3 : Hid (Mine w9 (.slice ao3 s.n cap3) s lo3 hi3) := m3.out.call b9
  replace m4 : Hid (Mine w9 (.slice ao4 (stripS q s).n cap4) (stripS q s) lo4 hi4) := m4.out.call b9
  replace bw := bw.trans (b9.mono bw.size)
  clear b9
  have hk : Hid (∀ y, Below w9.heap.size w9 y → (y.cell? ⟨BX, 0, none⟩ = some (.slice ao3 s.n cap3) ∧ y.cell? ⟨w.heap.size, 0, none⟩ = some (.slice ao s.n cap))) := fun y hy =>
    ⟨(RX.call hy).cell 0 rfl, (R0.call hy).cell 0 rfl⟩
  have hto : Hid (∀ y, Below w9.heap.size w9 y → Calls Try.prog 20 #[.agg #[.slice ao s.n cap]] y fun e w' => (∃ v', e = .returned (.agg #[v']) ∧ IsProtos (· < w'.heap.size) w' v' s ∧ IsProtos (· < w'.heap.size) w' (.slice ao3 s.n cap3) s) ∧ Below w9.heap.size w9 w') := fun y hy =>
    (toChunk_in s _ y (hv'.out.later (bw.trans (hy.mono bw.size))) hs.out).mono fun e w' ⟨⟨v', he, hp⟩, hb⟩ => ⟨⟨v', he, hp.old, ((m3.out.is hT.out).later hy).later hb⟩, hy.trans (hb.mono hy.size)⟩
  replace R0 : Hid _ := R0
  replace RW : Hid _ := RW
  replace RX : Hid _ := RX
  replace RG : Hid _ := RG
  go_wp2_with fail
  go_region_held3 (fun y => y.cell? ⟨BX, 0, none⟩ = some (.slice ao3 s.n cap3) ∧ y.cell? ⟨w.heap.size, 0, none⟩ = some (.slice ao s.n cap)) (first | exact hk.out _ (Below.refl _ _).drew | assumption)
    (first | (go_at_call 20; refine (hto.out _ (Below.refl _ _).drew).mono ?_; rintro e y ⟨⟨v3, rfl, hp3, hx3⟩, hy3⟩; have hs3 := hk.out y hy3) | (go_at_call 22; refine (eqChunk_in s _ _ _ (by assumption) (by assumption)).mono ?_; rintro e z ⟨rfl, hz⟩; have hz3 := hk.out z (Below.trans (by assumption) (hz.mono (Below.size (by assumption))))))
  have hbz : Below w9.heap.size w9 z := hy3.trans (hz.mono hy3.size)
  clear hk hto hz hy3 hp3 hx3 hs3 hz3
  replace R0 : RowL w9 w.heap.size 33 [.slice ao s.n cap] := R0.out
  replace RW : RowL w9 BW 38 [.slice ao2 (stripS q s).n cap2] := RW.out
  replace RX : RowL w9 BX 38 [.slice ao3 s.n cap3] := RX.out
  replace RG : RowL w9 BG 38 [.slice ao4 (stripS q s).n cap4] := RG.out
  replace R0 := RowL.call R0 hbz
  replace RW := RowL.call RW hbz
  replace RX := RowL.call RX hbz
  replace RG := RowL.call RG hbz
  replace m2 : Hid (Mine z (.slice ao2 (stripS q s).n cap2) (stripS q s) lo2 hi2) := m2.out.call hbz
  replace m3 : Hid (Mine z (.slice ao3 s.n cap3) s lo3 hi3) := m3.out.call hbz
  replace m4 : Hid (Mine z (.slice ao4 (stripS q s).n cap4) (stripS q s) lo4 hi4) := m4.out.call hbz
  replace bw := bw.trans (hbz.mono bw.size)
  clear hbz
  have rX := RX.cell 0 rfl
  go_wp2_with fail
  clear rX
  refine (mark_post s _ _ lo3 hi3 m3.out hs.out).mono ?_
  rintro e w10 ⟨rfl, -, t10⟩
  replace R0 := R0.btw t10 (.inl (by omega))
  replace RW := RW.btw t10 (.inl (by omega))
  replace RG := RG.btw t10 (.inr (by omega))
  replace m2 : Hid (Mine w10 (.slice ao2 (stripS q s).n cap2) (stripS q s) lo2 hi2) := m2.out.btw t10 (.inl (by omega))
  replace m4 : Hid (Mine w10 (.slice ao4 (stripS q s).n cap4) (stripS q s) lo4 hi4) := m4.out.btw t10 (.inr (by omega))
  replace bw := bw.trans (t10.below (by omega) bw.size)
  clear t10 m3 RX
  obtain ⟨kb, -⟩ := kAt_bound hs.out s.n (Nat.le_refl _)
  generalize kAt 1 s.f s.n = kk at kb ⊢
  have k0 : 0 ≤ kk := by omega
  have k0' : ¬ kk < 0 := by omega
  have rG := RG.cell 0 rfl
  have rW := RW.cell 0 rfl
  go_wp2_with fail
  clear rG rW
  refine (eqChunk_in (stripS q s) _ _ _ (m4.out.is hU.out) (m2.out.is hU.out)).mono ?_
  rintro e w11 ⟨rfl, b11⟩
  replace R0 := RowL.call R0 b11
  replace RW := RowL.call RW b11
  replace RG := RowL.call RG b11
  replace m2 : Hid (Mine w11 (.slice ao2 (stripS q s).n cap2) (stripS q s) lo2 hi2) := m2.out.call b11
  replace m4 : Hid (Mine w11 (.slice ao4 (stripS q s).n cap4) (stripS q s) lo4 hi4) := m4.out.call b11
  replace bw := bw.trans (b11.mono bw.size)
  clear b11
  have rG := RG.cell 0 rfl
  go_wp2_with fail
  clear rG
  refine (mark_post (stripS q s) _ _ lo4 hi4 m4.out hs'.out).mono ?_
  rintro e w12 ⟨rfl, m5, t12⟩
  replace R0 := R0.btw t12 (.inl (by omega))
  replace RW := RW.btw t12 (.inl (by omega))
  replace RG := RG.btw t12 (.inr (by omega))
  replace m2 : Hid (Mine w12 (.slice ao2 (stripS q s).n cap2) (stripS q s) lo2 hi2) := m2.out.btw t12 (.inl (by omega))
  replace bw := bw.trans (t12.below (by omega) bw.size)
  clear t12 m4
  have rG := RG.cell 0 rfl
  go_wp2_with fail
  clear rG
  refine (held_post (stripS q s) _ _ (m5.out.is fun _ _ => TextP.mark _ _) hs'.out).mono ?_
  rintro e w13 ⟨rfl, b13⟩
  replace R0 := RowL.call R0 b13
  replace RW := RowL.call RW b13
  replace m2 : Hid (Mine w13 (.slice ao2 (stripS q s).n cap2) (stripS q s) lo2 hi2) := m2.out.call b13
  replace bw := bw.trans (b13.mono bw.size)
  clear b13 m5 RG
  have kc : 1 ≤ kAt 1 (stripS q s).f (stripS q s).n := (kAt_bound (n := (stripS q s).n) (f := (stripS q s).f) hs'.out _ (Nat.le_refl _)).1
  generalize kAt 1 (stripS q s).f (stripS q s).n = kq at kc ⊢
  have k1 : 0 ≤ kq := by omega
  have k1' : ¬ kq < 0 := by omega
  have r0 := R0.cell 0 rfl
  go_wp2_with fail
  clear r0
  refine (to_post s _ _ (hv'.out.later bw) hs.out).mono ?_
  rintro e w14 ⟨⟨ao5, cap5, lo5, hi5, rfl, -, -, m5⟩, b14⟩
  replace RW := RowL.call RW b14
  replace m2 : Hid (Mine w14 (.slice ao2 (stripS q s).n cap2) (stripS q s) lo2 hi2) := m2.out.call b14
  replace bw := bw.trans (b14.mono bw.size)
  clear b14
  go_wp2_with fail
  refine (impl_post s hq _ _ (m5.out.is hT.out) hs.out).mono ?_
  rintro e w15 ⟨⟨ao6, cap6, lo6, hi6, rfl, -, -, m6⟩, b15⟩
  replace RW := RowL.call RW b15
  replace m2 : Hid (Mine w15 (.slice ao2 (stripS q s).n cap2) (stripS q s) lo2 hi2) := m2.out.call b15
  replace bw := bw.trans (b15.mono bw.size)
  clear b15 m5
  have rW : ∀ o, (w15.alloc o).cell? ⟨BW, 0, none⟩ = some (.slice ao2 (stripS q s).n cap2) := fun o => (RW.alloc o).cell 0 rfl
  go_wp2_with fail
  clear rW
  have bx : Below w15.heap.size w15 (w15.alloc (.cells #[.slice ao6 (stripS q s).n cap6] 38)) := by go_grown
  refine (eqChunk_in (stripS q s) _ _ _ ((m6.out.call bx).is hU.out) ((m2.out.call bx).is hU.out)).mono ?_
  rintro e w16 ⟨rfl, b16⟩
  have hfin : Below w.heap.size w w16 := (bw.trans (bx.mono bw.size)).trans (b16.mono (Nat.le_trans bw.size bx.size))
  clear m2 m6 bx b16
  go_wp2_with fail
  go_ret
  exact ⟨rfl, hfin⟩
end Go.Proofs.Ytndpbdpngniepaa

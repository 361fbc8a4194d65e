import Derived.Test.YtckapapejfnojaaGreatDoorTkC
namespace Go.Proofs.YtckapapejfnojaaGreatDoor
open Go.RowKit
set_option linter.unusedVariables false
set_option linter.unusedSimpArgs false
theorem isInts_of_own {w : World} {u : Value} {n B : Nat} {f f' : Nat → Int} (h : OwnArr w u 1 n (iC .i64 f') B) (he : ∀ t, t < n → f' t = f t) : IsInts .i64 (· < w.heap.size) w u ⟨n, f⟩ := by
  have hl := h.lt
  obtain ⟨ao, cap, rfl, hn, hc⟩ := h.isIn (av := (· < w.heap.size)) hl
  refine ⟨ao, cap, rfl, hn, fun hp => ?_⟩
  obtain ⟨b, o, rfl, hb, hcc⟩ := hc hp
  exact ⟨b, o, rfl, hb, fun i hi j hj => by rw [hcc i hi j hj]; simp only [iC]; rw [he i hi]⟩
theorem isInts_later {N : Nat} {w w' : World} {u : Value} {s : Sl Int} (h : IsInts .i64 (· < N) w u s) (hk : ∀ b, b < N → w'.heap[b]? = w.heap[b]?) : IsInts .i64 (· < N) w' u s := IsArr.keep h hk
set_option maxRecDepth 100000 in
set_option maxHeartbeats 2000000 in
theorem tops_law (s : Sl PD) (v : Value) (i : Int) (w : World) (hv : IsProtos (· < w.heap.size) w v s) (hcb : CodeB s) (hS : Spans w) :
    Calls Tryz.prog 4 #[.agg #[v], .int .i64 i] w fun e w' => e = .returned (.bool true) ∧ Below w.heap.size w w' := by
  have hv' : Hid (IsProtos (· < w.heap.size) w v s) := hv
  have hT : Hid (∀ i, i < s.n → TextP (s.f i)) := by
    obtain ⟨_, _, _, _, _, _, h⟩ := hv
    exact fun i hi => (h i hi).text
  replace hcb : Hid (CodeB s) := hcb
  obtain ⟨-, -, -, -, -, ⟨ao, cap, rfl, -, -⟩, -⟩ := hv
  go_enter Tryz.func4, Tryz.ntmps4
  go_wp2_with fail
  have R0 := RowL.new w [.slice ao s.n cap] 32
  have bw : Below w.heap.size w (w.alloc (.cells #[.slice ao s.n cap] 32)) := by go_grown
  generalize w.alloc (.cells #[.slice ao s.n cap] 32) = w0 at R0 bw ⊢
  refine (szChunk_in s _ _ (hv'.out.later bw)).mono ?_
  rintro e w1 ⟨⟨r, rfl, hr⟩, b1⟩
  replace R0 := R0.call b1
  replace bw := bw.trans (b1.mono bw.size)
  clear b1
  by_cases hr0 : r < 0
  · clear hr
    go_wp2_with fail
    go_ret
    exact ⟨rfl, bw⟩
  have hs : Hid (SmallC s) := hr (by omega)
  clear hr
  have r0 := R0.cell 0 rfl
  go_wp2_with fail
  clear r0
  refine (to_post s _ _ (hv'.out.later bw) hs.out).mono ?_
  rintro e w2 ⟨⟨ao1, cap1, lo1, hi1, rfl, l1, l1', m1⟩, b2⟩
  replace R0 := R0.call b2
  replace bw := bw.trans (b2.mono bw.size)
  clear b2
  go_wp2_with fail
  refine (specTops_in s _ i _ (m1.out.is hT.out) hcb.out).mono ?_
  rintro e w3 ⟨⟨u2, n, f, rfl, i2, d2⟩, b3⟩
  replace R0 := R0.call b3
  replace bw := bw.trans (b3.mono bw.size)
  obtain ⟨N2, hN2⟩ : ∃ N, N = w3.heap.size := ⟨_, rfl⟩
  have hR0 : w.heap.size < w3.heap.size := R0.lt
  have I2 : Hid (IsInts .i64 (· < N2) w3 u2 ⟨n, f⟩) := IsArr.mono i2 fun b hb => by omega
  replace d2 : Hid (TopsD s i n f) := d2
  clear m1 b3 i2
  have r0 := R0.cell 0 rfl
  go_wp2_with fail
  clear r0
  refine (to_post s _ _ (hv'.out.later bw) hs.out).mono ?_
  rintro e w5 ⟨⟨ao3, cap3, lo3, hi3, rfl, l3, l3', m3⟩, b5⟩
  replace R0 := R0.call b5
  replace I2 : Hid (IsInts .i64 (· < N2) w5 u2 ⟨n, f⟩) := isInts_later I2.out fun b hb => b5.block b (by omega)
  replace bw := bw.trans (b5.mono bw.size)
  have s5 := b5.size
  clear b5
  go_wp2_with fail
  have RX := RowL.new w5 [.slice ao3 s.n cap3] 24
  have bx : Below w5.heap.size w5 (w5.alloc (.cells #[.slice ao3 s.n cap3] 24)) := by go_grown
  have sxX : (w5.alloc (.cells #[.slice ao3 s.n cap3] 24)).heap.size = w5.heap.size + 1 := by simp
  replace R0 := R0.call bx
  replace I2 : Hid (IsInts .i64 (· < N2) (w5.alloc (.cells #[.slice ao3 s.n cap3] 24)) u2 ⟨n, f⟩) := isInts_later I2.out fun b hb => bx.block b (by omega)
  replace m3 : Hid (Mine (w5.alloc (.cells #[.slice ao3 s.n cap3] 24)) (.slice ao3 s.n cap3) s lo3 hi3) := m3.out.call bx
  replace bw := bw.trans (bx.mono bw.size)
  clear bx
  generalize (w5.alloc (.cells #[.slice ao3 s.n cap3] 24)) = w6 at R0 RX I2 m3 bw sxX ⊢
  generalize hBX : w5.heap.size = BX at RX sxX ⊢
  refine (implTops_in s _ i _ (m3.out.is hT.out) hcb.out (hS.below bw)).mono ?_
  rintro e w7 ⟨⟨u4, n', f', B4, rfl, g4, l4, hn4, d4⟩, b7⟩
  obtain ⟨rfl, hff⟩ := d4.det d2.out
  replace R0 := R0.call b7
  replace RX := RX.call b7
  replace I2 : Hid (IsInts .i64 (· < N2) w7 u2 ⟨n', f⟩) := isInts_later I2.out fun b hb => b7.block b (by omega)
  replace m3 : Hid (Mine w7 (.slice ao3 s.n cap3) s lo3 hi3) := m3.out.call b7
  replace bw := bw.trans (b7.mono bw.size)
  have s7 := b7.size
  replace g4 : Hid (OwnArr w7 u4 1 n' (iC .i64 f') B4) := g4
  replace hff : Hid (∀ t, t < n' → f' t = f t) := hff
  clear b7 d4
  go_wp2_with fail
  refine (eqIntS_in ⟨n', f⟩ _ _ _ (isInts_of_own g4.out hff.out) (IsArr.mono I2.out fun b hb => by omega)).mono ?_
  rintro e w9 ⟨rfl, b9⟩
  replace R0 := R0.call b9
  replace RX := RX.call b9
  replace I2 : Hid (IsInts .i64 (· < N2) w9 u2 ⟨n', f⟩) := isInts_later I2.out fun b hb => b9.block b (by omega)
  replace m3 : Hid (Mine w9 (.slice ao3 s.n cap3) s lo3 hi3) := m3.out.call b9
  replace g4 : Hid (OwnArr w9 u4 1 n' (iC .i64 f') B4) := g4.out.call b9
  replace bw := bw.trans (b9.mono bw.size)
  have s9 := b9.size
  clear b9
  have hk : Hid (∀ y, Below w9.heap.size w9 y → (y.cell? ⟨BX, 0, none⟩ = some (.slice ao3 s.n cap3) ∧ y.cell? ⟨w.heap.size, 0, none⟩ = some (.slice ao s.n cap))) := fun y hy =>
    ⟨(RX.call hy).cell 0 rfl, (R0.call hy).cell 0 rfl⟩
  have hto : Hid (∀ y, Below w9.heap.size w9 y → Calls Tryz.prog 13 #[.agg #[.slice ao s.n cap]] y fun e w' => (∃ v', e = .returned (.agg #[v']) ∧ IsProtos (· < w'.heap.size) w' v' s ∧ IsProtos (· < w'.heap.size) w' (.slice ao3 s.n cap3) s) ∧ Below w9.heap.size w9 w') := fun y hy =>
    (toChunk_in s _ y (hv'.out.later (bw.trans (hy.mono bw.size))) hs.out).mono fun e w' ⟨⟨v', he, hp⟩, hb⟩ => ⟨⟨v', he, IsProtos.mono hp (fun b hb => hb.2), ((m3.out.is hT.out).later hy).later hb⟩, hy.trans (hb.mono hy.size)⟩
  replace R0 : Hid _ := R0
  replace RX : Hid _ := RX
  go_wp2_with fail
  go_region_held3 (fun y => y.cell? ⟨BX, 0, none⟩ = some (.slice ao3 s.n cap3) ∧ y.cell? ⟨w.heap.size, 0, none⟩ = some (.slice ao s.n cap)) (first | exact hk.out _ (Below.refl _ _).drew | assumption)
    (first | (go_at_call 13; refine (hto.out _ (Below.refl _ _).drew).mono ?_; rintro e y ⟨⟨v3, rfl, hp3, hx3⟩, hy3⟩; have hs3 := hk.out y hy3) | (go_at_call 8; refine (eqChunk_in s _ _ _ (by assumption) (by assumption)).mono ?_; rintro e z ⟨rfl, hz⟩; have hz3 := hk.out z (Below.trans (by assumption) (hz.mono (Below.size (by assumption))))))
  have hbz : Below w9.heap.size w9 z := hy3.trans (hz.mono hy3.size)
  clear hk hto hz hy3 hp3 hx3 hs3 hz3
  replace R0 : RowL w9 w.heap.size 32 [.slice ao s.n cap] := R0.out
  replace RX : RowL w9 BX 24 [.slice ao3 s.n cap3] := RX.out
  replace R0 := RowL.call R0 hbz
  replace RX := RowL.call RX hbz
  replace I2 : Hid (IsInts .i64 (· < N2) z u2 ⟨n', f⟩) := isInts_later I2.out fun b hb => hbz.block b (by omega)
  replace m3 : Hid (Mine z (.slice ao3 s.n cap3) s lo3 hi3) := m3.out.call hbz
  replace g4 : Hid (OwnArr z u4 1 n' (iC .i64 f') B4) := g4.out.call hbz
  replace bw := bw.trans (hbz.mono bw.size)
  have sz := hbz.size
  clear hbz
  have rX := RX.cell 0 rfl
  go_wp2_with fail
  clear rX
  refine (mark_post s _ _ lo3 hi3 m3.out hs.out).mono ?_
  rintro e w10 ⟨rfl, -, t10⟩
  replace R0 := R0.btw t10 (.inl (by omega))
  replace I2 : Hid (IsInts .i64 (· < N2) w10 u2 ⟨n', f⟩) := isInts_later I2.out fun b hb => t10.block b (by omega) (.inl (by omega))
  replace g4 : Hid (OwnArr w10 u4 1 n' (iC .i64 f') B4) := g4.out.keep fun hp => t10.block _ (g4.out.lt hp) (.inr (by omega))
  replace bw := bw.trans (t10.below (by omega) bw.size)
  have s10 := t10.size
  clear t10 m3 RX
  obtain ⟨kb, -⟩ := kAt_bound hs.out s.n (Nat.le_refl _)
  generalize kAt 1 s.f s.n = kk at kb ⊢
  have k0 : 0 ≤ kk := by omega
  have k0' : ¬ kk < 0 := by omega
  go_wp2_with fail
  refine (eqIntS_in ⟨n', f⟩ _ _ _ (isInts_of_own g4.out hff.out) (IsArr.mono I2.out fun b hb => by omega)).mono ?_
  rintro e w11 ⟨rfl, b11⟩
  replace R0 := RowL.call R0 b11
  replace I2 : Hid (IsInts .i64 (· < N2) w11 u2 ⟨n', f⟩) := isInts_later I2.out fun b hb => b11.block b (by omega)
  replace g4 : Hid (OwnArr w11 u4 1 n' (iC .i64 f') B4) := g4.out.call b11
  replace bw := bw.trans (b11.mono bw.size)
  have s11 := b11.size
  clear b11
  go_wp2_with fail
  refine (markIntS_in n' _ _ B4 1 _ g4.out (by omega) (by omega) (by omega)).mono ?_
  rintro e w12 ⟨rfl, g5, t12⟩
  replace R0 : RowL w12 w.heap.size 32 [.slice ao s.n cap] := World.rowIs.of_block R0 (t12.block _ R0.lt (by omega))
  replace I2 : Hid (IsInts .i64 (· < N2) w12 u2 ⟨n', f⟩) := isInts_later I2.out fun b hb => t12.block b (by omega) (by omega)
  have hB4 : w.heap.size ≤ B4 := by have := bw.size; omega
  replace bw : Below w.heap.size w w12 := ⟨t12.os.trans bw.os, t12.tape.trans bw.tape, t12.output.trans bw.output, Nat.le_trans bw.size t12.size, fun k hk => (t12.block k (Nat.lt_of_lt_of_le hk bw.size) (by omega)).trans (bw.block k hk)⟩
  have s12 := t12.size
  replace g5 : Hid (OwnArr w12 u4 1 n' (fun i _ => .int .i64 (1 + (i : Int))) B4) := g5
  clear t12 g4
  go_wp2_with fail
  refine (heldIntS_in n' _ 1 _ (g5.out.isIn (av := (· < w12.heap.size)) g5.out.lt) (by omega) (by omega) (by omega)).mono ?_
  rintro e w13 ⟨rfl, b13⟩
  replace R0 := RowL.call R0 b13
  replace I2 : Hid (IsInts .i64 (· < N2) w13 u2 ⟨n', f⟩) := isInts_later I2.out fun b hb => b13.block b (by omega)
  replace bw := bw.trans (b13.mono bw.size)
  have s13 := b13.size
  clear b13 g5
  rw [Int.one_mul]
  have k1 : 0 ≤ (1 : Int) + (n' : Int) := by omega
  have k1' : ¬ (1 : Int) + (n' : Int) < 0 := by omega
  have r0 := R0.cell 0 rfl
  go_wp2_with fail
  clear r0
  refine (to_post s _ _ (hv'.out.later bw) hs.out).mono ?_
  rintro e w14 ⟨⟨ao5, cap5, lo5, hi5, rfl, -, -, m5⟩, b14⟩
  replace I2 : Hid (IsInts .i64 (· < N2) w14 u2 ⟨n', f⟩) := isInts_later I2.out fun b hb => b14.block b (by omega)
  replace bw := bw.trans (b14.mono bw.size)
  have s14 := b14.size
  clear b14
  go_wp2_with fail
  refine (implTops_in s _ i _ (m5.out.is hT.out) hcb.out (hS.below bw)).mono ?_
  rintro e w15 ⟨⟨u6, n6, f6, B6, rfl, g6, l6, hn6, d6⟩, b15⟩
  obtain ⟨rfl, hff6⟩ := d6.det d2.out
  replace I2 : Hid (IsInts .i64 (· < N2) w15 u2 ⟨n6, f⟩) := isInts_later I2.out fun b hb => b15.block b (by omega)
  replace bw := bw.trans (b15.mono bw.size)
  have s15 := b15.size
  replace g6 : Hid (OwnArr w15 u6 1 n6 (iC .i64 f6) B6) := g6
  replace hff6 : Hid (∀ t, t < n6 → f6 t = f t) := hff6
  clear b15 m5 d6
  go_wp2_with fail
  refine (eqIntS_in ⟨n6, f⟩ _ _ _ (isInts_of_own g6.out hff6.out) (IsArr.mono I2.out fun b hb => by omega)).mono ?_
  rintro e w16 ⟨rfl, b16⟩
  have hfin : Below w.heap.size w w16 := bw.trans (b16.mono bw.size)
  clear I2 g6 b16
  go_wp2_with fail
  go_ret
  exact ⟨rfl, hfin⟩
end Go.Proofs.YtckapapejfnojaaGreatDoor

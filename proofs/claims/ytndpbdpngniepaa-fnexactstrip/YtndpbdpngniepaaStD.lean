import Derived.Test.YtndpbdpngniepaaStC
namespace Go.Proofs.Ytndpbdpngniepaa
open Go.RowKit
set_option linter.unusedVariables false
set_option linter.unusedSimpArgs false
theorem heldTo {F : Nat} {args : Array Value} {w : World} {r r' : Int} (h : Calls Try.prog F args w fun e w' => e = .returned (.int .i64 r) ∧ Below w.heap.size w w') (hr : r = r') :
    Calls Try.prog F args w fun e w' => e = .returned (.int .i64 r') ∧ Below w.heap.size w w' := hr ▸ h
set_option maxRecDepth 100000 in
set_option maxHeartbeats 4000000 in
theorem heldProtoS_in (n : Nat) (v : Value) (f : Nat → PD) (k : Int) (w : World) (hv : IsProtos (· < w.heap.size) w v ⟨n, fun i => mkP (kAt k f i) (f i)⟩)
    (hs : SmallC ⟨n, f⟩) (hkb : ∀ i, i ≤ n → 1 ≤ kAt k f i ∧ kAt k f i ≤ 576460752303423488) :
    Calls Try.prog 42 #[v, .int .i64 k] w fun e w' => e = .returned (.int .i64 (kAt k f n)) ∧ Below w.heap.size w w' := by
  obtain ⟨a3, a4, a5, a8, a9, ⟨ao, cap, rfl, hm, hc⟩, ht⟩ := hv
  dsimp only at hm hc ht ⊢
  have hc' : Hid (0 < n → ∃ b o, ao = some ⟨b, o, none⟩ ∧ b < w.heap.size ∧ ∀ i, i < n → ∀ j, j < 10 → w.cell? ⟨b, o + i * 10 + j, none⟩ = some (pC (fun i => mkP (kAt k f i) (f i)) a3 a4 a5 a8 a9 i j)) := hc
  have ht' : Hid (∀ i, i < n → IsProto (· < w.heap.size) w (a3 i) (a4 i) (a5 i) (a8 i) (a9 i) (mkP (kAt k f i) (f i))) := ht
  have hkb' : Hid (∀ i, i ≤ n → 1 ≤ kAt k f i ∧ kAt k f i ≤ 576460752303423488) := hkb
  have hs' : Hid (∀ i, i < n → SmallP (f i)) := hs.2
  have hn : n ≤ 1048576 := hs.1
  clear hc ht hkb hs
  go_enter Try.func42, Try.ntmps42
  go_wp2_with fail
  go_loopw [1, 5] (fun kv i wr => ∃ i' : Nat, kv = .int .i64 (kAt k f i') ∧ i = .int .i64 (i' : Int) ∧ i' ≤ n ∧ Below w.heap.size w wr) (fun _ i _ => n - (intOf i).toNat)
  case atStart => exact ⟨0, rfl, rfl, by omega, Below.refl _ _⟩
  case round =>
    obtain ⟨i', rfl, rfl, q1, q2⟩ := hrel
    by_cases hi' : i' < n
    · obtain ⟨b, o, rfl, hb, hcc⟩ := hc'.out (by omega)
      have hP := (ht'.out i' hi').later q2
      obtain ⟨kb1, kb2⟩ := hkb'.out i' (by omega)
      obtain ⟨kb3, kb4⟩ := hkb'.out (i' + 1) (by omega)
      have hkn : kAt k f (i' + 1) = kNext (kAt k f i') (f i') := rfl
      obtain ⟨s3, s4, s5, s8, s9⟩ := hs'.out i' hi'
      have c0 := hcc i' hi' 0 (by omega)
      have c1 := hcc i' hi' 1 (by omega)
      have c2 := hcc i' hi' 2 (by omega)
      have c3 := hcc i' hi' 3 (by omega)
      have c4 := hcc i' hi' 4 (by omega)
      have c5 := hcc i' hi' 5 (by omega)
      have c6 := hcc i' hi' 6 (by omega)
      have c7 := hcc i' hi' 7 (by omega)
      have c8 := hcc i' hi' 8 (by omega)
      have c9 := hcc i' hi' 9 (by omega)
      rw [← q2.cell (p := ⟨b, _, none⟩) hb] at c0 c1 c2 c3 c4 c5 c6 c7 c8 c9
      simp only [Nat.add_zero, pC, mkP] at c0 c1 c2 c3 c4 c5 c6 c7 c8 c9
      clear hcc
      have hbr : b < wr.heap.size := Nat.lt_of_lt_of_le hb q2.size
      generalize kAt k f i' = kk at kb1 kb2 hkn hP c0 c1 c2 c3 c4 c5 c6 c7 c8 c9 ⊢
      generalize f i' = p at s3 s4 s5 s8 s9 hkn hP c0 c1 c2 c3 c4 c5 c6 c7 c8 c9 ⊢
      generalize a3 i' = v3 at hP c0 c1 c2 c3 c4 c5 c6 c7 c8 c9 ⊢
      generalize a4 i' = v4 at hP c0 c1 c2 c3 c4 c5 c6 c7 c8 c9 ⊢
      generalize a5 i' = v5 at hP c0 c1 c2 c3 c4 c5 c6 c7 c8 c9 ⊢
      generalize a8 i' = v8 at hP c0 c1 c2 c3 c4 c5 c6 c7 c8 c9 ⊢
      generalize a9 i' = v9 at hP c0 c1 c2 c3 c4 c5 c6 c7 c8 c9 ⊢
      have z3 : k3 kk p ≤ kNext kk p := by unfold kNext k8 k5 k4; omega
      have z4 : k4 kk p ≤ kNext kk p := by unfold kNext k8 k5; omega
      have z5 : k5 kk p + 1 + 1 ≤ kNext kk p := by unfold kNext k8; omega
      have z8 : k8 kk p ≤ kNext kk p := by unfold kNext; omega
      have y3 : 1 ≤ k3 kk p := by unfold k3; omega
      have y4 : 1 ≤ k4 kk p := by unfold k4 k3; omega
      have y5 : 1 ≤ k5 kk p := by unfold k5 k4 k3; omega
      have y8 : 1 ≤ k8 kk p := by unfold k8 k5 k4 k3; omega
      rw [hkn] at kb3 kb4
      have hP' : Hid (IsProto (· < wr.heap.size) wr v3 v4 v5 v8 v9 (mkP kk p)) := hP
      have bw : Below wr.heap.size wr wr := Below.refl _ _
      clear hP
      have hcs : Hid (wr.cell? ⟨b, o + i' * 10 + 4, none⟩ = some v4 ∧ wr.cell? ⟨b, o + i' * 10 + 5, none⟩ = some v5 ∧ wr.cell? ⟨b, o + i' * 10 + 6, none⟩ = some (.int .i64 (k5 kk p)) ∧ wr.cell? ⟨b, o + i' * 10 + 7, none⟩ = some (.string (mt (k5 kk p + 1))) ∧ wr.cell? ⟨b, o + i' * 10 + 8, none⟩ = some v8 ∧ wr.cell? ⟨b, o + i' * 10 + 9, none⟩ = some v9) := ⟨c4, c5, c6, c7, c8, c9⟩
      clear c4 c5 c6 c7 c8 c9
      go_wp2_with fail
      clear c0 c1 c2 c3
      refine (heldTo (r' := k3 kk p) (heldUint32S_in p.code.n v3 (kk + 1 + 1 + 1) _ ((hP'.out.later bw).code) (by omega) (by omega) (by omega)) (by simp [k3])).mono ?_
      rintro e w1 ⟨rfl, b1⟩
      replace bw : Below wr.heap.size wr w1 := bw.trans (b1.mono bw.size)
      clear b1
      have c4 := (bw.cell (p := ⟨b, o + i' * 10 + 4, none⟩) hbr).trans hcs.out.1
      go_wp2_with fail
      clear c4
      refine (heldTo (r' := k4 kk p) (heldValueS_in p.consts.n v4 (k3 kk p) _ ((hP'.out.later bw).consts.1) (by omega) (by omega) (by omega)) (by simp [k4])).mono ?_
      rintro e w2 ⟨rfl, b1⟩
      replace bw : Below wr.heap.size wr w2 := bw.trans (b1.mono bw.size)
      clear b1
      have c5 := (bw.cell (p := ⟨b, o + i' * 10 + 5, none⟩) hbr).trans hcs.out.2.1
      go_wp2_with fail
      clear c5
      refine (heldTo (r' := k5 kk p) (heldUpS_in p.ups.n v5 (k4 kk p) _ ((hP'.out.later bw).ups) (by omega) (by omega) (by omega)) (by simp [k5])).mono ?_
      rintro e w3 ⟨rfl, b1⟩
      replace bw : Below wr.heap.size wr w3 := bw.trans (b1.mono bw.size)
      clear b1
      have c6 := (bw.cell (p := ⟨b, o + i' * 10 + 6, none⟩) hbr).trans hcs.out.2.2.1
      have c7 := (bw.cell (p := ⟨b, o + i' * 10 + 7, none⟩) hbr).trans hcs.out.2.2.2.1
      have hk : Hid (∀ y, Below w3.heap.size w3 y → y.cell? ⟨b, o + i' * 10 + 7, none⟩ = some (.string (mt (k5 kk p + 1)))) := fun y hy => (hy.cell (p := ⟨b, _, none⟩) (Nat.lt_of_lt_of_le hbr bw.size)).trans c7
      go_wp2_with fail
      go_region_held3 (fun y => y.cell? ⟨b, o + i' * 10 + 7, none⟩ = some (.string (mt (k5 kk p + 1)))) (first | exact hk.out _ (Below.refl _ _).drew | assumption) (first | (go_at_call 65; refine (markText_in (k5 kk p + 1) _ (by omega) (by omega)).mono ?_; rintro e w4 ⟨rfl, b1⟩; have hs1 := hk.out w4 ((Below.refl _ _).drew.trans b1)))
      replace bw : Below wr.heap.size wr w4 := bw.trans ((Below.refl _ _).drew.trans (b1.mono bw.size))
      clear hs1 hk b1 c6 c7
      have c8 := (bw.cell (p := ⟨b, o + i' * 10 + 8, none⟩) hbr).trans hcs.out.2.2.2.2.1
      go_wp2_with fail
      clear c8
      refine (heldTo (r' := k8 kk p) (heldIntS_in p.lines.n v8 (k5 kk p + 1 + 1) _ ((hP'.out.later bw).lines) (by omega) (by omega) (by omega)) (by simp [k8])).mono ?_
      rintro e w5 ⟨rfl, b1⟩
      replace bw : Below wr.heap.size wr w5 := bw.trans (b1.mono bw.size)
      clear b1
      have c9 := (bw.cell (p := ⟨b, o + i' * 10 + 9, none⟩) hbr).trans hcs.out.2.2.2.2.2
      go_wp2_with fail
      clear c9
      refine (heldTo (r' := kNext kk p) (heldStringS_in p.upNames.n v9 (k8 kk p) _ ((hP'.out.later bw).upNames.1) (by omega) (by omega) (by omega)) (by simp [kNext])).mono ?_
      rintro e w6 ⟨rfl, b1⟩
      replace bw : Below wr.heap.size wr w6 := bw.trans (b1.mono bw.size)
      clear b1
      have hfin : Below w.heap.size w w6 := q2.trans (bw.mono q2.size)
      clear hP' hcs
      go_wp2_with fail
      go_roundw
      case rel => exact ⟨i' + 1, by rw [hkn], rfl, by omega, hfin⟩
      case measure => simp [intOf]; omega
    · obtain rfl : i' = n := by omega
      go_wp2_with fail
      go_ret
      exact ⟨rfl, q2⟩
theorem heldChunk_in (n : Nat) (v : Value) (f : Nat → PD) (w : World) (hv : IsProtos (· < w.heap.size) w v ⟨n, fun i => mkP (kAt 1 f i) (f i)⟩)
    (hs : SmallC ⟨n, f⟩) (hkb : ∀ i, i ≤ n → 1 ≤ kAt 1 f i ∧ kAt 1 f i ≤ 576460752303423488) :
    Calls Try.prog 28 #[.agg #[v], .int .i64 1] w fun e w' => e = .returned (.int .i64 (kAt 1 f n)) ∧ Below w.heap.size w w' := by
  have hv' : Hid _ := hv
  have hk' : Hid _ := hkb
  have hkn := (hkb n (by omega)).1
  obtain ⟨-, -, -, -, -, ⟨ao, cap, rfl, -, -⟩, -⟩ := hv
  clear hkb
  go_enter Try.func28, Try.ntmps28
  go_wp2_with fail
  refine (heldProtoS_in n _ f 1 _ (IsProtos.later hv'.out (by go_grown)) hs hk'.out).mono ?_
  rintro e w1 ⟨rfl, b1⟩
  have hb1 : Below w.heap.size w w1 := Below.trans (by go_grown) (b1.mono (by simp))
  clear hv' hk'
  go_wp2_with fail
  go_ret
  exact ⟨rfl, hb1⟩
theorem markChunk_in (n : Nat) (v : Value) (f : Nat → PD) (w : World) (lo hi B0 : Nat) (rng : Nat → Nat) (a : Nat → Nat → Value) (b : Nat → Nat → Nat) (hv : COwn w v n f lo hi B0 rng a b) (hhi : hi ≤ w.heap.size)
    (hs : SmallC ⟨n, f⟩) (hkb : ∀ i, i ≤ n → 1 ≤ kAt 1 f i ∧ kAt 1 f i ≤ 576460752303423488) :
    Calls Try.prog 27 #[.agg #[v], .int .i64 1] w fun e w' => e = .returned (.int .i64 (kAt 1 f n)) ∧ COwn w' v n (fun i => mkP (kAt 1 f i) (f i)) lo hi B0 rng a b ∧ Fr B0 (rng 0) hi w w' := by
  have hv' : Hid _ := hv
  have hk' : Hid _ := hkb
  obtain ⟨⟨ao, cap, rfl, -, -⟩, -, -, -, -, -⟩ := hv
  clear hkb
  go_enter Try.func27, Try.ntmps27
  go_wp2_with fail
  have hb0 : Below w.heap.size w (w.alloc (.cells #[.slice ao n cap] 38)) := by go_grown
  generalize w.alloc (.cells #[.slice ao n cap] 38) = w0 at hb0 ⊢
  have hC : COwn w0 (.slice ao n cap) n f lo hi B0 rng a b := by
    obtain ⟨c1, c2, c3, c4, c5, c6⟩ := hv'.out
    refine ⟨c1.keep fun hp => hb0.block _ (c1.lt hp), c2, c3, c4, c5, fun i hi2 => (c6 i hi2).keep fun c h1 h2 h3 => hb0.block _ h3⟩
  refine (markProtoS_in n _ f 1 _ lo hi B0 rng a b hC hs (by omega) hk'.out).mono ?_
  rintro e w1 ⟨rfl, hC1, hF⟩
  have hF' : Hid (Fr B0 (rng 0) hi w w1) := (Fr.of_below hb0).trans hF
  have hC1' : Hid _ := hC1
  clear hv' hk' hC hC1 hF
  go_wp2_with fail
  go_ret
  exact ⟨rfl, hC1'.out, hF'.out⟩
end Go.Proofs.Ytndpbdpngniepaa

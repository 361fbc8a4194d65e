import Derived.Test.YtebjplogpngeaaaGreatDoorGf
import Derived.Test.YtebjplogpngeaaaGreatDoorGx
import Derived.Test.YtebjplogpngeaaaGreatDoorDuE
import Derived.Test.YtebjplogpngeaaaGreatDoorImG
import Derived.Deep.CutRange
namespace Go.Proofs.YtebjplogpngeaaaGreatDoor
open Go.RowKit Go.Shelf
set_option linter.unusedVariables false
set_option linter.unusedSimpArgs false
set_option maxRecDepth 100000
set_option maxHeartbeats 4000000
/-- a byte that more picks. -/
theorem wPick_in (d : Sl Int) (hd : ∀ i, 0 ≤ d.f i ∧ d.f i ≤ 255) (i : Nat) (hi : i ≤ 255) : ∃ n : Int, (0 ≤ n ∧ n ≤ 255) ∧ ∀ w v, IsCode w v d → Calls Tryz.prog 10 #[v, .int .i64 (i : Int)] w fun e w' => e = .returned (.int .i64 n) ∧ w = w' := by
  by_cases h0 : d.n = 0
  · refine ⟨i, by omega, fun w v hC => ?_⟩
    obtain ⟨ao, cap, rfl⟩ := hC.form
    rw [h0]
    go_enter Tryz.func10, Tryz.ntmps10
    go_wp2_with fail
    go_ret
    exact ⟨rfl, rfl⟩
  · refine ⟨d.f (i % d.n), hd _, fun w v hC => ?_⟩
    obtain ⟨ao, cap, e, hn, hc⟩ := hC.ints
    subst e
    obtain ⟨b, o, rfl, hb, hcc⟩ := hc (by omega)
    have hm : i % d.n < d.n := Nat.mod_lt _ (by omega)
    have c0 := hcc (i % d.n) hm 0 (by omega)
    simp only [Nat.add_zero, Nat.mul_one, iC] at c0
    have h1 : ((d.n : Int) == 0) = false := by simp; omega
    have h2 : ((i : Int).tmod (d.n : Int)) = ((i % d.n : Nat) : Int) := by rw [Int.tmod_eq_emod_of_nonneg (by omega)]; rfl
    have h3 := (hd (i % d.n))
    have hw : IntKind.i64.wrap (d.f (i % d.n)) = d.f (i % d.n) := by simp [IntKind.wrap, IntKind.bits, IntKind.signed]; omega
    have hsm := hC.small
    clear hcc hc hC
    generalize i % d.n = j at *
    go_enter Tryz.func10, Tryz.ntmps10
    go_wp2_with fail
    go_ret
    exact ⟨rfl, rfl⟩
theorem bnd_of {PS : List PD} (h : ∀ x ∈ PS, Bd x) : Bnd (slOf PS) ∧ ∀ i, i < (slOf PS).n → Bd ((slOf PS).f i) := by
  have k : ∀ i, i < (slOf PS).n → Bd ((slOf PS).f i) := fun i hi => slOf_all (P := Bd) h i hi
  refine ⟨⟨fun i hi j hj => ?_, fun i hi j hj => ?_⟩, k⟩
  · have := (k i hi).cw j hj
    simp [Lit.wf, IntKind.min, IntKind.max, IntKind.signed, IntKind.bits]
    omega
  · have := (k i hi).kn j hj
    simp [Lit.wf, IntKind.min, IntKind.max, IntKind.signed, IntKind.bits]
    omega
theorem dump_long (a0 am : Option Addr) (n0 c0 nm cm : Nat) (w : World) (h : 1048576 < n0 ∨ 1048576 < nm) (h1 : n0 ≤ 9223372036854775807) (h2 : nm ≤ 9223372036854775807) :
    Calls Tryz.prog 3 #[.slice a0 n0 c0, .slice am nm cm] w fun e w' => e = .returned (.bool true) ∧ Below w.heap.size w w' := by
  by_cases hA : 1048576 < n0
  · have hI : (n0 : Int) > 1048576 := by omega
    clear h
    go_enter Tryz.func3, Tryz.ntmps3
    go_wp2_with fail
    go_ret
    exact ⟨rfl, by go_grown⟩
  · have hI : ¬ (n0 : Int) > 1048576 := by omega
    have hJ : (nm : Int) > 1048576 := by omega
    clear h
    go_enter Tryz.func3, Tryz.ntmps3
    go_wp2_with fail
    go_ret
    exact ⟨rfl, by go_grown⟩
theorem protos_form {av : Nat → Prop} {w : World} {u : Value} {s : Sl PD} (h : IsProtos av w u s) : ∃ a b, u = .slice a s.n b := by
  obtain ⟨_, _, _, _, _, ⟨a, b, h, _⟩, _⟩ := h
  exact ⟨a, b, h⟩
/-- what lies in the law's variables. -/
structure DS (w0 z : World) (s : Sl PD) (um : Value) (d : Sl Int) (B1 B2 : Nat) (v1 v2 : Value) : Prop where
  r1 : RowL z B1 25 [v1]
  r2 : RowL z B2 25 [v2]
  p1 : IsProtos (· < z.heap.size) z v1 s
  p2 : IsProtos (· < z.heap.size) z v2 s
  more : IsCode z um d
  err : ErrT z
  bel : Below w0.heap.size w0 z
theorem DS.call {w0 z z' : World} {s : Sl PD} {um : Value} {d : Sl Int} {B1 B2 : Nat} {v1 v2 : Value} (h : DS w0 z s um d B1 B2 v1 v2) (b : Below z.heap.size z z') : DS w0 z' s um d B1 B2 v1 v2 :=
  ⟨h.r1.call b, h.r2.call b, h.p1.later b, h.p2.later b, h.more.later b, h.err.below b, h.bel.trans (b.mono h.bel.size)⟩
theorem DS.alloc {w0 z : World} {s : Sl PD} {um : Value} {d : Sl Int} {B1 B2 : Nat} {v1 v2 : Value} (h : DS w0 z s um d B1 B2 v1 v2) (o : Obj) : DS w0 (z.alloc o) s um d B1 B2 v1 v2 := h.call ((Below.refl _ _).alloc (Nat.le_refl _) _)
theorem dump_law (c d : Sl Int) (v um : Value) (w : World) (hC : IsCode w v c) (hM : IsCode w um d) (hE : ErrT w) :
    Calls Tryz.prog 3 #[v, um] w fun e w' => e = .returned (.bool true) ∧ Below w.heap.size w w' := by
  obtain ⟨PS, hB, hD⟩ := drawDump c
  obtain ⟨hbn, hbd⟩ := bnd_of hB
  obtain ⟨n0, hn0, hP0⟩ := wPick_in d hM.byte 0 (by omega)
  obtain ⟨n1, hn1, hP1⟩ := wPick_in d hM.byte 1 (by omega)
  obtain ⟨n2, hn2, hP2⟩ := wPick_in d hM.byte 2 (by omega)
  obtain ⟨ao, cap, rfl⟩ := hC.form
  obtain ⟨am, cm, rfl⟩ := hM.form
  have hsm := hC.small
  have hsm2 := hM.small
  have hI : ¬ (c.n : Int) > 1048576 := by omega
  have hJ : ¬ (d.n : Int) > 1048576 := by omega
  obtain ⟨s, hs⟩ : ∃ s, slOf PS = s := ⟨_, rfl⟩
  rw [hs] at hbn hbd
  have hcall1 : Hid _ := hD w _ hC
  replace hD : Hid _ := hD
  replace hC : Hid (IsCode w (.slice ao c.n cap) c) := hC
  replace hM : Hid (IsCode w (.slice am d.n cm) d) := hM
  replace hE : Hid (ErrT w) := hE
  replace hP0 : Hid _ := hP0
  replace hP1 : Hid _ := hP1
  replace hP2 : Hid _ := hP2
  replace hbn : Hid (Bnd s) := hbn
  replace hbd : Hid (∀ i, i < s.n → Bd (s.f i)) := hbd
  clear hB
  go_enter Tryz.func3, Tryz.ntmps3
  go_wp2_with fail
  refine Calls.mono hcall1.out ?_
  rintro e y1 ⟨u1, rfl, b1, hu1⟩
  rw [hs] at hu1
  obtain ⟨a1, c1, rfl⟩ := protos_form hu1
  have hB1 : Below y1.heap.size y1 (y1.alloc (.cells #[.slice a1 s.n c1] 25)) := (Below.refl _ _).alloc (Nat.le_refl _) _
  have hr1 := RowL.new y1 [.slice a1 s.n c1] 25
  have hcall2 : Hid _ := hD.out _ _ ((hC.out.later b1).later hB1)
  have hv1 : IsProtos (· < y1.heap.size) y1 (.slice a1 s.n c1) s := hu1.mono fun b hb => hb.2
  have hv1a : Hid (IsProtos (· < (y1.alloc (.cells #[.slice a1 s.n c1] 25)).heap.size) (y1.alloc (.cells #[.slice a1 s.n c1] 25)) (.slice a1 s.n c1) s) := hv1.later hB1
  have hbw1 : Hid (Below w.heap.size w (y1.alloc (.cells #[.slice a1 s.n c1] 25))) := b1.trans (hB1.mono b1.size)
  replace hr1 : Hid (RowL (y1.alloc (.cells #[.slice a1 s.n c1] 25)) y1.heap.size 25 [.slice a1 s.n c1]) := hr1
  clear hcall1 hu1 hv1 hD hB1 b1
  go_wp2_with fail
  refine Calls.mono hcall2.out ?_
  rintro e y2 ⟨u2, rfl, b2, hu2⟩
  rw [hs] at hu2
  obtain ⟨a2, c2, rfl⟩ := protos_form hu2
  have hB2 : Below y2.heap.size y2 (y2.alloc (.cells #[.slice a2 s.n c2] 25)) := (Below.refl _ _).alloc (Nat.le_refl _) _
  have hbw2 : Below w.heap.size w y2 := hbw1.out.trans (b2.mono hbw1.out.size)
  have hbw3 : Below w.heap.size w (y2.alloc (.cells #[.slice a2 s.n c2] 25)) := hbw2.trans (hB2.mono hbw2.size)
  have hT : DS w (y2.alloc (.cells #[.slice a2 s.n c2] 25)) s (.slice am d.n cm) d y1.heap.size y2.heap.size (.slice a1 s.n c1) (.slice a2 s.n c2) :=
    ⟨(hr1.out.call b2).call hB2, RowL.new y2 [.slice a2 s.n c2] 25, (hv1a.out.later b2).later hB2, (hu2.mono fun b hb => hb.2).later hB2, hM.out.later hbw3, hE.out.below hbw3, hbw3⟩
  clear hcall2 hu2 hv1a hr1 hB2 hbw1 hbw2 hbw3 b2
  have hDm : Hid _ := implDump_in s (.slice a1 s.n c1) (y2.alloc (.cells #[.slice a2 s.n c2] 25)) hT.p1 hbn.out
  have q1 := hT.r1.cell 0 rfl
  replace hT : Hid (DS w (y2.alloc (.cells #[.slice a2 s.n c2] 25)) s (.slice am d.n cm) d y1.heap.size y2.heap.size (.slice a1 s.n c1) (.slice a2 s.n c2)) := hT
  go_wp2_with fail
  refine Calls.mono hDm.out ?_
  rintro e z1 ⟨hres, b3⟩
  clear hDm q1
  have hT1 := hT.out.call b3
  have hW1 : Hid _ := specWF_in s (.slice a2 s.n c2) z1 hT1.p2
  have q2 := hT1.r2.cell 0 rfl
  replace hT1 : Hid (DS w z1 s (.slice am d.n cm) d y1.heap.size y2.heap.size (.slice a1 s.n c1) (.slice a2 s.n c2)) := hT1
  clear hT b3
  generalize y1.heap.size = B1 at hT1 q2 ⊢
  generalize y2.heap.size = B2 at hT1 q2 ⊢
  rcases hres with ⟨hwf, rfl⟩ | ⟨hwf, rfl⟩
  · go_wp2_with fail
    refine Calls.mono hW1.out ?_
    rintro e z2 ⟨⟨r, rfl, hr⟩, b4⟩
    obtain rfl : r = true := hr.2 hwf
    clear hW1 q2 hr
    have hT2 := hT1.out.call b4
    have hW2 : Hid _ := implWF_in s (.slice a1 s.n c1) z2 hT2.p1
    have q1 := hT2.r1.cell 0 rfl
    replace hT2 : Hid (DS w z2 s (.slice am d.n cm) d B1 B2 (.slice a1 s.n c1) (.slice a2 s.n c2)) := hT2
    clear hT1 b4
    go_wp2_with fail
    refine Calls.mono hW2.out ?_
    rintro e z3 ⟨⟨r, rfl, hr⟩, b5⟩
    obtain rfl : r = true := hr.2 hwf
    clear hW2 q1 hr
    have hT3 := hT2.out.call b5
    have hpw : ∀ i, i < s.n → PW (s.f i) := fun i hi => pw_of hwf hbn.out i hi
    have hsz := chunkB_size s hwf
    have hsz0 : 6 ≤ (chunkB s).size := by unfold chunkB; rw [ByteArray.size_append, headB_size]; omega
    obtain ⟨V, hV⟩ := vrAt_any (chunkB s) (by omega)
    obtain ⟨hc0, hct⟩ := code_back hV hwf hpw
    have hL1 : Hid _ := implLoad_in (chunkB s) V hV.ok (by omega) z3 hT3.err
    replace hT3 : Hid (DS w z3 s (.slice am d.n cm) d B1 B2 (.slice a1 s.n c1) (.slice a2 s.n c2)) := hT3
    replace hpw : Hid (∀ i, i < s.n → PW (s.f i)) := hpw
    obtain ⟨X, hX⟩ : ∃ X, chunkB s = X := ⟨_, rfl⟩
    rw [hX] at hL1 hsz hsz0 hc0 hct ⊢
    replace hX : Hid (chunkB s = X) := hX
    replace hwf : Hid (Wf s) := hwf
    clear hT2 b5 hV
    go_wp2_with fail
    refine Calls.mono hL1.out ?_
    rintro e z4 ⟨b6, -, hy⟩
    obtain ⟨vb, its, mid, y, hyy, rfl, htr, hits⟩ := hy hc0
    rw [hct] at hits
    have hbk := back_is htr hwf.out hpw.out hits
    obtain ⟨ab, cb, rfl⟩ := protos_form hbk
    clear hL1 hy htr hits hct hc0 hyy
    have hT4 := (hT3.out.call b6).alloc (.cells #[.slice ab s.n cb] 25)
    have R3 := RowL.new z4 [.slice ab s.n cb] 25
    have hbk4 : IsProtos (· < (z4.alloc (.cells #[.slice ab s.n cb] 25)).heap.size) (z4.alloc (.cells #[.slice ab s.n cb] 25)) (.slice ab s.n cb) s := hbk.later ((Below.refl _ _).alloc (Nat.le_refl _) _)
    have hsame : Hid _ := wSameChunk_in s (.slice ab s.n cb) (.slice a2 s.n c2) _ hbk4 hT4.p2
    have q2 := hT4.r2.cell 0 rfl
    have q3 := R3.cell 0 rfl
    replace hT4 : Hid (DS w (z4.alloc (.cells #[.slice ab s.n cb] 25)) s (.slice am d.n cm) d B1 B2 (.slice a1 s.n c1) (.slice a2 s.n c2)) := hT4
    clear hT3 R3 hbk hbk4 b6
    go_wp2_with fail
    refine Calls.mono hsame.out ?_
    rintro e z5 ⟨rfl, b7⟩
    clear hsame q2 q3
    have hT5 := hT4.out.call b7
    have hp0 : Hid _ := hP0.out z5 _ hT5.more
    have hp1 : Hid _ := hP1.out z5 _ hT5.more
    clear hT4 b7 hP0 hP1
    have hwa : IntKind.i64.wrap (n0 * 256) = n0 * 256 := by simp [IntKind.wrap, IntKind.bits, IntKind.signed]; omega
    have hwb : IntKind.i64.wrap (n0 * 256 + n1) = n0 * 256 + n1 := by simp [IntKind.wrap, IntKind.bits, IntKind.signed]; omega
    obtain ⟨at0, hat⟩ : ∃ k : Nat, (n0 * 256 + n1).tmod ((X.size : Int) + 1) = (k : Int) := Int.eq_ofNat_of_zero_le (by rw [Int.tmod_eq_emod_of_nonneg (by omega)]; exact Int.emod_nonneg _ (by omega))
    have hatl : at0 ≤ X.size := by
      have h1 := Int.tmod_eq_emod_of_nonneg (a := n0 * 256 + n1) (b := (X.size : Int) + 1) (by omega)
      have h2 := Int.emod_lt_of_pos (n0 * 256 + n1) (b := (X.size : Int) + 1) (by omega)
      omega
    replace hT5 : Hid (DS w z5 s (.slice am d.n cm) d B1 B2 (.slice a1 s.n c1) (.slice a2 s.n c2)) := hT5
    have hwc : IntKind.i64.wrap ((X.size : Int) + 1) = (X.size : Int) + 1 := by simp [IntKind.wrap, IntKind.bits, IntKind.signed]; omega
    go_wp2_with fail
    refine Calls.mono hp0.out ?_
    rintro e w' ⟨rfl, rfl⟩
    go_wp2_with fail
    refine Calls.mono hp1.out ?_
    rintro e w' ⟨rfl, rfl⟩
    clear hp0 hp1
    go_upto_if 82 with fail
    go_cut [12] from 17 (fun sx wr => z5 = wr ∧ ∃ k : Nat, sx = .int .i64 (k : Int) ∧ k < X.size)
    case first =>
      by_cases hk : at0 = X.size
      · have hbe : ((at0 : Int) == (X.size : Int)) = true := by simp; omega
        go_wp2_with fail
        go_meet
        case rel => exact ⟨rfl, 0, rfl, by omega⟩
      · have hbe : ((at0 : Int) == (X.size : Int)) = false := by simp; omega
        go_wp2_with fail
        go_meet
        case rel => exact ⟨rfl, at0, rfl, by omega⟩
    obtain ⟨hw9, k, hs9, hk⟩ := hcut
    subst hw9
    subst hs9
    clear hat hatl hwa hwb hwc
    have hsl : ∀ wx, (Instr.slice 9 (.string X) none (some (.int .i64 (k : Int))) none).run Tryz.prog wx = .ok (.string (X.extract 0 k)) wx := fun wx => WPut.sl_head X k wx (by omega)
    have hxs : (X.extract 0 k).size = k := by rw [ByteArray.size_extract]; omega
    obtain ⟨V2, hV2⟩ := vrAt_any (X.extract 0 k) (by omega)
    have hcut2 : X = X.extract 0 k ++ X.extract k X.size := by
      rw [ByteArray.extract_append_extract]
      simp
    have hne : rdCode (X.extract 0 k) V2 ≠ 0 := code_cut hV2 (t := X.extract k X.size) (hX.out.trans hcut2) (by rw [ByteArray.size_extract]; omega) hwf.out hpw.out
    have hL2 : Hid _ := implLoad_in (X.extract 0 k) V2 hV2.ok (by omega) z5 hT5.out.err
    clear hcut2
    go_wp2_with fail
    refine Calls.mono hL2.out ?_
    rintro e z6 ⟨b8, hx, -⟩
    obtain rfl := hx hne
    clear hL2 hx hV2 hsl hxs
    generalize rdCode (X.extract 0 k) V2 = k2 at hne ⊢
    have hkb : (k2 != 0) = true := by simpa using hne
    have hT6 := (hT5.out.call b8).alloc (.cells #[.slice none 0 0] 25)
    have R6 : Hid (RowL (z6.alloc (.cells #[.slice none 0 0] 25)) z6.heap.size 25 [.slice none 0 0]) := RowL.new z6 [.slice none 0 0] 25
    have hp2 : Hid _ := hP2.out _ _ hT6.more
    have hcv := conv_one (z6.alloc (.cells #[.slice none 0 0] 25)) n2
    rw [World.size_alloc] at hcv
    have hw8 : IntKind.u8.wrap n2 = n2 := by simp [IntKind.wrap, IntKind.bits, IntKind.signed]; omega
    have hT7 := hT6.alloc (.cells #[.int .u8 n2] 5)
    obtain ⟨V3, hV3⟩ := vrAt_any (chunkB s ++ strOfNums [n2]) (by rw [ByteArray.size_append, strOfNums_size, hX.out]; simp only [List.length_cons, List.length_nil]; omega)
    have h5 := code_tail hV3 hwf.out hpw.out (by rw [strOfNums_size]; exact Nat.zero_lt_one)
    rw [hX.out] at hV3 h5
    have hss : (strOfNums [n2]).size = 1 := strOfNums_size _
    have hsx : (X ++ strOfNums [n2]).size = X.size + 1 := by rw [ByteArray.size_append, hss]
    have hL3 : Hid _ := implLoad_in (X ++ strOfNums [n2]) V3 hV3.ok (by omega) ((z6.alloc (.cells #[.slice none 0 0] 25)).alloc (.cells #[.int .u8 n2] 5)) hT7.err
    replace hT7 : Hid (DS w ((z6.alloc (.cells #[.slice none 0 0] 25)).alloc (.cells #[.int .u8 n2] 5)) s (.slice am d.n cm) d B1 B2 (.slice a1 s.n c1) (.slice a2 s.n c2)) := hT7
    replace h5 : Hid _ := h5
    clear hT5 b8 hT6 hP2 hV3
    go_wp2_with fail
    refine Calls.mono hp2.out ?_
    rintro e w' ⟨rfl, rfl⟩
    go_wp2_with fail
    refine Calls.mono hL3.out ?_
    rintro e z8 ⟨b9, hx, -⟩
    rw [h5.out] at hx
    obtain rfl := hx (by decide)
    have q13 := (((R6.out.alloc (.cells #[.int .u8 n2] 5)).call b9).alloc (.cells #[.slice none 0 0] 25)).cell 0 rfl
    have q15 := (RowL.new z8 [.slice none 0 0] 25).cell 0 rfl
    have hfin := ((hT7.out.call b9).alloc (.cells #[.slice none 0 0] 25)).bel
    clear hL3 hx h5 hcv hp2 hT7 R6 b9
    go_wp2_with fail
    go_ret
    exact ⟨rfl, hfin⟩
  · have hbw : Hid (Below w.heap.size w z1) := hT1.out.bel
    go_wp2_with fail
    refine Calls.mono hW1.out ?_
    rintro e z2 ⟨⟨r, rfl, hr⟩, b4⟩
    obtain rfl : r = false := by
      cases r with
      | false => rfl
      | true => exact absurd (hr.1 rfl) hwf
    clear hW1 q2 hr
    have hT2 := hT1.out.call b4
    have hW2 : Hid _ := implWF_in s (.slice a1 s.n c1) z2 hT2.p1
    have q1 := hT2.r1.cell 0 rfl
    replace hT2 : Hid (DS w z2 s (.slice am d.n cm) d B1 B2 (.slice a1 s.n c1) (.slice a2 s.n c2)) := hT2
    clear hT1 b4
    go_wp2_with fail
    refine Calls.mono hW2.out ?_
    rintro e z3 ⟨⟨r, rfl, hr⟩, b5⟩
    obtain rfl : r = false := by
      cases r with
      | false => rfl
      | true => exact absurd (hr.1 rfl) hwf
    have hT3 := (hT2.out.call b5).bel
    clear hW2 q1 hr hT2 hbw
    go_wp2_with fail
    go_ret
    exact ⟨rfl, hT3⟩
end Go.Proofs.YtebjplogpngeaaaGreatDoor

import Derived.Test.YtcbifllencnbaaaImE
namespace Go.Proofs.Ytcbifllencnbaaa
open Go.RowKit Go.Lib Go.Shelf
set_option linter.unusedVariables false
set_option linter.unusedSimpArgs false
set_option maxRecDepth 100000 in
set_option maxHeartbeats 2000000 in
theorem wProto_in (P lo : Nat) (p : PD) (a3 a4 a5 a8 a9 : Value) (w0 : World) (v0 : Value) (y : World) (v : Value) (X : ByteArray) (h : Wt P w0 v0 y v X) (hp : IsProto (· < lo) y a3 a4 a5 a8 a9 p) (hw : PW p) (hP : lo ≤ P) (hlo : lo ≤ y.heap.size) (hv : ∀ k, v.ownBlock = some k → lo ≤ k) (hs : X.size + (protoB p).size ≤ 70368744177664) :
    Calls Try.prog 16 #[.pointer (some ⟨P, 0, none⟩), pAgg p a3 a4 a5 a8 a9] y fun e w' => (∃ v', e = .returned (.tuple #[]) ∧ Wt P w0 v0 w' v' (X ++ protoB p)) := by
  obtain ⟨h3, h4, h5, h8, h9, hnm⟩ := hp
  obtain ⟨o3, c3, rfl, n3, -⟩ := id h3
  obtain ⟨o4, c4, rfl, n4, -⟩ := id h4.1
  obtain ⟨o5, c5, rfl, n5, -⟩ := id h5
  obtain ⟨o8, c8, rfl, n8, -⟩ := id h8
  obtain ⟨o9, c9, rfl, n9, -⟩ := id h9.1
  replace h3 : Hid (IsArr (· < lo) y (.slice o3 p.code.n c3) 1 p.code.n (iC .u32 p.code.f)) := h3
  replace h4 : Hid (IsArr (· < lo) y (.slice o4 p.consts.n c4) 3 p.consts.n (vC p.consts.f)) := h4.1
  replace h5 : Hid (IsArr (· < lo) y (.slice o5 p.ups.n c5) 2 p.ups.n (uC p.ups.f)) := h5
  replace h8 : Hid (IsArr (· < lo) y (.slice o8 p.lines.n c8) 1 p.lines.n (iC .i64 p.lines.f)) := h8
  replace h9 : Hid (IsArr (· < lo) y (.slice o9 p.upNames.n c9) 1 p.upNames.n (sC p.upNames.f)) := h9.1
  replace hw : Hid (PW p) := hw
  have hsum : Hid (X.size + ((flagB p.vararg).size + (WPut.pv p.params).size + (WPut.pv p.regs).size + (pvN p.code.n).size + (cat (fun i => u4 (p.code.f i)) p.code.n).size + (pvN p.consts.n).size + (cat (fun i => constB (p.consts.f i)) p.consts.n).size + (pvN p.ups.n).size + (cat (fun i => upB (p.ups.f i)) p.ups.n).size + (WPut.pv p.kids).size + (debugB p).size) ≤ 70368744177664) := by
    show _ ≤ _
    unfold protoB codeB constsB upsB at hs
    simp only [ByteArray.size_append] at hs
    exact hs
  have hPl := h.box.lt
  have hol : Hid (∀ k, v.ownBlock = some k → k < y.heap.size) := h.buf.lt
  unfold pAgg
  go_enter Try.func16, Try.ntmps16
  go_wp2_with fail
  have RP := RowL.new y [.int .i64 p.params, .bool p.vararg, .int .i64 p.regs, .slice o3 p.code.n c3, .slice o4 p.consts.n c4, .slice o5 p.ups.n c5, .int .i64 p.kids, .string p.name, .slice o8 p.lines.n c8, .slice o9 p.upNames.n c9] 45
  have bw : Below y.heap.size y (y.alloc (.cells #[.int .i64 p.params, .bool p.vararg, .int .i64 p.regs, .slice o3 p.code.n c3, .slice o4 p.consts.n c4, .slice o5 p.ups.n c5, .int .i64 p.kids, .string p.name, .slice o8 p.lines.n c8, .slice o9 p.upNames.n c9] 45)) := by go_grown
  have sz0 : (y.alloc (.cells #[.int .i64 p.params, .bool p.vararg, .int .i64 p.regs, .slice o3 p.code.n c3, .slice o4 p.consts.n c4, .slice o5 p.ups.n c5, .int .i64 p.kids, .string p.name, .slice o8 p.lines.n c8, .slice o9 p.upNames.n c9] 45)).heap.size = y.heap.size + 1 := by simp
  generalize y.alloc (.cells #[.int .i64 p.params, .bool p.vararg, .int .i64 p.regs, .slice o3 p.code.n c3, .slice o4 p.consts.n c4, .slice o5 p.ups.n c5, .int .i64 p.kids, .string p.name, .slice o8 p.lines.n c8, .slice o9 p.upNames.n c9] 45) = wx at RP bw sz0 ⊢
  have hWx : Hid (Wt P w0 v0 wx v X) := h.later bw
  have hcell : Hid (∀ z u, Fr (fun k => k = P) wx v z u → (z.cell? ⟨y.heap.size, 0, none⟩ = some (.int .i64 p.params) ∧ z.cell? ⟨y.heap.size, 1, none⟩ = some (.bool p.vararg) ∧ z.cell? ⟨y.heap.size, 2, none⟩ = some (.int .i64 p.regs) ∧ z.cell? ⟨y.heap.size, 3, none⟩ = some (.slice o3 p.code.n c3) ∧ z.cell? ⟨y.heap.size, 4, none⟩ = some (.slice o4 p.consts.n c4) ∧ z.cell? ⟨y.heap.size, 5, none⟩ = some (.slice o5 p.ups.n c5) ∧ z.cell? ⟨y.heap.size, 6, none⟩ = some (.int .i64 p.kids) ∧ z.cell? ⟨y.heap.size, 7, none⟩ = some (.string p.name) ∧ z.cell? ⟨y.heap.size, 8, none⟩ = some (.slice o8 p.lines.n c8) ∧ z.cell? ⟨y.heap.size, 9, none⟩ = some (.slice o9 p.upNames.n c9))) := fun z u hF => by
    have R : RowL z y.heap.size 45 [.int .i64 p.params, .bool p.vararg, .int .i64 p.regs, .slice o3 p.code.n c3, .slice o4 p.consts.n c4, .slice o5 p.ups.n c5, .int .i64 p.kids, .string p.name, .slice o8 p.lines.n c8, .slice o9 p.upNames.n c9] := World.rowIs.of_block RP (hF.block _ (by omega) (by omega) fun e => by have := hol.out _ e; omega)
    exact ⟨R.cell 0 rfl, R.cell 1 rfl, R.cell 2 rfl, R.cell 3 rfl, R.cell 4 rfl, R.cell 5 rfl, R.cell 6 rfl, R.cell 7 rfl, R.cell 8 rfl, R.cell 9 rfl⟩
  have hlow : Hid (∀ z u, Fr (fun k => k = P) wx v z u → ∀ k, k < lo → z.heap[k]? = y.heap[k]?) := fun z u hF k hk => (hF.low hP (by omega) hv k hk).trans (bw.block k (by omega))
  have hown : Hid (∀ z u, Fr (fun k => k = P) wx v z u → ∀ k, u.ownBlock = some k → lo ≤ k) := fun z u hF k hk => by
    rcases hF.own with e | e
    · exact hv k (e ▸ hk)
    · have := e k hk
      omega
  have hsize : Hid (∀ z u, Fr (fun k => k = P) wx v z u → lo ≤ z.heap.size) := fun z u hF => by have := hF.size; omega
  have T0 : Wt P wx v wx v X := hWx.out.fresh
  clear RP bw h hol hv hs
  refine (wFlag_in P p.vararg wx v wx v X T0 (by have := hsum.out; simp only [ByteArray.size_append, pv_nat, flagB_size] at this ⊢; omega)).mono ?_
  rintro e y1 ⟨v1, rfl, T1⟩
  clear T0
  try clear cl
  have cl := (hcell.out y1 _ T1.fr).1
  replace T1 : Hid (Wt P wx v y1 v1 _) := T1
  go_wp2_with fail
  refine (wNumber_in P p.params wx v y1 v1 _ T1.out (by have := hsum.out; simp only [ByteArray.size_append, pv_nat, flagB_size] at this ⊢; omega)).mono ?_
  rintro e y2 ⟨v2, rfl, T2⟩
  try clear cl
  have cl := (hcell.out y2 _ T2.fr).2.2.1
  replace T2 : Hid (Wt P wx v y2 v2 _) := T2
  go_wp2_with fail
  refine (wNumber_in P p.regs wx v y2 v2 _ T2.out (by have := hsum.out; simp only [ByteArray.size_append, pv_nat, flagB_size] at this ⊢; omega)).mono ?_
  rintro e y3 ⟨v3, rfl, T3⟩
  try clear cl
  have cl := (hcell.out y3 _ T3.fr).2.2.2.1
  replace T3 : Hid (Wt P wx v y3 v3 _) := T3
  go_wp2_with fail
  refine (putWords_in P lo p.code.n c3 o3 p.code.f wx v y3 v3 _ T3.out (by omega) (h3.out.keep (hlow.out _ _ T3.out.fr)) hP (hsize.out _ _ T3.out.fr) (hown.out _ _ T3.out.fr) hw.out.code (by have := hsum.out; simp only [ByteArray.size_append, pv_nat, flagB_size] at this ⊢; omega)).mono ?_
  rintro e y4 ⟨v4, rfl, T4⟩
  try clear cl
  have cl := (hcell.out y4 _ T4.fr).2.2.2.2.1
  replace T4 : Hid (Wt P wx v y4 v4 _) := T4
  go_wp2_with fail
  refine (putVals_in P lo p.consts.n c4 o4 p.consts.f wx v y4 v4 _ T4.out (by omega) (h4.out.keep (hlow.out _ _ T4.out.fr)) hP (hsize.out _ _ T4.out.fr) (hown.out _ _ T4.out.fr) hw.out.consts (by have := hsum.out; simp only [ByteArray.size_append, pv_nat, flagB_size] at this ⊢; omega)).mono ?_
  rintro e y5 ⟨v5, rfl, T5⟩
  try clear cl
  have cl := (hcell.out y5 _ T5.fr).2.2.2.2.2.1
  replace T5 : Hid (Wt P wx v y5 v5 _) := T5
  go_wp2_with fail
  refine (putUps_in P lo p.ups.n c5 o5 p.ups.f wx v y5 v5 _ T5.out (by omega) (h5.out.keep (hlow.out _ _ T5.out.fr)) hP (hsize.out _ _ T5.out.fr) (hown.out _ _ T5.out.fr) (by have := hsum.out; simp only [ByteArray.size_append, pv_nat, flagB_size] at this ⊢; omega)).mono ?_
  rintro e y6 ⟨v6, rfl, T6⟩
  try clear cl
  have cl := (hcell.out y6 _ T6.fr).2.2.2.2.2.2.1
  replace T6 : Hid (Wt P wx v y6 v6 _) := T6
  go_wp2_with fail
  refine (wNumber_in P p.kids wx v y6 v6 _ T6.out (by have := hsum.out; simp only [ByteArray.size_append, pv_nat, flagB_size] at this ⊢; omega)).mono ?_
  rintro e y7 ⟨v7, rfl, T7⟩
  have T7' : Hid (Wt P wx v y7 v7 (X ++ pre7 p)) := by
    show Wt P wx v y7 v7 _
    unfold pre7 pre5 pre3 pre1 codeB constsB upsB
    simp only [ByteArray.append_assoc] at T7 ⊢
    exact T7
  clear T7 T1 T2 T3 T4 T5 T6 cl
  have hsum7 : Hid (X.size + ((pre7 p).size + (debugB p).size) ≤ 70368744177664) := by
    have := hsum.out
    show _ ≤ _
    unfold pre7 pre5 pre3 pre1 codeB constsB upsB
    simp only [ByteArray.size_append]
    omega
  clear hsum
  obtain ⟨e0, e1, e2, e3, e4, e5, e6, e7, e8, e9⟩ := hcell.out y7 _ T7'.out.fr
  go_wp2_with fail
  have hbr := hasDebug_in p o3 o4 o5 o8 o9 c3 c4 c5 c8 c9 y7
  unfold pAgg at hbr
  refine hbr.mono ?_
  rintro e y8 ⟨⟨r, rfl, hr⟩, b8⟩
  have T8 : Hid (Wt P wx v y8 v7 (X ++ pre7 p)) := T7'.out.later b8
  clear T7' b8 hbr e0 e1 e2 e3 e4 e5 e6 e7 e8 e9
  have hd1 : Hid (1 ≤ (debugB p).size) := by
    show 1 ≤ _
    by_cases hb : Bare p
    · rw [debugB_bare hb, flagB_size]; omega
    · rw [debugB_full hb]; simp only [ByteArray.size_append, flagB_size]; omega
  go_wp2_with fail
  refine (wFlag_in P r wx v y8 v7 _ T8.out (by have h1 := hsum7.out; have h2 := hd1.out; rw [ByteArray.size_append]; omega)).mono ?_
  rintro e y9 ⟨v9, rfl, T9⟩
  replace T9 : Hid (Wt P wx v y9 v9 (X ++ pre7 p ++ flagB r)) := T9
  clear T8
  obtain ⟨e0, e1, e2, e3, e4, e5, e6, e7, e8, e9⟩ := hcell.out y9 _ T9.out.fr
  replace hr : Hid (r = true ↔ ¬ Bare p) := hr
  go_wp2_with fail
  have hbr := hasDebug_in p o3 o4 o5 o8 o9 c3 c4 c5 c8 c9 y9
  unfold pAgg at hbr
  refine hbr.mono ?_
  rintro e y10 ⟨⟨r', rfl, hr'⟩, b10⟩
  obtain rfl : r' = r := by
    have := hr'.trans hr.out.symm
    cases r' <;> cases r <;> simp_all
  have T10 : Hid (Wt P wx v y10 v9 (X ++ pre7 p ++ flagB r')) := T9.out.later b10
  clear T9 b10 hbr e0 e1 e2 e3 e4 e5 e6 e7 e8 e9 hr'
  cases r' with
  | false =>
    have hbare : Bare p := Classical.byContradiction fun h => by simpa using hr.out.2 h
    have hfin : Hid (Wt P w0 v0 y10 v9 (X ++ protoB p)) := by
      have := hWx.out.trans T10.out
      rw [protoB_bare hbare, ← ByteArray.append_assoc]
      exact this
    clear T10 hr
    go_wp2_with fail
    exact bodyPost_end (results_none rfl _ _ _) rfl ⟨_, rfl, hfin.out⟩
  | true =>
    have hbare : ¬ Bare p := hr.out.1 rfl
    have hsd : Hid (X.size + ((pre7 p).size + (1 + (sizedB p.name).size + (pvN p.lines.n).size + (cat (fun i => WPut.pv (p.lines.f i)) p.lines.n).size + (pvN p.upNames.n).size + (cat (fun i => sizedB (p.upNames.f i)) p.upNames.n).size)) ≤ 70368744177664) := by
      have := hsum7.out
      rw [debugB_full hbare] at this
      unfold linesB upNamesB at this
      simp only [ByteArray.size_append, flagB_size] at this
      exact this
    clear hr hsum7 hd1
    have cl := (hcell.out y10 _ T10.out.fr).2.2.2.2.2.2.2.1
    go_wp2_with fail
    refine (wText_in P p.name wx v y10 v9 _ T10.out (by have := hw.out.name; omega) (by have := hsd.out; simp only [ByteArray.size_append, flagB_size]; omega)).mono ?_
    rintro e y11 ⟨v11, rfl, T11⟩
    replace T11 : Hid (Wt P wx v y11 v11 (X ++ pre7 p ++ flagB true ++ sizedB p.name)) := T11
    clear T10 cl
    have cl := (hcell.out y11 _ T11.out.fr).2.2.2.2.2.2.2.2.1
    go_wp2_with fail
    refine (putInts_in P lo p.lines.n c8 o8 p.lines.f wx v y11 v11 _ T11.out (by omega) (h8.out.keep (hlow.out _ _ T11.out.fr)) hP (hsize.out _ _ T11.out.fr) (hown.out _ _ T11.out.fr) (by have := hsd.out; simp only [ByteArray.size_append, flagB_size]; omega)).mono ?_
    rintro e y12 ⟨v12, rfl, T12⟩
    replace T12 : Hid (Wt P wx v y12 v12 (X ++ pre7 p ++ flagB true ++ sizedB p.name ++ pvN p.lines.n ++ cat (fun i => WPut.pv (p.lines.f i)) p.lines.n)) := T12
    clear T11 cl
    have cl := (hcell.out y12 _ T12.out.fr).2.2.2.2.2.2.2.2.2
    go_wp2_with fail
    refine (putTexts_in P lo p.upNames.n c9 o9 p.upNames.f wx v y12 v12 _ T12.out (by omega) (h9.out.keep (hlow.out _ _ T12.out.fr)) hP (hsize.out _ _ T12.out.fr) (hown.out _ _ T12.out.fr) hw.out.upNames (by have := hsd.out; simp only [ByteArray.size_append, flagB_size]; omega)).mono ?_
    rintro e y13 ⟨v13, rfl, T13⟩
    have hfin : Hid (Wt P w0 v0 y13 v13 (X ++ protoB p)) := by
      have := hWx.out.trans T13
      rw [protoB_full hbare]
      unfold pre9 pre8 linesB upNamesB
      simp only [ByteArray.append_assoc] at this ⊢
      exact this
    clear T12 T13 cl
    go_wp2_with fail
    exact bodyPost_end (results_none rfl _ _ _) rfl ⟨_, rfl, hfin.out⟩
end Go.Proofs.Ytcbifllencnbaaa

import Derived.Test.YtpobiffihiaakaaGreatDoorLtB
namespace Go.Proofs.YtpobiffihiaakaaGreatDoor
open Go.RowKit
set_option linter.unusedVariables false
set_option linter.unusedSimpArgs false
set_option maxRecDepth 100000
set_option maxHeartbeats 1000000
theorem hidR {p : Prop} (h : p) : Hid p := h
theorem rdCnt_pos {s : ByteArray} {V : Nat → Option (Int × Nat)} (hV : VrOk s V) {all : Int} {r : RS} (hp : r.pos ≤ s.size) : (rdCnt s V all r).2.pos ≤ s.size := by
  have h := rdAny_pos hV hp
  unfold rdCnt
  dsimp only
  split
  · exact h
  · split
    · exact h
    · exact h
theorem rdCnt_bd {s : ByteArray} {V : Nat → Option (Int × Nat)} {all : Int} (r : RS) (h : 0 ≤ all) : 0 ≤ (rdCnt s V all r).1 ∧ (rdCnt s V all r).1 ≤ all := by
  unfold rdCnt
  dsimp only
  split
  · exact ⟨Int.le_refl _, h⟩
  · split
    · rename_i e
      rcases e with e | e <;> rw [e] <;> omega
    · exact ⟨Int.le_refl _, h⟩
theorem own_low {base b2 : Nat} {e : TypeId} {z n : Nat} {y : World} {v : Value} {xs : List Value} (h : y.ownsRow base e z v n xs) (hb : b2 ≤ base) : y.ownsRow b2 e z v n xs := by
  refine ⟨h.1, ?_⟩
  rcases h.2 with hn | ⟨g, cap, cur, hv, hbb, rest⟩
  · exact .inl hn
  · exact .inr ⟨g, cap, cur, hv, by omega, rest⟩
theorem own_slice {base : Nat} {e : TypeId} {z n : Nat} {y : World} {v : Value} {xs : List Value} (h : y.ownsRow base e z v n xs) : ∃ o k, v = .slice o n k := by
  rcases h.2 with ⟨rfl, rfl⟩ | ⟨g, cap, cur, rfl, _⟩
  · exact ⟨_, _, rfl⟩
  · exact ⟨_, _, rfl⟩
theorem rdDbg_eq {s : ByteArray} {V : Nat → Option (Int × Nat)} {nc nu na nb : Nat} {r r1 r2 r3 r4 r5 : RS} {t : ByteArray} {ls : List Int} {ns : List ByteArray} (et : rdText s V r = (t, r1)) (ea : rdCnt s V nc r1 = ((na : Int), r2)) (els : rdSev (rdAny s V) na r2 [] = (ls, r3)) (eb : rdCnt s V nu r3 = ((nb : Int), r4)) (ens : rdSev (rdText s V) nb r4 [] = (ns, r5)) :
    rdDbg s V nc nu r = ((t, ls, ns), if t.size = 0 ∧ ls.length = 0 ∧ ns.length = 0 then r5.fail 3 else r5) := by
  simp only [rdDbg, et, ea, els, eb, ens, Int.toNat_natCast]
theorem debug_in (s : ByteArray) (V : Nat → Option (Int × Nat)) (hV : VrOk s V) (r : RS) (ab an : Int) (R P : Nat) (w : World) (h : RowL w R 67 (rdL s r ab an)) (hs : s.size ≤ 1048576) (hp : r.pos ≤ s.size)
    (c0 c1 c2 c4 c6 c7 c8 c9 : Value) (o3 o5 : Option Addr) (nc k3 nu k5 : Nat) (hcs : ∀ u ∈ [c0, c1, c2, .slice o3 nc k3, c4, .slice o5 nu k5, c6], u.oneCell' = true) (hnc : nc ≤ 2000) (hnu : nu ≤ 60)
    (hP : RowL w P 38 [c0, c1, c2, .slice o3 nc k3, c4, .slice o5 nu k5, c6, c7, c8, c9]) (hPR : P ≠ R) :
    Calls Tryz.prog 69 #[.pointer (some ⟨R, 0, none⟩), .pointer (some ⟨P, 0, none⟩)] w fun e w' => e = .returned (.tuple #[]) ∧ ∃ vl vn m,
      w'.ownsRow w.heap.size 3 1 vl (rdDbg s V nc nu r).1.2.1.length ((rdDbg s V nc nu r).1.2.1.flatMap cLines) ∧ w'.ownsRow w.heap.size 9 1 vn (rdDbg s V nc nu r).1.2.2.length ((rdDbg s V nc nu r).1.2.2.flatMap cNames) ∧
      (∀ q, vl.ownBlock = some q → q < m) ∧ (∀ q, vn.ownBlock = some q → m ≤ q) ∧
      RowL w' P 38 [c0, c1, c2, .slice o3 nc k3, c4, .slice o5 nu k5, c6, .string (rdDbg s V nc nu r).1.1, vl, vn] ∧ RowL w' R 67 (rdL s (rdDbg s V nc nu r).2 ab an) ∧ Ex2 R P w w' := by
  have hRlt : R < w.heap.size := World.rowIs.lt h
  have hPlt : P < w.heap.size := World.rowIs.lt hP
  have ht : Hid _ := text_in s V hV clOk r ab an R w h hs hp
  have hp1 := rdText_pos hV hp
  obtain ⟨x, et⟩ : ∃ x, rdText s V r = x := ⟨_, rfl⟩
  rw [et] at ht hp1
  obtain ⟨t, r1⟩ := x
  dsimp only at ht hp1
  replace et := hidR et
  replace hP := hidR hP
  clear h
  go_enter Tryz.func69, Tryz.ntmps69
  go_wp2_with fail
  refine Calls.mono ht.out ?_
  rintro e y1 ⟨rfl, hr1, hx1⟩
  clear ht
  have hP1 := hx1.row hP.out hPR
  have f7 := hP1.frozen 7
  have e7 := hP1.cell 7 rfl
  have hP2 := hP1.set 7 (.string t)
  have hR2 := hr1.other (a := ⟨P, 7, none⟩) (fun e => hPR e.symm) (.string t)
  have hx2 := (hx1.two P).set 7 (.string t)
  replace hP2 := hidR hP2
  replace hR2 := hidR hR2
  clear hP1 hr1
  go_upto_region 1 with fail
  generalize y1.setCell ⟨P, 7, none⟩ (.string t) = y2 at hP2 hR2 hx2 ⊢
  replace hP2 : RowL y2 P 38 [c0, c1, c2, .slice o3 nc k3, c4, .slice o5 nu k5, c6, .string t, c8, c9] := hP2.out
  replace hR2 : RowL y2 R 67 (rdL s r1 ab an) := hR2.out
  have e3 := hP2.cell 3 rfl
  -- the number of lines
  have hc : Hid _ := debugCount_in s V hV nc r1 ab an R y2 hR2 hs hp1
  have hp2 := rdCnt_pos (all := (nc : Int)) hV hp1
  have hb2 := rdCnt_bd (s := s) (V := V) (all := (nc : Int)) r1 (by omega)
  obtain ⟨x, ea⟩ : ∃ x, rdCnt s V nc r1 = x := ⟨_, rfl⟩
  rw [ea] at hc hp2 hb2
  obtain ⟨na, r2⟩ := x
  obtain ⟨na, rfl⟩ : ∃ k : Nat, na = k := ⟨na.toNat, by dsimp only at hb2; omega⟩
  dsimp only at hc hp2 hb2
  replace ea := hidR ea
  replace hP2 := hidR hP2
  clear hR2 f7 e7
  go_wp2_with fail
  refine Calls.mono hc.out ?_
  rintro e y3 ⟨rfl, hr3, hx3⟩
  have hP3 := hx3.row hP2.out hPR
  have hx3' := hx2.trans (hx3.two P)
  clear hc hP2 e3 hx2 hx3
  -- the lines
  have hv : Hid _ := severalLines_in (rdAny s V) s ab an R na r2 y3 (fun r y hy hq => any_in s V hV r ab an R y hy hs hq) (fun r hq => rdAny_pos hV hq) hr3 hp2 (by omega)
  have hp3 := rdSev_pos (rd := rdAny s V) (m := s.size) (fun r hq => rdAny_pos hV hq) na r2 [] hp2
  obtain ⟨x, els⟩ : ∃ x, rdSev (rdAny s V) na r2 [] = x := ⟨_, rfl⟩
  rw [els] at hv hp3
  obtain ⟨ls, r3⟩ := x
  dsimp only at hv hp3
  replace els := hidR els
  replace hP3 := hidR hP3
  replace hr3 := hidR hr3
  go_wp2_with fail
  refine Calls.mono hv.out ?_
  rintro e y4 ⟨vl, rfl, hl4, hr4⟩
  have hP4 := hl4.ex.row hP3.out hPR
  have hx4 := hx3'.trans (hl4.ex.two P)
  have hlo : y4.ownsRow w.heap.size 3 1 vl ls.length (ls.flatMap cLines) := own_low hl4.row hx3'.size
  have hls : ∀ q, vl.ownBlock = some q → q < y4.heap.size ∧ w.heap.size ≤ q := fun q hq => ⟨(hlo.lt q hq).2, (hlo.lt q hq).1⟩
  clear hv hP3 hr3 hx3' hl4
  have f8 := hP4.frozen 8
  have e8 := hP4.cell 8 rfl
  have hP5 := hP4.set 8 vl
  have hR5 := hr4.other (a := ⟨P, 8, none⟩) (fun e => hPR e.symm) vl
  have hx5 := hx4.set 8 vl
  have hl5 := own_ex2 hlo hRlt hPlt ((Ex2.refl R P y4).set 8 vl)
  obtain ⟨o8, k8, rfl⟩ := own_slice hlo
  replace hP5 := hidR hP5
  replace hR5 := hidR hR5
  replace hl5 := hidR hl5
  replace hls := hidR hls
  have hz5 : (y4.setCell ⟨P, 8, none⟩ (.slice o8 ls.length k8)).heap.size = y4.heap.size := World.size_setCell _ _ _
  clear hP4 hr4 hx4 hlo
  go_upto_region 2 with fail
  generalize y4.setCell ⟨P, 8, none⟩ (.slice o8 ls.length k8) = y5 at hP5 hR5 hx5 hl5 hz5 ⊢
  replace hP5 : RowL y5 P 38 [c0, c1, c2, .slice o3 nc k3, c4, .slice o5 nu k5, c6, .string t, .slice o8 ls.length k8, c9] := hP5.out
  replace hR5 : RowL y5 R 67 (rdL s r3 ab an) := hR5.out
  have e5 := hP5.cell 5 rfl
  -- the number of names
  have hc : Hid _ := debugCount_in s V hV nu r3 ab an R y5 hR5 hs hp3
  have hp4 := rdCnt_pos (all := (nu : Int)) hV hp3
  have hb4 := rdCnt_bd (s := s) (V := V) (all := (nu : Int)) r3 (by omega)
  obtain ⟨x, eb⟩ : ∃ x, rdCnt s V nu r3 = x := ⟨_, rfl⟩
  rw [eb] at hc hp4 hb4
  obtain ⟨nb, r4⟩ := x
  obtain ⟨nb, rfl⟩ : ∃ k : Nat, nb = k := ⟨nb.toNat, by dsimp only at hb4; omega⟩
  dsimp only at hc hp4 hb4
  replace eb := hidR eb
  replace hP5 := hidR hP5
  clear hR5 f8 e8
  go_wp2_with fail
  refine Calls.mono hc.out ?_
  rintro e y6 ⟨rfl, hr6, hx6⟩
  have hP6 := hx6.row hP5.out hPR
  have hx6' := hx5.trans (hx6.two P)
  have hl6 := own_ex2 hl5.out hRlt hPlt (hx6.two P)
  have hz6 := hx6.size
  clear hc hP5 e5 hx5 hx6 hl5
  -- the names
  have hv : Hid _ := severalNames_in (rdText s V) s ab an R nb r4 y6 (fun r y hy hq => text_in s V hV clOk r ab an R y hy hs hq) (fun r hq => rdText_pos hV hq) hr6 hp4 (by omega)
  have hp5 := rdSev_pos (rd := rdText s V) (m := s.size) (fun r hq => rdText_pos hV hq) nb r4 [] hp4
  obtain ⟨x, ens⟩ : ∃ x, rdSev (rdText s V) nb r4 [] = x := ⟨_, rfl⟩
  rw [ens] at hv hp5
  obtain ⟨ns, r5⟩ := x
  dsimp only at hv hp5
  replace ens := hidR ens
  replace hP6 := hidR hP6
  replace hr6 := hidR hr6
  replace hl6 := hidR hl6
  go_wp2_with fail
  refine Calls.mono hv.out ?_
  rintro e y7 ⟨vn, rfl, hn7, hr7⟩
  have hP7 := hn7.ex.row hP6.out hPR
  have hx7 := hx6'.trans (hn7.ex.two P)
  have hl7 := own_ex2 hl6.out hRlt hPlt (hn7.ex.two P)
  have hno : y7.ownsRow w.heap.size 9 1 vn ns.length (ns.flatMap cNames) := own_low hn7.row hx6'.size
  have hns : ∀ q, vn.ownBlock = some q → y6.heap.size ≤ q := fun q hq => (hn7.row.lt q hq).1
  clear hv hP6 hr6 hx6' hn7 hl6
  have f9 := hP7.frozen 9
  have e9 := hP7.cell 9 rfl
  have hP8 := hP7.set 9 vn
  have hR8 := hr7.other (a := ⟨P, 9, none⟩) (fun e => hPR e.symm) vn
  have hx8 := hx7.set 9 vn
  have hn8 := own_ex2 hno hRlt hPlt ((Ex2.refl R P y7).set 9 vn)
  have hl8 := own_ex2 hl7 hRlt hPlt ((Ex2.refl R P y7).set 9 vn)
  obtain ⟨o9, k9, rfl⟩ := own_slice hno
  replace hP8 := hidR hP8
  replace hR8 := hidR hR8
  replace hl8 := hidR hl8
  replace hn8 := hidR hn8
  replace hns := hidR hns
  clear hP7 hr7 hx7 hno hl7
  go_upto_region 3 with fail
  generalize y7.setCell ⟨P, 9, none⟩ (.slice o9 ns.length k9) = y8 at hP8 hR8 hx8 hl8 hn8 ⊢
  replace hP8 : RowL y8 P 38 [c0, c1, c2, .slice o3 nc k3, c4, .slice o5 nu k5, c6, .string t, .slice o8 ls.length k8, .slice o9 ns.length k9] := hP8.out
  replace hR8 : RowL y8 R 67 (rdL s r5 ab an) := hR8.out
  have hD : Hid _ := rdDbg_eq et.out ea.out els.out eb.out ens.out
  have g0 := hP8.cell 0 rfl
  have g1 := hP8.cell 1 rfl
  have g2 := hP8.cell 2 rfl
  have g3 := hP8.cell 3 rfl
  have g4 := hP8.cell 4 rfl
  have g5 := hP8.cell 5 rfl
  have g6 := hP8.cell 6 rfl
  have g7 := hP8.cell 7 rfl
  have g8 := hP8.cell 8 rfl
  have g9 := hP8.cell 9 rfl
  have hd : Hid _ := hasDebug1 c0 c1 c2 (.slice o3 nc k3) c4 (.slice o5 nu k5) c6 t o8 o9 ls.length k8 ns.length k9 hcs y8
  replace hP8 := hidR hP8
  replace hR8 := hidR hR8
  clear et ea els eb ens f9 e9
  by_cases hbare : t.size = 0 ∧ ls.length = 0 ∧ ns.length = 0
  · rw [if_pos hbare] at hD
    rw [decide_eq_false (not_not_intro hbare)] at hd
    clear hbare
    go_wp2_with fail
    refine Calls.mono hd.out ?_
    rintro e y9 ⟨rfl, hb9⟩
    have hP9 := hP8.out.call hb9
    have hR9 := hR8.out.call hb9
    have hx9 := hx8.trans ((Ex.of hb9 : Ex R y8 y9).two P)
    have hl9 := own_ex2 hl8.out hRlt hPlt ((Ex.of hb9 : Ex R y8 y9).two P)
    have hn9 := own_ex2 hn8.out hRlt hPlt ((Ex.of hb9 : Ex R y8 y9).two P)
    clear hd hP8 hR8 hx8 hl8 hn8 g0 g1 g2 g3 g4 g5 g6 g7 g8 g9
    have hf : Hid _ := reader_fail s r5 ab an 3 R y9 hR9 (by decide)
    replace hP9 := hidR hP9
    replace hl9 := hidR hl9
    replace hn9 := hidR hn9
    clear hR9
    go_wp2_with fail
    refine Calls.mono hf.out ?_
    rintro e ya ⟨rfl, hra, hxa⟩
    clear hf
    have hPa := hxa.row hP9.out hPR
    have hla := own_ex2 hl9.out hRlt hPlt (hxa.two P)
    have hna := own_ex2 hn9.out hRlt hPlt (hxa.two P)
    have hxb := hx9.trans (hxa.two P)
    replace hPa := hidR hPa
    replace hla := hidR hla
    replace hna := hidR hna
    replace hra := hidR hra
    go_wp2_with fail
    go_end0
    rw [hD.out]
    exact ⟨rfl, _, _, y6.heap.size, hla.out, hna.out, fun q hq => by have := (hls.out q hq).1; omega, hns.out, hPa.out, hra.out, hxb⟩
  · rw [if_neg hbare] at hD
    rw [decide_eq_true hbare] at hd
    clear hbare
    go_wp2_with fail
    refine Calls.mono hd.out ?_
    rintro e y9 ⟨rfl, hb9⟩
    have hP9 := hP8.out.call hb9
    have hR9 := hR8.out.call hb9
    have hx9 := hx8.trans ((Ex.of hb9 : Ex R y8 y9).two P)
    have hl9 := own_ex2 hl8.out hRlt hPlt ((Ex.of hb9 : Ex R y8 y9).two P)
    have hn9 := own_ex2 hn8.out hRlt hPlt ((Ex.of hb9 : Ex R y8 y9).two P)
    clear hd hP8 hR8 hx8 hl8 hn8 g0 g1 g2 g3 g4 g5 g6 g7 g8 g9
    replace hP9 := hidR hP9
    replace hR9 := hidR hR9
    replace hl9 := hidR hl9
    replace hn9 := hidR hn9
    go_wp2_with fail
    go_end0
    rw [hD.out]
    exact ⟨rfl, _, _, y6.heap.size, hl9.out, hn9.out, fun q hq => by have := (hls.out q hq).1; omega, hns.out, hP9.out, hR9.out, hx9⟩
end Go.Proofs.YtpobiffihiaakaaGreatDoor

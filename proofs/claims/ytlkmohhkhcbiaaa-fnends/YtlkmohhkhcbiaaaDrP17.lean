import Derived.Test.YtlkmohhkhcbiaaaDrQ
namespace Go.Proofs.Ytlkmohhkhcbiaaa
open Go.RowKit Go.Shelf
set_option linter.unusedVariables false
set_option linter.unusedSimpArgs false
attribute [local go_sem] Oper.semAt_some
set_option maxRecDepth 100000 in
set_option maxHeartbeats 12000000 in
theorem spoil17 (c : Sl Int) (P : Nat) (PS : List PD) (hP : P ≤ 3000) (hl : PS.length ≤ 10) (h0 : 0 < PS.length) (hSm : ∀ x ∈ PS, Sm x) (ha : tk c P 20 = 17) : SpoilA c P PS := by
  obtain ⟨i, hi⟩ : ∃ i : Nat, tk c (P + 1) PS.length = (i : Int) := Int.eq_ofNat_of_zero_le (tk_bd _ _ _).1
  have hin : i < PS.length := by have := (tk_bd c (P + 1) PS.length).2 (by omega); omega
  obtain ⟨x, hx⟩ : ∃ x, tk c (P + 2) 2 = x := ⟨_, rfl⟩
  have hx1 : 0 ≤ x := hx ▸ (tk_bd _ _ _).1
  have hx2 : x ≤ 1 := by have := (tk_bd c (P + 2) 2).2 (by omega); omega
  obtain ⟨q, hq⟩ : ∃ q, PS[i]'hin = q := ⟨_, rfl⟩
  have hqs : Sm q := hSm q (hq ▸ List.getElem_mem hin)
  obtain ⟨params, vararg, regs, code, consts, ups', kids', name, lines, upNames⟩ := q
  refine ⟨(List.range (64 + x).toNat).map fun (j : Nat) => leafK (if j + 1 = (64 + x).toNat then 0 else 1), fun av w v u hav hC hu => ?_⟩
  obtain ⟨ao, cap, rfl⟩ : ∃ ao cap, v = .slice ao c.n cap := IsArr.slice hC.ints
  obtain ⟨au, cu, rfl⟩ : ∃ a b, u = .slice a PS.length b := by obtain ⟨_, _, _, _, _, ⟨a, b, h, _⟩, _⟩ := hu; exact ⟨a, b, h⟩
  have hsm := hC.small
  have hB2 : Below w.heap.size w ((w.alloc (.cells #[.slice au PS.length cu] 25)).alloc (.cells #[.slice none 0 0] 25)) := by go_grown
  have hC2 : Hid _ := hC.later hB2
  have hu2 : Hid (IsProtos av ((w.alloc (.cells #[.slice au PS.length cu] 25)).alloc (.cells #[.slice none 0 0] 25)) (.slice au PS.length cu) (slOf PS)) := hu.keep fun b hb => hB2.block b (hav b hb)
  replace ha : Hid _ := ha
  replace hi : Hid (tk c (P + 1) PS.length = (i : Int)) := hi
  replace hx : Hid (tk c (P + 2) 2 = x) := hx
  have hR : Hid (RowL ((w.alloc (.cells #[.slice au PS.length cu] 25)).alloc (.cells #[.slice none 0 0] 25)) (w.heap.size + 1) 25 [.slice none 0 0]) := by
    have := RowL.new (w.alloc (.cells #[.slice au PS.length cu] 25)) [.slice none 0 0] 25
    rw [World.size_alloc] at this
    exact this
  have hs2 : ((w.alloc (.cells #[.slice au PS.length cu] 25)).alloc (.cells #[.slice none 0 0] 25)).heap.size = w.heap.size + 2 := by rw [World.size_alloc, World.size_alloc]
  clear hC hu hSm
  go_enter Try.func9, Try.ntmps9
  go_wp2_with fail
  refine (l1Take_to c _ P P 20 _ rfl hC2.out (by omega) (by omega) ha.out).mono ?_
  rintro e w' ⟨rfl, rfl⟩
  go_wp2_with fail
  refine (l1Take_to c _ (P + 1) (P + 1) PS.length _ (by omega) hC2.out (by omega) (by omega) hi.out).mono ?_
  rintro e w' ⟨rfl, rfl⟩
  go_wp2_with fail
  refine (l1Take_to c _ (P + 2) (P + 1 + 1) 2 _ (by omega) hC2.out (by omega) (by omega) hx.out).mono ?_
  rintro e w' ⟨rfl, rfl⟩
  go_wp2_with fail
  refine (l2Copy_in (av := av) PS _ _ (fun b hb => by rw [hs2]; have := hav b hb; omega) hu2.out (by omega)).mono ?_
  rintro e y1 ⟨vo, X, rfl, b1, row1, hXp, hX⟩
  have b1' : Below w.heap.size w y1 := hB2.trans (b1.mono hB2.size)
  have hs1 := b1.size
  obtain ⟨go, co, rfl, -, -⟩ := row1.form (by omega)
  have hgo := row1.lt go rfl
  rw [hs2] at hs1 hgo
  have hXl : X.length = PS.length := by rw [← hXp]; simp
  obtain ⟨xv, hxv⟩ : ∃ xv, X[i]? = some xv := ⟨X[i]'(by omega), List.getElem?_eq_getElem (by omega)⟩
  have hxp : xv.p = ⟨params, vararg, regs, code, consts, ups', kids', name, lines, upNames⟩ := by
    have h1 : (X.map PV.p)[i]? = some xv.p := by rw [List.getElem?_map, hxv]; rfl
    rw [hXp, List.getElem?_eq_getElem hin, hq] at h1
    simpa using h1.symm
  have hpx : IsProto av w xv.a3 xv.a4 xv.a5 xv.a8 xv.a9 xv.p := (hX xv (List.mem_of_getElem? hxv)).keep fun b hb => (hB2.block b (hav b hb)).symm
  replace hX : Hid (∀ x ∈ X, IsProto av w x.a3 x.a4 x.a5 x.a8 x.a9 x.p) := fun x' hx' => (hX x' hx').keep fun b hb => (hB2.block b (hav b hb)).symm
  replace hav : Hid (∀ b, av b → b < w.heap.size) := hav
  have hcx : ∀ j, j < 10 → (y1.alloc (.cells #[.slice (some ⟨go, 0, none⟩) PS.length co] 25)).cell? ⟨go, i * 10 + j, none⟩ = xv.cells[j]? := fun j hj => by
    rw [World.cell?_of_block (w := y1) (Below.heap_alloc _ _ _ hgo.2), row1.cellAt _ (by omega)]
    exact pvCells_get X i xv hxv j hj
  obtain ⟨pp, a3, a4, a5, a8, a9⟩ := xv
  obtain rfl : pp = ⟨params, vararg, regs, code, consts, ups', kids', name, lines, upNames⟩ := hxp
  obtain ⟨o3, c3, rfl⟩ : ∃ o c, a3 = .slice o code.n c := IsArr.slice hpx.code
  obtain ⟨o4, c4, rfl⟩ : ∃ o c, a4 = .slice o consts.n c := IsArr.slice hpx.consts.1
  obtain ⟨o5, c5, rfl⟩ : ∃ o c, a5 = .slice o ups'.n c := IsArr.slice hpx.ups
  obtain ⟨o8, c8, rfl⟩ : ∃ o c, a8 = .slice o lines.n c := IsArr.slice hpx.lines
  obtain ⟨o9, c9, rfl⟩ : ∃ o c, a9 = .slice o upNames.n c := IsArr.slice hpx.upNames.1
  have e0 := hcx 0 (by omega)
  have e1 := hcx 1 (by omega)
  have e2 := hcx 2 (by omega)
  have e3 := hcx 3 (by omega)
  have e4 := hcx 4 (by omega)
  have e5 := hcx 5 (by omega)
  have e6 := hcx 6 (by omega)
  have e7 := hcx 7 (by omega)
  have e8 := hcx 8 (by omega)
  have e9 := hcx 9 (by omega)
  simp only [PV.cells, List.getElem?_cons_zero, List.getElem?_cons_succ, Nat.add_zero] at e0 e1 e2 e3 e4 e5 e6 e7 e8 e9
  have hI0 : Hid (SpI w (.slice (some ⟨go, 0, none⟩) PS.length co) PS.length X y1.heap.size [.int .i64 params, .bool vararg, .int .i64 regs, .slice o3 code.n c3, .slice o4 consts.n c4, .slice o5 ups'.n c5, .int .i64 kids', .string name, .slice o8 lines.n c8, .slice o9 upNames.n c9] ((y1.alloc (.cells #[.slice (some ⟨go, 0, none⟩) PS.length co] 25)).alloc (.cells #[.int .i64 params, .bool vararg, .int .i64 regs, .slice o3 code.n c3, .slice o4 consts.n c4, .slice o5 ups'.n c5, .int .i64 kids', .string name, .slice o8 lines.n c8, .slice o9 upNames.n c9] 35))) := by
    have R2 := (RowL.new y1 [.slice (some ⟨go, 0, none⟩) PS.length co] 25).alloc (.cells #[.int .i64 params, .bool vararg, .int .i64 regs, .slice o3 code.n c3, .slice o4 consts.n c4, .slice o5 ups'.n c5, .int .i64 kids', .string name, .slice o8 lines.n c8, .slice o9 upNames.n c9] 35)
    have R3 := RowL.new (y1.alloc (.cells #[.slice (some ⟨go, 0, none⟩) PS.length co] 25)) [.int .i64 params, .bool vararg, .int .i64 regs, .slice o3 code.n c3, .slice o4 consts.n c4, .slice o5 ups'.n c5, .int .i64 kids', .string name, .slice o8 lines.n c8, .slice o9 upNames.n c9] 35
    rw [World.size_alloc] at R3
    have hb : Below y1.heap.size y1 ((y1.alloc (.cells #[.slice (some ⟨go, 0, none⟩) PS.length co] 25)).alloc (.cells #[.int .i64 params, .bool vararg, .int .i64 regs, .slice o3 code.n c3, .slice o4 consts.n c4, .slice o5 ups'.n c5, .int .i64 kids', .string name, .slice o8 lines.n c8, .slice o9 upNames.n c9] 35)) := by go_grown
    exact ⟨(hR.out.call b1).call hb, R2, R3, own_below (own_mono row1 (by rw [hs2]; omega)) hb, b1'.trans (hb.mono (by omega)), by omega, fun k hk => by simp [Value.ownBlock] at hk; omega⟩
  replace hpx : Hid _ := hpx
  clear hcx row1 b1 hR hxv hq hC2 hu2 ha hi hx
  go_wp2_with fail
  refine (specPack_in 23 0 0 0 (-131072) _ (by omega) (by omega) (by omega) (by omega) (by omega) (by omega) (by omega) (by omega) (by decide)).mono ?_
  rintro e y2 ⟨rfl, b2⟩
  have hs3 : y1.heap.size + 1 < y2.heap.size := by
    have := b2.size
    rw [World.size_alloc, World.size_alloc] at this
    omega
  go_wp2_with (refine wp_gen 51 rfl (fun y => SpI w (.slice (some ⟨go, 0, none⟩) PS.length co) PS.length X y1.heap.size [.int .i64 params, .bool vararg, .int .i64 regs, .slice o3 code.n c3, .slice o4 consts.n c4, .slice o5 ups'.n c5, .int .i64 kids', .string name, .slice o8 lines.n c8, .slice o9 upNames.n c9] y ∧ RowL y y2.heap.size 51 [.int .u32 23] ∧ RowL y (y2.heap.size + 1) 35 [.int .i64 0, .bool false, .int .i64 1, .slice (some ⟨y2.heap.size, 0, none⟩) 1 1, .slice none 0 0, .slice none 0 0, .int .i64 0, .string ⟨#[]⟩, .slice none 0 0, .slice none 0 0] ∧ y2.heap.size + 2 ≤ y.heap.size) ?hG ?_)
  case hG =>
    have R3 := RowL.new (y2.alloc (.cells #[.int .u32 23] 51)) [.int .i64 0, .bool false, .int .i64 1, .slice (some ⟨y2.heap.size, 0, none⟩) 1 1, .slice none 0 0, .slice none 0 0, .int .i64 0, .string ⟨#[]⟩, .slice none 0 0, .slice none 0 0] 35
    rw [World.size_alloc] at R3
    refine ⟨((hI0.out.later b2).alloc _).alloc _, (RowL.new y2 [.int .u32 23] 51).alloc _, R3, by rw [World.size_alloc, World.size_alloc]; omega⟩
  intro y hy
  obtain ⟨hI, hlf1, hlf2, hys⟩ := hy
  replace hI : Hid (SpI w (.slice (some ⟨go, 0, none⟩) PS.length co) PS.length X y1.heap.size [.int .i64 params, .bool vararg, .int .i64 regs, .slice o3 code.n c3, .slice o4 consts.n c4, .slice o5 ups'.n c5, .int .i64 kids', .string name, .slice o8 lines.n c8, .slice o9 upNames.n c9] y) := hI
  replace hlf1 : Hid (RowL y y2.heap.size 51 [.int .u32 23]) := hlf1
  replace hlf2 : Hid (RowL y (y2.heap.size + 1) 35 [.int .i64 0, .bool false, .int .i64 1, .slice (some ⟨y2.heap.size, 0, none⟩) 1 1, .slice none 0 0, .slice none 0 0, .int .i64 0, .string ⟨#[]⟩, .slice none 0 0, .slice none 0 0]) := hlf2
  have hW := hI.out.bel
  clear e0 e1 e2 e3 e4 e5 e6 e7 e8 e9 hI0 b2
  have hBo := hI.out.hBo
  have hC0 : Hid (ChI w y.heap.size y.heap.size (y2.heap.size + 1) y2.heap.size [] 0 (.slice none 0 0) (y.alloc (.cells #[.slice none 0 0] 25))) :=
    ⟨hI.out.br.alloc _, RowL.new y [.slice none 0 0] 25, hlf2.out.alloc _, hlf1.out.alloc _, World.ownsRow_nil _ _ _ _, hW.alloc hW.size _, by omega, by omega, by omega, by omega⟩
  go_wp2_with fail
  generalize y.alloc (.cells #[.slice none 0 0] 25) = yc at hC0 ⊢
  go_loopw [14] (fun iv wr => ∃ k : Nat, iv = .int .i64 (k : Int) ∧ k ≤ (64 + x).toNat ∧ Hid (∃ kk vch, ChI w y.heap.size y.heap.size (y2.heap.size + 1) y2.heap.size ((List.range k).map (fun j : Nat => leafPV y2.heap.size (if j + 1 = (64 + x).toNat then 0 else 1))) kk vch wr))
    (fun iv _ => (64 + x).toNat - (intOf iv).toNat)
  case atStart => exact ⟨0, rfl, by omega, ⟨_, _, hC0.out⟩⟩
  case round =>
    obtain ⟨k, rfl, hkN, hT⟩ := hrel
    obtain ⟨wz, hwz⟩ : ∃ x, x = wr := ⟨_, rfl⟩
    subst hwz
    clear hC0
    obtain ⟨kk, vch, hCh⟩ := hT.out
    have hLl : ((List.range k).map (fun j : Nat => leafPV y2.heap.size (if j + 1 = (64 + x).toNat then 0 else 1))).length = k := by simp
    by_cases hlt : k < (64 + x).toNat
    · have hii : (k : Int) < 64 + x := by omega
      have l6 := hCh.lf.cell 6 rfl
      have lf6 := hCh.lf.frozen 6
      have hC1 := hCh.kids 1
      by_cases hlast : k + 1 = (64 + x).toNat
      · have hik : ((k : Int) == 64 + x - 1) = true := by simp; omega
        have m6 := hC1.lf.cell 6 rfl
        have mf6 := hC1.lf.frozen 6
        have hC2 := hC1.kids 0
        replace hlast : Hid _ := hlast
        replace hC2 : Hid _ := hC2
        go_wp2_with (refine wp_gen 207 rfl (fun yz => ChI w y.heap.size y.heap.size (y2.heap.size + 1) y2.heap.size ((List.range k).map (fun j : Nat => leafPV y2.heap.size (if j + 1 = (64 + x).toNat then 0 else 1))) 0 vch yz) ?hA ?_)
        case hA => exact hC2.out
        intro yz hz
        clear hT hCh l6 lf6 hC1 m6 mf6 hC2
        obtain ⟨i0, hi, hz0, hz1, hz2⟩ := info_parts infoPro
        have l0 := hz.lf.cell 0 rfl
        have l1 := hz.lf.cell 1 rfl
        have l2 := hz.lf.cell 2 rfl
        have l3 := hz.lf.cell 3 rfl
        have l4 := hz.lf.cell 4 rfl
        have l5 := hz.lf.cell 5 rfl
        have l6 := hz.lf.cell 6 rfl
        have l7 := hz.lf.cell 7 rfl
        have l8 := hz.lf.cell 8 rfl
        have l9 := hz.lf.cell 9 rfl
        have lb := hz.bc.cell 0 rfl
        have lb' := (hz.alloc (.cells #[.int .i64 0, .bool false, .int .i64 1, .slice (some ⟨y2.heap.size, 0, none⟩) 1 1, .slice none 0 0, .slice none 0 0, .int .i64 0, .string ⟨#[]⟩, .slice none 0 0, .slice none 0 0] 35)).bc.cell 0 rfl
        replace hz : Hid _ := hz
        go_wp2_with (at_builtin; refine wpList_append_own_at _ rfl (.tmp 207) (.tmp 209) 23 rfl y.heap.size 35 i0 (.agg #[.int .i64 0, .bool false, .int .i64 0, .slice none 0 0, .slice none 0 0, .slice none 0 0, .int .i64 0, .string ⟨#[]⟩, .slice none 0 0, .slice none 0 0]) 10 168 Try.underlying23 hi hz0 hz1 hz2 rfl (by decide) vch k _ rfl (by have := hz.out.row.alloc (.cells #[.int .i64 0, .bool false, .int .i64 1, .slice (some ⟨y2.heap.size, 0, none⟩) 1 1, .slice none 0 0, .slice none 0 0, .int .i64 0, .string ⟨#[]⟩, .slice none 0 0, .slice none 0 0] 35); rw [hLl] at this; exact this) ⟨yz.heap.size, 0, none⟩ 1 1 [.int .i64 0, .bool false, .int .i64 1, .slice (some ⟨y2.heap.size, 0, none⟩) 1 1, .slice none 0 0, .slice none 0 0, .int .i64 0, .string ⟨#[]⟩, .slice none 0 0, .slice none 0 0] rfl rfl ?s1 ?s2 ?s3 ?s4 ?s5 ?_)
        case s1 => exact World.news_of_block (heap_alloc_new _ _)
        case s2 => first | exact ⟨rfl, rfl, rfl, rfl, rfl, rfl, rfl, rfl, rfl, rfl⟩ | (intro u hu; simp only [List.mem_cons, List.not_mem_nil, or_false] at hu; rcases hu with rfl | rfl | rfl | rfl | rfl | rfl | rfl | rfl | rfl | rfl <;> rfl)
        case s3 => simp only [maxLen]; omega
        case s4 => omega
        case s5 => have := hz.out.bc.lt; (try simp only [World.size_alloc]); omega
        intro v' w' hown hg _ hat
        obtain ⟨g, cp, rfl, -, -⟩ := hown.form (by omega)
        obtain ⟨hC3, bx⟩ := ChI.app (w' := w') (v' := .slice (some ⟨g, 0, none⟩) (k + 1) cp) (hz.out.alloc (.cells #[.int .i64 0, .bool false, .int .i64 1, .slice (some ⟨y2.heap.size, 0, none⟩) 1 1, .slice none 0 0, .slice none 0 0, .int .i64 0, .string ⟨#[]⟩, .slice none 0 0, .slice none 0 0] 35)) (by rw [hLl]; exact hown) hg
        have q2 := bx.cell 0 rfl
        have f2 := bx.frozen 0
        have hT1 : Hid (∃ kk vch, ChI w y.heap.size y.heap.size (y2.heap.size + 1) y2.heap.size ((List.range (k + 1)).map (fun j : Nat => leafPV y2.heap.size (if j + 1 = (64 + x).toNat then 0 else 1))) kk vch (w'.setCell ⟨y.heap.size, 0, none⟩ (.slice (some ⟨g, 0, none⟩) (k + 1) cp))) := by
          refine ⟨0, .slice (some ⟨g, 0, none⟩) (k + 1) cp, ?_⟩
          rw [List.range_succ, List.map_append, List.map_cons, List.map_nil, if_pos hlast.out]
          exact hC3
        clear hown hg hat hi hz0 hz1 hz2 bx hC3 hz l0 l1 l2 l3 l4 l5 l6 l7 l8 l9 lb lb'
        go_wp2_with fail
        go_roundw
        case rel => exact ⟨k + 1, by go_num, by omega, hT1.out⟩
        case measure => simp [intOf]; omega
      · have hik : ((k : Int) == 64 + x - 1) = false := by simp; omega
        replace hlast : Hid _ := hlast
        replace hC1 : Hid _ := hC1
        go_wp2_with (refine wp_gen 207 rfl (fun yz => ChI w y.heap.size y.heap.size (y2.heap.size + 1) y2.heap.size ((List.range k).map (fun j : Nat => leafPV y2.heap.size (if j + 1 = (64 + x).toNat then 0 else 1))) 1 vch yz) ?hB ?_)
        case hB => exact hC1.out
        intro yz hz
        clear hT hCh l6 lf6 hC1
        obtain ⟨i0, hi, hz0, hz1, hz2⟩ := info_parts infoPro
        have l0 := hz.lf.cell 0 rfl
        have l1 := hz.lf.cell 1 rfl
        have l2 := hz.lf.cell 2 rfl
        have l3 := hz.lf.cell 3 rfl
        have l4 := hz.lf.cell 4 rfl
        have l5 := hz.lf.cell 5 rfl
        have l6 := hz.lf.cell 6 rfl
        have l7 := hz.lf.cell 7 rfl
        have l8 := hz.lf.cell 8 rfl
        have l9 := hz.lf.cell 9 rfl
        have lb := hz.bc.cell 0 rfl
        have lb' := (hz.alloc (.cells #[.int .i64 0, .bool false, .int .i64 1, .slice (some ⟨y2.heap.size, 0, none⟩) 1 1, .slice none 0 0, .slice none 0 0, .int .i64 1, .string ⟨#[]⟩, .slice none 0 0, .slice none 0 0] 35)).bc.cell 0 rfl
        replace hz : Hid _ := hz
        go_wp2_with (at_builtin; refine wpList_append_own_at _ rfl (.tmp 207) (.tmp 209) 23 rfl y.heap.size 35 i0 (.agg #[.int .i64 0, .bool false, .int .i64 0, .slice none 0 0, .slice none 0 0, .slice none 0 0, .int .i64 0, .string ⟨#[]⟩, .slice none 0 0, .slice none 0 0]) 10 168 Try.underlying23 hi hz0 hz1 hz2 rfl (by decide) vch k _ rfl (by have := hz.out.row.alloc (.cells #[.int .i64 0, .bool false, .int .i64 1, .slice (some ⟨y2.heap.size, 0, none⟩) 1 1, .slice none 0 0, .slice none 0 0, .int .i64 1, .string ⟨#[]⟩, .slice none 0 0, .slice none 0 0] 35); rw [hLl] at this; exact this) ⟨yz.heap.size, 0, none⟩ 1 1 [.int .i64 0, .bool false, .int .i64 1, .slice (some ⟨y2.heap.size, 0, none⟩) 1 1, .slice none 0 0, .slice none 0 0, .int .i64 1, .string ⟨#[]⟩, .slice none 0 0, .slice none 0 0] rfl rfl ?r1 ?r2 ?r3 ?r4 ?r5 ?_)
        case r1 => exact World.news_of_block (heap_alloc_new _ _)
        case r2 => first | exact ⟨rfl, rfl, rfl, rfl, rfl, rfl, rfl, rfl, rfl, rfl⟩ | (intro u hu; simp only [List.mem_cons, List.not_mem_nil, or_false] at hu; rcases hu with rfl | rfl | rfl | rfl | rfl | rfl | rfl | rfl | rfl | rfl <;> rfl)
        case r3 => simp only [maxLen]; omega
        case r4 => omega
        case r5 => have := hz.out.bc.lt; (try simp only [World.size_alloc]); omega
        intro v' w' hown hg _ hat
        obtain ⟨g, cp, rfl, -, -⟩ := hown.form (by omega)
        obtain ⟨hC3, bx⟩ := ChI.app (w' := w') (v' := .slice (some ⟨g, 0, none⟩) (k + 1) cp) (hz.out.alloc (.cells #[.int .i64 0, .bool false, .int .i64 1, .slice (some ⟨y2.heap.size, 0, none⟩) 1 1, .slice none 0 0, .slice none 0 0, .int .i64 1, .string ⟨#[]⟩, .slice none 0 0, .slice none 0 0] 35)) (by rw [hLl]; exact hown) hg
        have q2 := bx.cell 0 rfl
        have f2 := bx.frozen 0
        have hT1 : Hid (∃ kk vch, ChI w y.heap.size y.heap.size (y2.heap.size + 1) y2.heap.size ((List.range (k + 1)).map (fun j : Nat => leafPV y2.heap.size (if j + 1 = (64 + x).toNat then 0 else 1))) kk vch (w'.setCell ⟨y.heap.size, 0, none⟩ (.slice (some ⟨g, 0, none⟩) (k + 1) cp))) := by
          refine ⟨1, .slice (some ⟨g, 0, none⟩) (k + 1) cp, ?_⟩
          rw [List.range_succ, List.map_append, List.map_cons, List.map_nil, if_neg hlast.out]
          exact hC3
        clear hown hg hat hi hz0 hz1 hz2 bx hC3 hz l0 l1 l2 l3 l4 l5 l6 l7 l8 l9 lb lb'
        go_wp2_with fail
        go_roundw
        case rel => exact ⟨k + 1, by go_num, by omega, hT1.out⟩
        case measure => simp [intOf]; omega
    · obtain rfl : k = (64 + x).toNat := by omega
      obtain ⟨av, cv, rfl⟩ := own_slice hCh.row
      have hF := hCh.fin (PS' := (List.range (64 + x).toNat).map fun (j : Nat) => leafK (if j + 1 = (64 + x).toNat then 0 else 1)) (by rw [List.map_map]; rfl) (fun x' hx' => by obtain ⟨j, -, rfl⟩ := List.mem_map.1 hx'; exact ⟨_, rfl⟩)
      have lb := hCh.bc.cell 0 rfl
      have dr5 := hCh.br.cell 0 rfl
      have fr5 := hCh.br.frozen 0
      rw [hLl] at *
      have hfin := (hCh.br.set 0 (.slice av (64 + x).toNat cv)).cell 0 rfl
      have hnn : ¬ ((((64 + x).toNat : Nat) : Int) < 64 + x) := by omega
      replace hF : Hid _ := hF
      clear hT hCh
      go_wp2_with fail
      refine bodyPost_ret (v := .agg #[.slice av (64 + x).toNat cv]) (by simp [results, Try.results9, go_sem, hfin]) rfl ⟨_, rfl, hF.out.1, hF.out.2.mono fun b hb => .inr hb⟩
set_option maxRecDepth 100000 in
set_option maxHeartbeats 12000000 in
theorem spoil18 (c : Sl Int) (P : Nat) (PS : List PD) (hP : P ≤ 3000) (hl : PS.length ≤ 10) (h0 : 0 < PS.length) (hSm : ∀ x ∈ PS, Sm x) (ha : tk c P 20 = 18) : SpoilA c P PS := by
  obtain ⟨i, hi⟩ : ∃ i : Nat, tk c (P + 1) PS.length = (i : Int) := Int.eq_ofNat_of_zero_le (tk_bd _ _ _).1
  have hin : i < PS.length := by have := (tk_bd c (P + 1) PS.length).2 (by omega); omega
  obtain ⟨x, hx⟩ : ∃ x, tk c (P + 2) 2 = x := ⟨_, rfl⟩
  have hx1 : 0 ≤ x := hx ▸ (tk_bd _ _ _).1
  have hx2 : x ≤ 1 := by have := (tk_bd c (P + 2) 2).2 (by omega); omega
  obtain ⟨q, hq⟩ : ∃ q, PS[i]'hin = q := ⟨_, rfl⟩
  have hqs : Sm q := hSm q (hq ▸ List.getElem_mem hin)
  obtain ⟨params, vararg, regs, code, consts, ups', kids', name, lines, upNames⟩ := q
  refine ⟨leafK (199 + x) :: List.replicate (199 + x).toNat (leafK 0), fun av w v u hav hC hu => ?_⟩
  obtain ⟨ao, cap, rfl⟩ : ∃ ao cap, v = .slice ao c.n cap := IsArr.slice hC.ints
  obtain ⟨au, cu, rfl⟩ : ∃ a b, u = .slice a PS.length b := by obtain ⟨_, _, _, _, _, ⟨a, b, h, _⟩, _⟩ := hu; exact ⟨a, b, h⟩
  have hsm := hC.small
  have hB2 : Below w.heap.size w ((w.alloc (.cells #[.slice au PS.length cu] 25)).alloc (.cells #[.slice none 0 0] 25)) := by go_grown
  have hC2 : Hid _ := hC.later hB2
  have hu2 : Hid (IsProtos av ((w.alloc (.cells #[.slice au PS.length cu] 25)).alloc (.cells #[.slice none 0 0] 25)) (.slice au PS.length cu) (slOf PS)) := hu.keep fun b hb => hB2.block b (hav b hb)
  replace ha : Hid _ := ha
  replace hi : Hid (tk c (P + 1) PS.length = (i : Int)) := hi
  replace hx : Hid (tk c (P + 2) 2 = x) := hx
  have hR : Hid (RowL ((w.alloc (.cells #[.slice au PS.length cu] 25)).alloc (.cells #[.slice none 0 0] 25)) (w.heap.size + 1) 25 [.slice none 0 0]) := by
    have := RowL.new (w.alloc (.cells #[.slice au PS.length cu] 25)) [.slice none 0 0] 25
    rw [World.size_alloc] at this
    exact this
  have hs2 : ((w.alloc (.cells #[.slice au PS.length cu] 25)).alloc (.cells #[.slice none 0 0] 25)).heap.size = w.heap.size + 2 := by rw [World.size_alloc, World.size_alloc]
  clear hC hu hSm
  go_enter Try.func9, Try.ntmps9
  go_wp2_with fail
  refine (l1Take_to c _ P P 20 _ rfl hC2.out (by omega) (by omega) ha.out).mono ?_
  rintro e w' ⟨rfl, rfl⟩
  go_wp2_with fail
  refine (l1Take_to c _ (P + 1) (P + 1) PS.length _ (by omega) hC2.out (by omega) (by omega) hi.out).mono ?_
  rintro e w' ⟨rfl, rfl⟩
  go_wp2_with fail
  refine (l1Take_to c _ (P + 2) (P + 1 + 1) 2 _ (by omega) hC2.out (by omega) (by omega) hx.out).mono ?_
  rintro e w' ⟨rfl, rfl⟩
  go_wp2_with fail
  refine (l2Copy_in (av := av) PS _ _ (fun b hb => by rw [hs2]; have := hav b hb; omega) hu2.out (by omega)).mono ?_
  rintro e y1 ⟨vo, X, rfl, b1, row1, hXp, hX⟩
  have b1' : Below w.heap.size w y1 := hB2.trans (b1.mono hB2.size)
  have hs1 := b1.size
  obtain ⟨go, co, rfl, -, -⟩ := row1.form (by omega)
  have hgo := row1.lt go rfl
  rw [hs2] at hs1 hgo
  have hXl : X.length = PS.length := by rw [← hXp]; simp
  obtain ⟨xv, hxv⟩ : ∃ xv, X[i]? = some xv := ⟨X[i]'(by omega), List.getElem?_eq_getElem (by omega)⟩
  have hxp : xv.p = ⟨params, vararg, regs, code, consts, ups', kids', name, lines, upNames⟩ := by
    have h1 : (X.map PV.p)[i]? = some xv.p := by rw [List.getElem?_map, hxv]; rfl
    rw [hXp, List.getElem?_eq_getElem hin, hq] at h1
    simpa using h1.symm
  have hpx : IsProto av w xv.a3 xv.a4 xv.a5 xv.a8 xv.a9 xv.p := (hX xv (List.mem_of_getElem? hxv)).keep fun b hb => (hB2.block b (hav b hb)).symm
  replace hX : Hid (∀ x ∈ X, IsProto av w x.a3 x.a4 x.a5 x.a8 x.a9 x.p) := fun x' hx' => (hX x' hx').keep fun b hb => (hB2.block b (hav b hb)).symm
  replace hav : Hid (∀ b, av b → b < w.heap.size) := hav
  have hcx : ∀ j, j < 10 → (y1.alloc (.cells #[.slice (some ⟨go, 0, none⟩) PS.length co] 25)).cell? ⟨go, i * 10 + j, none⟩ = xv.cells[j]? := fun j hj => by
    rw [World.cell?_of_block (w := y1) (Below.heap_alloc _ _ _ hgo.2), row1.cellAt _ (by omega)]
    exact pvCells_get X i xv hxv j hj
  obtain ⟨pp, a3, a4, a5, a8, a9⟩ := xv
  obtain rfl : pp = ⟨params, vararg, regs, code, consts, ups', kids', name, lines, upNames⟩ := hxp
  obtain ⟨o3, c3, rfl⟩ : ∃ o c, a3 = .slice o code.n c := IsArr.slice hpx.code
  obtain ⟨o4, c4, rfl⟩ : ∃ o c, a4 = .slice o consts.n c := IsArr.slice hpx.consts.1
  obtain ⟨o5, c5, rfl⟩ : ∃ o c, a5 = .slice o ups'.n c := IsArr.slice hpx.ups
  obtain ⟨o8, c8, rfl⟩ : ∃ o c, a8 = .slice o lines.n c := IsArr.slice hpx.lines
  obtain ⟨o9, c9, rfl⟩ : ∃ o c, a9 = .slice o upNames.n c := IsArr.slice hpx.upNames.1
  have e0 := hcx 0 (by omega)
  have e1 := hcx 1 (by omega)
  have e2 := hcx 2 (by omega)
  have e3 := hcx 3 (by omega)
  have e4 := hcx 4 (by omega)
  have e5 := hcx 5 (by omega)
  have e6 := hcx 6 (by omega)
  have e7 := hcx 7 (by omega)
  have e8 := hcx 8 (by omega)
  have e9 := hcx 9 (by omega)
  simp only [PV.cells, List.getElem?_cons_zero, List.getElem?_cons_succ, Nat.add_zero] at e0 e1 e2 e3 e4 e5 e6 e7 e8 e9
  have hI0 : Hid (SpI w (.slice (some ⟨go, 0, none⟩) PS.length co) PS.length X y1.heap.size [.int .i64 params, .bool vararg, .int .i64 regs, .slice o3 code.n c3, .slice o4 consts.n c4, .slice o5 ups'.n c5, .int .i64 kids', .string name, .slice o8 lines.n c8, .slice o9 upNames.n c9] ((y1.alloc (.cells #[.slice (some ⟨go, 0, none⟩) PS.length co] 25)).alloc (.cells #[.int .i64 params, .bool vararg, .int .i64 regs, .slice o3 code.n c3, .slice o4 consts.n c4, .slice o5 ups'.n c5, .int .i64 kids', .string name, .slice o8 lines.n c8, .slice o9 upNames.n c9] 35))) := by
    have R2 := (RowL.new y1 [.slice (some ⟨go, 0, none⟩) PS.length co] 25).alloc (.cells #[.int .i64 params, .bool vararg, .int .i64 regs, .slice o3 code.n c3, .slice o4 consts.n c4, .slice o5 ups'.n c5, .int .i64 kids', .string name, .slice o8 lines.n c8, .slice o9 upNames.n c9] 35)
    have R3 := RowL.new (y1.alloc (.cells #[.slice (some ⟨go, 0, none⟩) PS.length co] 25)) [.int .i64 params, .bool vararg, .int .i64 regs, .slice o3 code.n c3, .slice o4 consts.n c4, .slice o5 ups'.n c5, .int .i64 kids', .string name, .slice o8 lines.n c8, .slice o9 upNames.n c9] 35
    rw [World.size_alloc] at R3
    have hb : Below y1.heap.size y1 ((y1.alloc (.cells #[.slice (some ⟨go, 0, none⟩) PS.length co] 25)).alloc (.cells #[.int .i64 params, .bool vararg, .int .i64 regs, .slice o3 code.n c3, .slice o4 consts.n c4, .slice o5 ups'.n c5, .int .i64 kids', .string name, .slice o8 lines.n c8, .slice o9 upNames.n c9] 35)) := by go_grown
    exact ⟨(hR.out.call b1).call hb, R2, R3, own_below (own_mono row1 (by rw [hs2]; omega)) hb, b1'.trans (hb.mono (by omega)), by omega, fun k hk => by simp [Value.ownBlock] at hk; omega⟩
  replace hpx : Hid _ := hpx
  clear hcx row1 b1 hR hxv hq hC2 hu2 ha hi hx
  go_wp2_with fail
  refine (specPack_in 23 0 0 0 (-131072) _ (by omega) (by omega) (by omega) (by omega) (by omega) (by omega) (by omega) (by omega) (by decide)).mono ?_
  rintro e y2 ⟨rfl, b2⟩
  have hs3 : y1.heap.size + 1 < y2.heap.size := by
    have := b2.size
    rw [World.size_alloc, World.size_alloc] at this
    omega
  go_wp2_with (refine wp_gen 51 rfl (fun y => SpI w (.slice (some ⟨go, 0, none⟩) PS.length co) PS.length X y1.heap.size [.int .i64 params, .bool vararg, .int .i64 regs, .slice o3 code.n c3, .slice o4 consts.n c4, .slice o5 ups'.n c5, .int .i64 kids', .string name, .slice o8 lines.n c8, .slice o9 upNames.n c9] y ∧ RowL y y2.heap.size 51 [.int .u32 23] ∧ RowL y (y2.heap.size + 1) 35 [.int .i64 0, .bool false, .int .i64 1, .slice (some ⟨y2.heap.size, 0, none⟩) 1 1, .slice none 0 0, .slice none 0 0, .int .i64 0, .string ⟨#[]⟩, .slice none 0 0, .slice none 0 0] ∧ y2.heap.size + 2 ≤ y.heap.size) ?hG ?_)
  case hG =>
    have R3 := RowL.new (y2.alloc (.cells #[.int .u32 23] 51)) [.int .i64 0, .bool false, .int .i64 1, .slice (some ⟨y2.heap.size, 0, none⟩) 1 1, .slice none 0 0, .slice none 0 0, .int .i64 0, .string ⟨#[]⟩, .slice none 0 0, .slice none 0 0] 35
    rw [World.size_alloc] at R3
    refine ⟨((hI0.out.later b2).alloc _).alloc _, (RowL.new y2 [.int .u32 23] 51).alloc _, R3, by rw [World.size_alloc, World.size_alloc]; omega⟩
  intro y hy
  obtain ⟨hI, hlf1, hlf2, hys⟩ := hy
  replace hI : Hid (SpI w (.slice (some ⟨go, 0, none⟩) PS.length co) PS.length X y1.heap.size [.int .i64 params, .bool vararg, .int .i64 regs, .slice o3 code.n c3, .slice o4 consts.n c4, .slice o5 ups'.n c5, .int .i64 kids', .string name, .slice o8 lines.n c8, .slice o9 upNames.n c9] y) := hI
  replace hlf1 : Hid (RowL y y2.heap.size 51 [.int .u32 23]) := hlf1
  replace hlf2 : Hid (RowL y (y2.heap.size + 1) 35 [.int .i64 0, .bool false, .int .i64 1, .slice (some ⟨y2.heap.size, 0, none⟩) 1 1, .slice none 0 0, .slice none 0 0, .int .i64 0, .string ⟨#[]⟩, .slice none 0 0, .slice none 0 0]) := hlf2
  have hW := hI.out.bel
  clear e0 e1 e2 e3 e4 e5 e6 e7 e8 e9 hI0 b2
  have hBo := hI.out.hBo
  have l0 := hlf2.out.cell 0 rfl
  have l1 := hlf2.out.cell 1 rfl
  have l2 := hlf2.out.cell 2 rfl
  have l3 := hlf2.out.cell 3 rfl
  have l4 := hlf2.out.cell 4 rfl
  have l5 := hlf2.out.cell 5 rfl
  have l6 := hlf2.out.cell 6 rfl
  have l7 := hlf2.out.cell 7 rfl
  have l8 := hlf2.out.cell 8 rfl
  have l9 := hlf2.out.cell 9 rfl
  have hR0 := RowL.new y [.int .i64 0, .bool false, .int .i64 1, .slice (some ⟨y2.heap.size, 0, none⟩) 1 1, .slice none 0 0, .slice none 0 0, .int .i64 0, .string ⟨#[]⟩, .slice none 0 0, .slice none 0 0] 35
  have r6 := hR0.cell 6 rfl
  have rf6 := hR0.frozen 6
  have hR1 := hR0.set 6 (.int .i64 (199 + x))
  replace hR1 : Hid (RowL _ _ _ _) := hR1
  replace hR0 : Hid (RowL _ _ _ _) := hR0
  go_wp2_with (refine wp_gen 219 rfl (fun ya => RowL ya y.heap.size 35 [.int .i64 0, .bool false, .int .i64 1, .slice (some ⟨y2.heap.size, 0, none⟩) 1 1, .slice none 0 0, .slice none 0 0, .int .i64 (199 + x), .string ⟨#[]⟩, .slice none 0 0, .slice none 0 0] ∧ RowL ya (w.heap.size + 1) 25 [.slice none 0 0] ∧ RowL ya (y2.heap.size + 1) 35 [.int .i64 0, .bool false, .int .i64 1, .slice (some ⟨y2.heap.size, 0, none⟩) 1 1, .slice none 0 0, .slice none 0 0, .int .i64 0, .string ⟨#[]⟩, .slice none 0 0, .slice none 0 0] ∧ RowL ya y2.heap.size 51 [.int .u32 23] ∧ Below w.heap.size w ya ∧ ya.heap.size = y.heap.size + 1) ?hA ?_)
  case hA =>
    exact ⟨RowL.new y [.int .i64 0, .bool false, .int .i64 1, .slice (some ⟨y2.heap.size, 0, none⟩) 1 1, .slice none 0 0, .slice none 0 0, .int .i64 (199 + x), .string ⟨#[]⟩, .slice none 0 0, .slice none 0 0] 35, hI.out.br.alloc _, hlf2.out.alloc _, hlf1.out.alloc _, hW.alloc hW.size _, World.size_alloc _ _⟩
  intro ya hya
  obtain ⟨hr, hbr, hlf, hlc, hbw, hsz⟩ := hya
  clear l0 l1 l2 l3 l4 l5 l6 l7 l8 l9 r6 rf6 hR0 hR1
  have l0 := hr.cell 0 rfl
  have l1 := hr.cell 1 rfl
  have l2 := hr.cell 2 rfl
  have l3 := hr.cell 3 rfl
  have l4 := hr.cell 4 rfl
  have l5 := hr.cell 5 rfl
  have l6 := hr.cell 6 rfl
  have l7 := hr.cell 7 rfl
  have l8 := hr.cell 8 rfl
  have l9 := hr.cell 9 rfl
  have hC0 : Hid (ChI w ya.heap.size (ya.heap.size + 1) (y2.heap.size + 1) y2.heap.size (leafPV y2.heap.size (199 + x) :: List.replicate 0 (leafPV y2.heap.size 0)) 0 (.slice (some ⟨ya.heap.size, 0, none⟩) 1 1) ((ya.alloc (.cells #[.int .i64 0, .bool false, .int .i64 1, .slice (some ⟨y2.heap.size, 0, none⟩) 1 1, .slice none 0 0, .slice none 0 0, .int .i64 (199 + x), .string ⟨#[]⟩, .slice none 0 0, .slice none 0 0] 35)).alloc (.cells #[.slice (some ⟨ya.heap.size, 0, none⟩) 1 1] 25))) := by
    have R2 := RowL.new (ya.alloc (.cells #[.int .i64 0, .bool false, .int .i64 1, .slice (some ⟨y2.heap.size, 0, none⟩) 1 1, .slice none 0 0, .slice none 0 0, .int .i64 (199 + x), .string ⟨#[]⟩, .slice none 0 0, .slice none 0 0] 35)) [.slice (some ⟨ya.heap.size, 0, none⟩) 1 1] 25
    rw [World.size_alloc] at R2
    have hbs := hbw.size
    exact ⟨(hbr.alloc _).alloc _, R2, (hlf.alloc _).alloc _, (hlc.alloc _).alloc _, (World.ownsRow_lit ya #[.int .i64 0, .bool false, .int .i64 1, .slice (some ⟨y2.heap.size, 0, none⟩) 1 1, .slice none 0 0, .slice none 0 0, .int .i64 (199 + x), .string ⟨#[]⟩, .slice none 0 0, .slice none 0 0] 1 (Nat.le_refl _) (by simp only [maxLen]; omega) rfl).alloc _, (hbw.alloc hbs _).alloc (by rw [World.size_alloc]; omega) _, by omega, by omega, by omega, by omega⟩
  replace hsz : Hid _ := hsz
  clear hr hbr hlf hlc hbw
  go_wp2_with fail
  clear l0 l1 l2 l3 l4 l5 l6 l7 l8 l9
  generalize (ya.alloc (.cells #[.int .i64 0, .bool false, .int .i64 1, .slice (some ⟨y2.heap.size, 0, none⟩) 1 1, .slice none 0 0, .slice none 0 0, .int .i64 (199 + x), .string ⟨#[]⟩, .slice none 0 0, .slice none 0 0] 35)).alloc (.cells #[.slice (some ⟨ya.heap.size, 0, none⟩) 1 1] 25) = yc at hC0 ⊢
  go_loopw [17] (fun iv wr => ∃ k : Nat, iv = .int .i64 (k : Int) ∧ k ≤ (199 + x).toNat ∧ Hid (∃ vch, ChI w ya.heap.size (ya.heap.size + 1) (y2.heap.size + 1) y2.heap.size (leafPV y2.heap.size (199 + x) :: List.replicate k (leafPV y2.heap.size 0)) 0 vch wr))
    (fun iv _ => (199 + x).toNat - (intOf iv).toNat)
  case atStart => exact ⟨0, rfl, by omega, ⟨_, hC0.out⟩⟩
  case round =>
    obtain ⟨k, rfl, hkN, hT⟩ := hrel
    obtain ⟨yz, hyz⟩ : ∃ x, x = wr := ⟨_, rfl⟩
    subst hyz
    clear hC0
    obtain ⟨vch, hz⟩ := hT.out
    have hLl : (leafPV y2.heap.size (199 + x) :: List.replicate k (leafPV y2.heap.size 0)).length = k + 1 := by simp
    by_cases hlt : k < (199 + x).toNat
    · have hii : (k : Int) < 199 + x := by omega
      clear hT
      obtain ⟨i0, hi, hz0, hz1, hz2⟩ := info_parts infoPro
      have l0 := hz.lf.cell 0 rfl
      have l1 := hz.lf.cell 1 rfl
      have l2 := hz.lf.cell 2 rfl
      have l3 := hz.lf.cell 3 rfl
      have l4 := hz.lf.cell 4 rfl
      have l5 := hz.lf.cell 5 rfl
      have l6 := hz.lf.cell 6 rfl
      have l7 := hz.lf.cell 7 rfl
      have l8 := hz.lf.cell 8 rfl
      have l9 := hz.lf.cell 9 rfl
      have lb := hz.bc.cell 0 rfl
      have lb' := (hz.alloc (.cells #[.int .i64 0, .bool false, .int .i64 1, .slice (some ⟨y2.heap.size, 0, none⟩) 1 1, .slice none 0 0, .slice none 0 0, .int .i64 0, .string ⟨#[]⟩, .slice none 0 0, .slice none 0 0] 35)).bc.cell 0 rfl
      replace hz : Hid _ := hz
      go_wp2_with (at_builtin; refine wpList_append_own_at _ rfl (.tmp 229) (.tmp 231) 23 rfl ya.heap.size 35 i0 (.agg #[.int .i64 0, .bool false, .int .i64 0, .slice none 0 0, .slice none 0 0, .slice none 0 0, .int .i64 0, .string ⟨#[]⟩, .slice none 0 0, .slice none 0 0]) 10 168 Try.underlying23 hi hz0 hz1 hz2 rfl (by decide) vch (k + 1) _ rfl (by have := hz.out.row.alloc (.cells #[.int .i64 0, .bool false, .int .i64 1, .slice (some ⟨y2.heap.size, 0, none⟩) 1 1, .slice none 0 0, .slice none 0 0, .int .i64 0, .string ⟨#[]⟩, .slice none 0 0, .slice none 0 0] 35); rw [hLl] at this; exact this) ⟨yz.heap.size, 0, none⟩ 1 1 [.int .i64 0, .bool false, .int .i64 1, .slice (some ⟨y2.heap.size, 0, none⟩) 1 1, .slice none 0 0, .slice none 0 0, .int .i64 0, .string ⟨#[]⟩, .slice none 0 0, .slice none 0 0] rfl rfl ?s1 ?s2 ?s3 ?s4 ?s5 ?_)
      case s1 => exact World.news_of_block (heap_alloc_new _ _)
      case s2 => first | exact ⟨rfl, rfl, rfl, rfl, rfl, rfl, rfl, rfl, rfl, rfl⟩ | (intro u hu; simp only [List.mem_cons, List.not_mem_nil, or_false] at hu; rcases hu with rfl | rfl | rfl | rfl | rfl | rfl | rfl | rfl | rfl | rfl <;> rfl)
      case s3 => simp only [maxLen]; omega
      case s4 => omega
      case s5 => have := hz.out.bc.lt; (try simp only [World.size_alloc]); omega
      intro v' w' hown hg _ hat
      obtain ⟨g, cp, rfl, -, -⟩ := hown.form (by omega)
      obtain ⟨hC3, bx⟩ := ChI.app (w' := w') (v' := .slice (some ⟨g, 0, none⟩) (k + 1 + 1) cp) (hz.out.alloc (.cells #[.int .i64 0, .bool false, .int .i64 1, .slice (some ⟨y2.heap.size, 0, none⟩) 1 1, .slice none 0 0, .slice none 0 0, .int .i64 0, .string ⟨#[]⟩, .slice none 0 0, .slice none 0 0] 35)) (by rw [hLl]; exact hown) hg
      have q2 := bx.cell 0 rfl
      have f2 := bx.frozen 0
      have hT1 : Hid (∃ vch, ChI w ya.heap.size (ya.heap.size + 1) (y2.heap.size + 1) y2.heap.size (leafPV y2.heap.size (199 + x) :: List.replicate (k + 1) (leafPV y2.heap.size 0)) 0 vch (w'.setCell ⟨ya.heap.size + 1, 0, none⟩ (.slice (some ⟨g, 0, none⟩) (k + 1 + 1) cp))) := by
        refine ⟨.slice (some ⟨g, 0, none⟩) (k + 1 + 1) cp, ?_⟩
        rw [List.replicate_succ', ← List.cons_append]
        exact hC3
      clear hown hg hat hi hz0 hz1 hz2 bx hC3 hz l0 l1 l2 l3 l4 l5 l6 l7 l8 l9 lb lb'
      go_wp2_with fail
      go_roundw
      case rel => exact ⟨k + 1, by go_num, by omega, hT1.out⟩
      case measure => simp [intOf]; omega
    · obtain rfl : k = (199 + x).toNat := by omega
      obtain ⟨av, cv, rfl⟩ := own_slice hz.row
      have hF := hz.fin (PS' := leafK (199 + x) :: List.replicate (199 + x).toNat (leafK 0)) (by simp [leafPV]) (fun x' hx' => by rcases List.mem_cons.1 hx' with rfl | h1; exact ⟨_, rfl⟩; exact ⟨0, List.eq_of_mem_replicate h1⟩)
      have lb := hz.bc.cell 0 rfl
      have dr5 := hz.br.cell 0 rfl
      have fr5 := hz.br.frozen 0
      rw [hLl] at *
      have hfin := (hz.br.set 0 (.slice av ((199 + x).toNat + 1) cv)).cell 0 rfl
      have hnn : ¬ ((((199 + x).toNat : Nat) : Int) < 199 + x) := by omega
      replace hF : Hid _ := hF
      clear hT hz
      go_wp2_with fail
      refine bodyPost_ret (v := .agg #[.slice av ((199 + x).toNat + 1) cv]) (by simp [results, Try.results9, go_sem, hfin]) rfl ⟨_, rfl, hF.out.1, hF.out.2.mono fun b hb => .inr hb⟩
set_option maxRecDepth 100000 in
set_option maxHeartbeats 12000000 in
theorem spoil19 (c : Sl Int) (P : Nat) (PS : List PD) (hP : P ≤ 3000) (hl : PS.length ≤ 10) (h0 : 0 < PS.length) (hSm : ∀ x ∈ PS, Sm x) (ha : tk c P 20 = 19) : SpoilA c P PS := by
  obtain ⟨i, hi⟩ : ∃ i : Nat, tk c (P + 1) PS.length = (i : Int) := Int.eq_ofNat_of_zero_le (tk_bd _ _ _).1
  have hin : i < PS.length := by have := (tk_bd c (P + 1) PS.length).2 (by omega); omega
  obtain ⟨x, hx⟩ : ∃ x, tk c (P + 2) 2 = x := ⟨_, rfl⟩
  have hx1 : 0 ≤ x := hx ▸ (tk_bd _ _ _).1
  have hx2 : x ≤ 1 := by have := (tk_bd c (P + 2) 2).2 (by omega); omega
  obtain ⟨q, hq⟩ : ∃ q, PS[i]'hin = q := ⟨_, rfl⟩
  have hqs : Sm q := hSm q (hq ▸ List.getElem_mem hin)
  obtain ⟨params, vararg, regs, code, consts, ups', kids', name, lines, upNames⟩ := q
  refine ⟨PS ++ [leafK 0], fun av w v u hav hC hu => ?_⟩
  obtain ⟨ao, cap, rfl⟩ : ∃ ao cap, v = .slice ao c.n cap := IsArr.slice hC.ints
  obtain ⟨au, cu, rfl⟩ : ∃ a b, u = .slice a PS.length b := by obtain ⟨_, _, _, _, _, ⟨a, b, h, _⟩, _⟩ := hu; exact ⟨a, b, h⟩
  have hsm := hC.small
  have hB2 : Below w.heap.size w ((w.alloc (.cells #[.slice au PS.length cu] 25)).alloc (.cells #[.slice none 0 0] 25)) := by go_grown
  have hC2 : Hid _ := hC.later hB2
  have hu2 : Hid (IsProtos av ((w.alloc (.cells #[.slice au PS.length cu] 25)).alloc (.cells #[.slice none 0 0] 25)) (.slice au PS.length cu) (slOf PS)) := hu.keep fun b hb => hB2.block b (hav b hb)
  replace ha : Hid _ := ha
  replace hi : Hid (tk c (P + 1) PS.length = (i : Int)) := hi
  replace hx : Hid (tk c (P + 2) 2 = x) := hx
  have hR : Hid (RowL ((w.alloc (.cells #[.slice au PS.length cu] 25)).alloc (.cells #[.slice none 0 0] 25)) (w.heap.size + 1) 25 [.slice none 0 0]) := by
    have := RowL.new (w.alloc (.cells #[.slice au PS.length cu] 25)) [.slice none 0 0] 25
    rw [World.size_alloc] at this
    exact this
  have hs2 : ((w.alloc (.cells #[.slice au PS.length cu] 25)).alloc (.cells #[.slice none 0 0] 25)).heap.size = w.heap.size + 2 := by rw [World.size_alloc, World.size_alloc]
  clear hC hu hSm
  go_enter Try.func9, Try.ntmps9
  go_wp2_with fail
  refine (l1Take_to c _ P P 20 _ rfl hC2.out (by omega) (by omega) ha.out).mono ?_
  rintro e w' ⟨rfl, rfl⟩
  go_wp2_with fail
  refine (l1Take_to c _ (P + 1) (P + 1) PS.length _ (by omega) hC2.out (by omega) (by omega) hi.out).mono ?_
  rintro e w' ⟨rfl, rfl⟩
  go_wp2_with fail
  refine (l1Take_to c _ (P + 2) (P + 1 + 1) 2 _ (by omega) hC2.out (by omega) (by omega) hx.out).mono ?_
  rintro e w' ⟨rfl, rfl⟩
  go_wp2_with fail
  refine (l2Copy_in (av := av) PS _ _ (fun b hb => by rw [hs2]; have := hav b hb; omega) hu2.out (by omega)).mono ?_
  rintro e y1 ⟨vo, X, rfl, b1, row1, hXp, hX⟩
  have b1' : Below w.heap.size w y1 := hB2.trans (b1.mono hB2.size)
  have hs1 := b1.size
  obtain ⟨go, co, rfl, -, -⟩ := row1.form (by omega)
  have hgo := row1.lt go rfl
  rw [hs2] at hs1 hgo
  have hXl : X.length = PS.length := by rw [← hXp]; simp
  obtain ⟨xv, hxv⟩ : ∃ xv, X[i]? = some xv := ⟨X[i]'(by omega), List.getElem?_eq_getElem (by omega)⟩
  have hxp : xv.p = ⟨params, vararg, regs, code, consts, ups', kids', name, lines, upNames⟩ := by
    have h1 : (X.map PV.p)[i]? = some xv.p := by rw [List.getElem?_map, hxv]; rfl
    rw [hXp, List.getElem?_eq_getElem hin, hq] at h1
    simpa using h1.symm
  have hpx : IsProto av w xv.a3 xv.a4 xv.a5 xv.a8 xv.a9 xv.p := (hX xv (List.mem_of_getElem? hxv)).keep fun b hb => (hB2.block b (hav b hb)).symm
  replace hX : Hid (∀ x ∈ X, IsProto av w x.a3 x.a4 x.a5 x.a8 x.a9 x.p) := fun x' hx' => (hX x' hx').keep fun b hb => (hB2.block b (hav b hb)).symm
  replace hav : Hid (∀ b, av b → b < w.heap.size) := hav
  have hcx : ∀ j, j < 10 → (y1.alloc (.cells #[.slice (some ⟨go, 0, none⟩) PS.length co] 25)).cell? ⟨go, i * 10 + j, none⟩ = xv.cells[j]? := fun j hj => by
    rw [World.cell?_of_block (w := y1) (Below.heap_alloc _ _ _ hgo.2), row1.cellAt _ (by omega)]
    exact pvCells_get X i xv hxv j hj
  obtain ⟨pp, a3, a4, a5, a8, a9⟩ := xv
  obtain rfl : pp = ⟨params, vararg, regs, code, consts, ups', kids', name, lines, upNames⟩ := hxp
  obtain ⟨o3, c3, rfl⟩ : ∃ o c, a3 = .slice o code.n c := IsArr.slice hpx.code
  obtain ⟨o4, c4, rfl⟩ : ∃ o c, a4 = .slice o consts.n c := IsArr.slice hpx.consts.1
  obtain ⟨o5, c5, rfl⟩ : ∃ o c, a5 = .slice o ups'.n c := IsArr.slice hpx.ups
  obtain ⟨o8, c8, rfl⟩ : ∃ o c, a8 = .slice o lines.n c := IsArr.slice hpx.lines
  obtain ⟨o9, c9, rfl⟩ : ∃ o c, a9 = .slice o upNames.n c := IsArr.slice hpx.upNames.1
  have e0 := hcx 0 (by omega)
  have e1 := hcx 1 (by omega)
  have e2 := hcx 2 (by omega)
  have e3 := hcx 3 (by omega)
  have e4 := hcx 4 (by omega)
  have e5 := hcx 5 (by omega)
  have e6 := hcx 6 (by omega)
  have e7 := hcx 7 (by omega)
  have e8 := hcx 8 (by omega)
  have e9 := hcx 9 (by omega)
  simp only [PV.cells, List.getElem?_cons_zero, List.getElem?_cons_succ, Nat.add_zero] at e0 e1 e2 e3 e4 e5 e6 e7 e8 e9
  have hI0 : Hid (SpI w (.slice (some ⟨go, 0, none⟩) PS.length co) PS.length X y1.heap.size [.int .i64 params, .bool vararg, .int .i64 regs, .slice o3 code.n c3, .slice o4 consts.n c4, .slice o5 ups'.n c5, .int .i64 kids', .string name, .slice o8 lines.n c8, .slice o9 upNames.n c9] ((y1.alloc (.cells #[.slice (some ⟨go, 0, none⟩) PS.length co] 25)).alloc (.cells #[.int .i64 params, .bool vararg, .int .i64 regs, .slice o3 code.n c3, .slice o4 consts.n c4, .slice o5 ups'.n c5, .int .i64 kids', .string name, .slice o8 lines.n c8, .slice o9 upNames.n c9] 35))) := by
    have R2 := (RowL.new y1 [.slice (some ⟨go, 0, none⟩) PS.length co] 25).alloc (.cells #[.int .i64 params, .bool vararg, .int .i64 regs, .slice o3 code.n c3, .slice o4 consts.n c4, .slice o5 ups'.n c5, .int .i64 kids', .string name, .slice o8 lines.n c8, .slice o9 upNames.n c9] 35)
    have R3 := RowL.new (y1.alloc (.cells #[.slice (some ⟨go, 0, none⟩) PS.length co] 25)) [.int .i64 params, .bool vararg, .int .i64 regs, .slice o3 code.n c3, .slice o4 consts.n c4, .slice o5 ups'.n c5, .int .i64 kids', .string name, .slice o8 lines.n c8, .slice o9 upNames.n c9] 35
    rw [World.size_alloc] at R3
    have hb : Below y1.heap.size y1 ((y1.alloc (.cells #[.slice (some ⟨go, 0, none⟩) PS.length co] 25)).alloc (.cells #[.int .i64 params, .bool vararg, .int .i64 regs, .slice o3 code.n c3, .slice o4 consts.n c4, .slice o5 ups'.n c5, .int .i64 kids', .string name, .slice o8 lines.n c8, .slice o9 upNames.n c9] 35)) := by go_grown
    exact ⟨(hR.out.call b1).call hb, R2, R3, own_below (own_mono row1 (by rw [hs2]; omega)) hb, b1'.trans (hb.mono (by omega)), by omega, fun k hk => by simp [Value.ownBlock] at hk; omega⟩
  replace hpx : Hid _ := hpx
  clear hcx row1 b1 hR hxv hq hC2 hu2 ha hi hx
  go_wp2_with fail
  refine (specPack_in 23 0 0 0 (-131072) _ (by omega) (by omega) (by omega) (by omega) (by omega) (by omega) (by omega) (by omega) (by decide)).mono ?_
  rintro e y2 ⟨rfl, b2⟩
  have hs3 : y1.heap.size + 1 < y2.heap.size := by
    have := b2.size
    rw [World.size_alloc, World.size_alloc] at this
    omega
  go_wp2_with (refine wp_gen 51 rfl (fun y => SpI w (.slice (some ⟨go, 0, none⟩) PS.length co) PS.length X y1.heap.size [.int .i64 params, .bool vararg, .int .i64 regs, .slice o3 code.n c3, .slice o4 consts.n c4, .slice o5 ups'.n c5, .int .i64 kids', .string name, .slice o8 lines.n c8, .slice o9 upNames.n c9] y ∧ RowL y y2.heap.size 51 [.int .u32 23] ∧ RowL y (y2.heap.size + 1) 35 [.int .i64 0, .bool false, .int .i64 1, .slice (some ⟨y2.heap.size, 0, none⟩) 1 1, .slice none 0 0, .slice none 0 0, .int .i64 0, .string ⟨#[]⟩, .slice none 0 0, .slice none 0 0] ∧ y2.heap.size + 2 ≤ y.heap.size) ?hG ?_)
  case hG =>
    have R3 := RowL.new (y2.alloc (.cells #[.int .u32 23] 51)) [.int .i64 0, .bool false, .int .i64 1, .slice (some ⟨y2.heap.size, 0, none⟩) 1 1, .slice none 0 0, .slice none 0 0, .int .i64 0, .string ⟨#[]⟩, .slice none 0 0, .slice none 0 0] 35
    rw [World.size_alloc] at R3
    refine ⟨((hI0.out.later b2).alloc _).alloc _, (RowL.new y2 [.int .u32 23] 51).alloc _, R3, by rw [World.size_alloc, World.size_alloc]; omega⟩
  intro y hy
  obtain ⟨hI, hlf1, hlf2, hys⟩ := hy
  replace hI : Hid (SpI w (.slice (some ⟨go, 0, none⟩) PS.length co) PS.length X y1.heap.size [.int .i64 params, .bool vararg, .int .i64 regs, .slice o3 code.n c3, .slice o4 consts.n c4, .slice o5 ups'.n c5, .int .i64 kids', .string name, .slice o8 lines.n c8, .slice o9 upNames.n c9] y) := hI
  replace hlf1 : Hid (RowL y y2.heap.size 51 [.int .u32 23]) := hlf1
  replace hlf2 : Hid (RowL y (y2.heap.size + 1) 35 [.int .i64 0, .bool false, .int .i64 1, .slice (some ⟨y2.heap.size, 0, none⟩) 1 1, .slice none 0 0, .slice none 0 0, .int .i64 0, .string ⟨#[]⟩, .slice none 0 0, .slice none 0 0]) := hlf2
  have hW := hI.out.bel
  clear e0 e1 e2 e3 e4 e5 e6 e7 e8 e9 hI0 b2
  have hBo := hI.out.hBo
  obtain ⟨i0, hi, hz0, hz1, hz2⟩ := info_parts infoPro
  have l0 := hlf2.out.cell 0 rfl
  have l1 := hlf2.out.cell 1 rfl
  have l2 := hlf2.out.cell 2 rfl
  have l3 := hlf2.out.cell 3 rfl
  have l4 := hlf2.out.cell 4 rfl
  have l5 := hlf2.out.cell 5 rfl
  have l6 := hlf2.out.cell 6 rfl
  have l7 := hlf2.out.cell 7 rfl
  have l8 := hlf2.out.cell 8 rfl
  have l9 := hlf2.out.cell 9 rfl
  have lb := hI.out.bo.cell 0 rfl
  have lb' := (hI.out.alloc (.cells #[.int .i64 0, .bool false, .int .i64 1, .slice (some ⟨y2.heap.size, 0, none⟩) 1 1, .slice none 0 0, .slice none 0 0, .int .i64 0, .string ⟨#[]⟩, .slice none 0 0, .slice none 0 0] 35)).bo.cell 0 rfl
  go_wp2_with (at_builtin; refine wpList_append_own_at _ rfl (.tmp 236) (.tmp 238) 23 rfl w.heap.size 35 i0 (.agg #[.int .i64 0, .bool false, .int .i64 0, .slice none 0 0, .slice none 0 0, .slice none 0 0, .int .i64 0, .string ⟨#[]⟩, .slice none 0 0, .slice none 0 0]) 10 168 Try.underlying23 hi hz0 hz1 hz2 rfl (by decide) (.slice (some ⟨go, 0, none⟩) PS.length co) PS.length _ rfl (hI.out.row.alloc _) ⟨y.heap.size, 0, none⟩ 1 1 [.int .i64 0, .bool false, .int .i64 1, .slice (some ⟨y2.heap.size, 0, none⟩) 1 1, .slice none 0 0, .slice none 0 0, .int .i64 0, .string ⟨#[]⟩, .slice none 0 0, .slice none 0 0] rfl rfl ?s1 ?s2 ?s3 ?s4 ?s5 ?_)
  case s1 => exact World.news_of_block (heap_alloc_new _ _)
  case s2 => first | exact ⟨rfl, rfl, rfl, rfl, rfl, rfl, rfl, rfl, rfl, rfl⟩ | (intro u hu; simp only [List.mem_cons, List.not_mem_nil, or_false] at hu; rcases hu with rfl | rfl | rfl | rfl | rfl | rfl | rfl | rfl | rfl | rfl <;> rfl)
  case s3 => simp only [maxLen]; omega
  case s4 => omega
  case s5 => (try simp only [World.size_alloc]); omega
  intro v' w' hown hg _ hat
  obtain ⟨g, cp, rfl, -, -⟩ := hown.form (by omega)
  have hk1 : ∀ k, k < y.heap.size → k ≠ go → w'.heap[k]? = y.heap[k]? := fun k h1 h2 => (hg.block k (by rw [World.size_alloc]; omega) (by simp [Value.ownBlock]; omega)).trans (Below.heap_alloc _ _ _ h1)
  have b1 : RowL w' y1.heap.size 25 [.slice (some ⟨go, 0, none⟩) PS.length co] := World.rowIs.of_block hI.out.bo (hk1 _ hI.out.bo.lt (by omega))
  have b2 : RowL w' (w.heap.size + 1) 25 [.slice none 0 0] := World.rowIs.of_block hI.out.br (hk1 _ hI.out.br.lt (by omega))
  have b3 : RowL w' y2.heap.size 51 [.int .u32 23] := World.rowIs.of_block hlf1.out (hk1 _ hlf1.out.lt (by omega))
  have n1 := own_ne_row hown b1 (by decide)
  have n2 := own_ne_row hown b2 (by decide)
  have hbw : Below w.heap.size w w' := Below.grown (hI.out.bel.alloc hI.out.bel.size _) hg (by rw [World.size_alloc]; omega) (fun q hq => by simp [Value.ownBlock] at hq; omega)
  have q2 := b1.cell 0 rfl
  have f2 := b1.frozen 0
  have b1' := b1.set 0 (.slice (some ⟨g, 0, none⟩) (PS.length + 1) cp)
  have b2' := b2.other (a := ⟨y1.heap.size, 0, none⟩) (by show w.heap.size + 1 ≠ y1.heap.size; omega) (.slice (some ⟨g, 0, none⟩) (PS.length + 1) cp)
  have q3 := b1'.cell 0 rfl
  have dr5 := b2'.cell 0 rfl
  have fr5 := b2'.frozen 0
  have hfin := (b2'.set 0 (.slice (some ⟨g, 0, none⟩) (PS.length + 1) cp)).cell 0 rfl
  have hF1 : Hid (Below w.heap.size w ((w'.setCell ⟨y1.heap.size, 0, none⟩ (.slice (some ⟨g, 0, none⟩) (PS.length + 1) cp)).setCell ⟨w.heap.size + 1, 0, none⟩ (.slice (some ⟨g, 0, none⟩) (PS.length + 1) cp))) := (hbw.setCell (p := ⟨y1.heap.size, 0, none⟩) (by show w.heap.size ≤ y1.heap.size; omega) _).setCell (p := ⟨w.heap.size + 1, 0, none⟩) (by show w.heap.size ≤ w.heap.size + 1; omega) _
  have hF2 : Hid (IsProtos (fun b => av b ∨ (w.heap.size ≤ b ∧ b < ((w'.setCell ⟨y1.heap.size, 0, none⟩ (.slice (some ⟨g, 0, none⟩) (PS.length + 1) cp)).setCell ⟨w.heap.size + 1, 0, none⟩ (.slice (some ⟨g, 0, none⟩) (PS.length + 1) cp)).heap.size)) ((w'.setCell ⟨y1.heap.size, 0, none⟩ (.slice (some ⟨g, 0, none⟩) (PS.length + 1) cp)).setCell ⟨w.heap.size + 1, 0, none⟩ (.slice (some ⟨g, 0, none⟩) (PS.length + 1) cp)) (.slice (some ⟨g, 0, none⟩) (PS.length + 1) cp) (slOf (PS ++ [leafK 0]))) := by
    have hkk : ∀ k, k ≠ y1.heap.size → k ≠ w.heap.size + 1 → ((w'.setCell ⟨y1.heap.size, 0, none⟩ (.slice (some ⟨g, 0, none⟩) (PS.length + 1) cp)).setCell ⟨w.heap.size + 1, 0, none⟩ (.slice (some ⟨g, 0, none⟩) (PS.length + 1) cp)).heap[k]? = w'.heap[k]? := fun k h1 h2 => by rw [Below.heap_setCell _ _ _ _ h2, Below.heap_setCell _ _ _ _ h1]
    have hss : ((w'.setCell ⟨y1.heap.size, 0, none⟩ (.slice (some ⟨g, 0, none⟩) (PS.length + 1) cp)).setCell ⟨w.heap.size + 1, 0, none⟩ (.slice (some ⟨g, 0, none⟩) (PS.length + 1) cp)).heap.size = w'.heap.size := by rw [World.size_setCell, World.size_setCell]
    have hrow := own_keep (y' := (w'.setCell ⟨y1.heap.size, 0, none⟩ (.slice (some ⟨g, 0, none⟩) (PS.length + 1) cp)).setCell ⟨w.heap.size + 1, 0, none⟩ (.slice (some ⟨g, 0, none⟩) (PS.length + 1) cp)) hown fun k hk => hkk k (by rintro rfl; exact n1 hk) (by rintro rfl; exact n2 hk)
    have hX2 : (X ++ [leafPV y2.heap.size 0]).map PV.p = PS ++ [leafK 0] := by rw [List.map_append, hXp]; rfl
    show IsProtos _ _ _ _
    rw [← hX2]
    refine protos_of_row (X := X ++ [leafPV y2.heap.size 0]) (lo := w.heap.size) (by rw [List.length_append, pvCells_append, hXl]; exact hrow) (fun b hb => by rw [hss]; exact .inr (hown.lt b hb)) (fun x' hx' => ?_)
    rcases List.mem_append.1 hx' with h1 | h1
    · refine ((hX.out x' h1).keep fun b hb => ?_).mono fun b hb => .inl hb
      exact hF1.out.block b (hav.out b hb)
    · simp at h1
      subst h1
      exact leaf_proto (World.rowIs.of_block b3 (hkk _ (by omega) (by omega))) (by rw [hss]; exact .inr ⟨by omega, b3.lt⟩) 0
  clear hown hg hat hi hz0 hz1 hz2 b1 b2 b3 b1' b2' n1 n2 hk1 l0 l1 l2 l3 l4 l5 l6 l7 l8 l9 lb lb'
  go_wp2_with fail
  refine bodyPost_ret (v := .agg #[.slice (some ⟨g, 0, none⟩) (PS.length + 1) cp]) (by simp [results, Try.results9, go_sem, hfin]) rfl ⟨_, rfl, hF1.out, hF2.out⟩
end Go.Proofs.Ytlkmohhkhcbiaaa

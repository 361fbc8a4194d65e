import Derived.Test.YtlkmohhkhcbiaaaDrO
namespace Go.Proofs.Ytlkmohhkhcbiaaa
open Go.RowKit Go.Shelf
set_option linter.unusedVariables false
set_option linter.unusedSimpArgs false
attribute [local go_sem] Oper.semAt_some
set_option maxRecDepth 100000 in
set_option maxHeartbeats 12000000 in
theorem spoil4 (c : Sl Int) (P : Nat) (PS : List PD) (hP : P ≤ 3000) (hl : PS.length ≤ 10) (h0 : 0 < PS.length) (hSm : ∀ x ∈ PS, Sm x) (ha : tk c P 20 = 4) : SpoilA c P PS := by
  obtain ⟨i, hi⟩ : ∃ i : Nat, tk c (P + 1) PS.length = (i : Int) := Int.eq_ofNat_of_zero_le (tk_bd _ _ _).1
  have hin : i < PS.length := by have := (tk_bd c (P + 1) PS.length).2 (by omega); omega
  obtain ⟨x, hx⟩ : ∃ x, tk c (P + 2) 2 = x := ⟨_, rfl⟩
  have hx1 : 0 ≤ x := hx ▸ (tk_bd _ _ _).1
  have hx2 : x ≤ 1 := by have := (tk_bd c (P + 2) 2).2 (by omega); omega
  obtain ⟨q, hq⟩ : ∃ q, PS[i]'hin = q := ⟨_, rfl⟩
  have hqs : Sm q := hSm q (hq ▸ List.getElem_mem hin)
  obtain ⟨params, vararg, regs, code, consts, ups', kids', name, lines, upNames⟩ := q
  refine ⟨PS.set i (⟨params, vararg, regs, ⟨(2000 + x).toNat, fun _ => 0⟩, consts, ups', kids', name, (slOf []), upNames⟩ : PD), fun av w v u hav hC hu => ?_⟩
  obtain ⟨ao, cap, rfl⟩ : ∃ ao cap, v = .slice ao c.n cap := IsArr.slice hC.ints
  obtain ⟨au, cu, rfl⟩ : ∃ a b, u = .slice a PS.length b := by obtain ⟨_, _, _, _, _, ⟨a, b, h, _⟩, _⟩ := hu; exact ⟨a, b, h⟩
  have hsm := hC.small
  have hB2 : Below w.heap.size w ((w.alloc (.cells #[.slice au PS.length cu] 25)).alloc (.cells #[.slice none 0 0] 25)) := by go_grown
  have hC2 : Hid _ := hC.later hB2
  have hu2 : Hid (IsProtos av ((w.alloc (.cells #[.slice au PS.length cu] 25)).alloc (.cells #[.slice none 0 0] 25)) (.slice au PS.length cu) (slOf PS)) := hu.keep fun b hb => hB2.block b (hav b hb)
  replace ha : Hid _ := ha
  replace hi : Hid (tk c (P + 1) PS.length = (i : Int)) := hi
  replace hx : Hid (tk c (P + 2) 2 = x) := hx
  have hR : Hid (RowL ((w.alloc (.cells #[.slice au PS.length cu] 25)).alloc (.cells #[.slice none 0 0] 25)) (w.heap.size + 1) 25 [.slice none 0 0]) := by
    have := RowL.new (w.alloc (.cells #[.slice au PS.length cu] 25)) [.slice none 0 0] 25
    rw [World.size_alloc] at this
    exact this
  have hs2 : ((w.alloc (.cells #[.slice au PS.length cu] 25)).alloc (.cells #[.slice none 0 0] 25)).heap.size = w.heap.size + 2 := by rw [World.size_alloc, World.size_alloc]
  clear hC hu hSm
  go_enter Try.func9, Try.ntmps9
  go_wp2_with fail
  refine (l1Take_to c _ P P 20 _ rfl hC2.out (by omega) (by omega) ha.out).mono ?_
  rintro e w' ⟨rfl, rfl⟩
  go_wp2_with fail
  refine (l1Take_to c _ (P + 1) (P + 1) PS.length _ (by omega) hC2.out (by omega) (by omega) hi.out).mono ?_
  rintro e w' ⟨rfl, rfl⟩
  go_wp2_with fail
  refine (l1Take_to c _ (P + 2) (P + 1 + 1) 2 _ (by omega) hC2.out (by omega) (by omega) hx.out).mono ?_
  rintro e w' ⟨rfl, rfl⟩
  go_wp2_with fail
  refine (l2Copy_in (av := av) PS _ _ (fun b hb => by rw [hs2]; have := hav b hb; omega) hu2.out (by omega)).mono ?_
  rintro e y1 ⟨vo, X, rfl, b1, row1, hXp, hX⟩
  have b1' : Below w.heap.size w y1 := hB2.trans (b1.mono hB2.size)
  have hs1 := b1.size
  obtain ⟨go, co, rfl, -, -⟩ := row1.form (by omega)
  have hgo := row1.lt go rfl
  rw [hs2] at hs1 hgo
  have hXl : X.length = PS.length := by rw [← hXp]; simp
  obtain ⟨xv, hxv⟩ : ∃ xv, X[i]? = some xv := ⟨X[i]'(by omega), List.getElem?_eq_getElem (by omega)⟩
  have hxp : xv.p = ⟨params, vararg, regs, code, consts, ups', kids', name, lines, upNames⟩ := by
    have h1 : (X.map PV.p)[i]? = some xv.p := by rw [List.getElem?_map, hxv]; rfl
    rw [hXp, List.getElem?_eq_getElem hin, hq] at h1
    simpa using h1.symm
  have hpx : IsProto av w xv.a3 xv.a4 xv.a5 xv.a8 xv.a9 xv.p := (hX xv (List.mem_of_getElem? hxv)).keep fun b hb => (hB2.block b (hav b hb)).symm
  replace hX : Hid (∀ x ∈ X, IsProto av w x.a3 x.a4 x.a5 x.a8 x.a9 x.p) := fun x' hx' => (hX x' hx').keep fun b hb => (hB2.block b (hav b hb)).symm
  replace hav : Hid (∀ b, av b → b < w.heap.size) := hav
  have hcx : ∀ j, j < 10 → (y1.alloc (.cells #[.slice (some ⟨go, 0, none⟩) PS.length co] 25)).cell? ⟨go, i * 10 + j, none⟩ = xv.cells[j]? := fun j hj => by
    rw [World.cell?_of_block (w := y1) (Below.heap_alloc _ _ _ hgo.2), row1.cellAt _ (by omega)]
    exact pvCells_get X i xv hxv j hj
  obtain ⟨pp, a3, a4, a5, a8, a9⟩ := xv
  obtain rfl : pp = ⟨params, vararg, regs, code, consts, ups', kids', name, lines, upNames⟩ := hxp
  obtain ⟨o3, c3, rfl⟩ : ∃ o c, a3 = .slice o code.n c := IsArr.slice hpx.code
  obtain ⟨o4, c4, rfl⟩ : ∃ o c, a4 = .slice o consts.n c := IsArr.slice hpx.consts.1
  obtain ⟨o5, c5, rfl⟩ : ∃ o c, a5 = .slice o ups'.n c := IsArr.slice hpx.ups
  obtain ⟨o8, c8, rfl⟩ : ∃ o c, a8 = .slice o lines.n c := IsArr.slice hpx.lines
  obtain ⟨o9, c9, rfl⟩ : ∃ o c, a9 = .slice o upNames.n c := IsArr.slice hpx.upNames.1
  have e0 := hcx 0 (by omega)
  have e1 := hcx 1 (by omega)
  have e2 := hcx 2 (by omega)
  have e3 := hcx 3 (by omega)
  have e4 := hcx 4 (by omega)
  have e5 := hcx 5 (by omega)
  have e6 := hcx 6 (by omega)
  have e7 := hcx 7 (by omega)
  have e8 := hcx 8 (by omega)
  have e9 := hcx 9 (by omega)
  simp only [PV.cells, List.getElem?_cons_zero, List.getElem?_cons_succ, Nat.add_zero] at e0 e1 e2 e3 e4 e5 e6 e7 e8 e9
  have hI0 : Hid (SpI w (.slice (some ⟨go, 0, none⟩) PS.length co) PS.length X y1.heap.size [.int .i64 params, .bool vararg, .int .i64 regs, .slice o3 code.n c3, .slice o4 consts.n c4, .slice o5 ups'.n c5, .int .i64 kids', .string name, .slice o8 lines.n c8, .slice o9 upNames.n c9] ((y1.alloc (.cells #[.slice (some ⟨go, 0, none⟩) PS.length co] 25)).alloc (.cells #[.int .i64 params, .bool vararg, .int .i64 regs, .slice o3 code.n c3, .slice o4 consts.n c4, .slice o5 ups'.n c5, .int .i64 kids', .string name, .slice o8 lines.n c8, .slice o9 upNames.n c9] 35))) := by
    have R2 := (RowL.new y1 [.slice (some ⟨go, 0, none⟩) PS.length co] 25).alloc (.cells #[.int .i64 params, .bool vararg, .int .i64 regs, .slice o3 code.n c3, .slice o4 consts.n c4, .slice o5 ups'.n c5, .int .i64 kids', .string name, .slice o8 lines.n c8, .slice o9 upNames.n c9] 35)
    have R3 := RowL.new (y1.alloc (.cells #[.slice (some ⟨go, 0, none⟩) PS.length co] 25)) [.int .i64 params, .bool vararg, .int .i64 regs, .slice o3 code.n c3, .slice o4 consts.n c4, .slice o5 ups'.n c5, .int .i64 kids', .string name, .slice o8 lines.n c8, .slice o9 upNames.n c9] 35
    rw [World.size_alloc] at R3
    have hb : Below y1.heap.size y1 ((y1.alloc (.cells #[.slice (some ⟨go, 0, none⟩) PS.length co] 25)).alloc (.cells #[.int .i64 params, .bool vararg, .int .i64 regs, .slice o3 code.n c3, .slice o4 consts.n c4, .slice o5 ups'.n c5, .int .i64 kids', .string name, .slice o8 lines.n c8, .slice o9 upNames.n c9] 35)) := by go_grown
    exact ⟨(hR.out.call b1).call hb, R2, R3, own_below (own_mono row1 (by rw [hs2]; omega)) hb, b1'.trans (hb.mono (by omega)), by omega, fun k hk => by simp [Value.ownBlock] at hk; omega⟩
  replace hpx : Hid _ := hpx
  clear hcx row1 b1 hR hxv hq hC2 hu2 ha hi hx
  go_wp2_with fail
  refine (specPack_in 23 0 0 0 (-131072) _ (by omega) (by omega) (by omega) (by omega) (by omega) (by omega) (by omega) (by omega) (by decide)).mono ?_
  rintro e y2 ⟨rfl, b2⟩
  have hs3 : y1.heap.size + 1 < y2.heap.size := by
    have := b2.size
    rw [World.size_alloc, World.size_alloc] at this
    omega
  go_wp2_with (refine wp_gen 51 rfl (fun y => SpI w (.slice (some ⟨go, 0, none⟩) PS.length co) PS.length X y1.heap.size [.int .i64 params, .bool vararg, .int .i64 regs, .slice o3 code.n c3, .slice o4 consts.n c4, .slice o5 ups'.n c5, .int .i64 kids', .string name, .slice o8 lines.n c8, .slice o9 upNames.n c9] y ∧ RowL y y2.heap.size 51 [.int .u32 23] ∧ RowL y (y2.heap.size + 1) 35 [.int .i64 0, .bool false, .int .i64 1, .slice (some ⟨y2.heap.size, 0, none⟩) 1 1, .slice none 0 0, .slice none 0 0, .int .i64 0, .string ⟨#[]⟩, .slice none 0 0, .slice none 0 0] ∧ y2.heap.size + 2 ≤ y.heap.size) ?hG ?_)
  case hG =>
    have R3 := RowL.new (y2.alloc (.cells #[.int .u32 23] 51)) [.int .i64 0, .bool false, .int .i64 1, .slice (some ⟨y2.heap.size, 0, none⟩) 1 1, .slice none 0 0, .slice none 0 0, .int .i64 0, .string ⟨#[]⟩, .slice none 0 0, .slice none 0 0] 35
    rw [World.size_alloc] at R3
    refine ⟨((hI0.out.later b2).alloc _).alloc _, (RowL.new y2 [.int .u32 23] 51).alloc _, R3, by rw [World.size_alloc, World.size_alloc]; omega⟩
  intro y hy
  obtain ⟨hI, hlf1, hlf2, hys⟩ := hy
  replace hI : Hid (SpI w (.slice (some ⟨go, 0, none⟩) PS.length co) PS.length X y1.heap.size [.int .i64 params, .bool vararg, .int .i64 regs, .slice o3 code.n c3, .slice o4 consts.n c4, .slice o5 ups'.n c5, .int .i64 kids', .string name, .slice o8 lines.n c8, .slice o9 upNames.n c9] y) := hI
  replace hlf1 : Hid (RowL y y2.heap.size 51 [.int .u32 23]) := hlf1
  replace hlf2 : Hid (RowL y (y2.heap.size + 1) 35 [.int .i64 0, .bool false, .int .i64 1, .slice (some ⟨y2.heap.size, 0, none⟩) 1 1, .slice none 0 0, .slice none 0 0, .int .i64 0, .string ⟨#[]⟩, .slice none 0 0, .slice none 0 0]) := hlf2
  have hW := hI.out.bel
  clear e0 e1 e2 e3 e4 e5 e6 e7 e8 e9 hI0 b2
  have hm2 : (2000 + x).toNat ≤ 2001 := by omega
  have hmk : ∀ w : World, (Instr.makeSlice 29 (.int .i64 (2000 + x)) (.int .i64 (2000 + x))).run Try.prog w = .ok (.slice (some ⟨w.heap.size, 0, none⟩) (2000 + x).toNat (2000 + x).toNat) (madeW w (.int .u32 0) (2000 + x).toNat 1 51) := fun w => by
    have := run_make_rows 29 51 (.int .u32 0) 1 4 Try.underlying29 (by kernel_rfl) (2000 + x).toNat (by omega) (by omega) w
    rw [Int.toNat_of_nonneg (by omega)] at this
    exact this
  have hI2 : SpI w (.slice (some ⟨go, 0, none⟩) PS.length co) PS.length X y1.heap.size [.int .i64 params, .bool vararg, .int .i64 regs, .slice o3 code.n c3, .slice o4 consts.n c4, .slice o5 ups'.n c5, .int .i64 kids', .string name, .slice o8 lines.n c8, .slice o9 upNames.n c9] (madeW y (.int .u32 0) (2000 + x).toNat 1 51) := hI.out.later (below_madeW y (.int .u32 0) (2000 + x).toNat 1 51)
  have hsy : (madeW y (.int .u32 0) (2000 + x).toNat 1 51).heap.size = y.heap.size + 1 := World.size_alloc _ _
  have p0 := hI2.bq.cell 3 rfl
  have pf0 := hI2.bq.frozen 3
  have p1 := (hI2.setQ 3 (.slice (some ⟨y.heap.size, 0, none⟩) (2000 + x).toNat (2000 + x).toNat)).bq.cell 8 rfl
  have pf1 := (hI2.setQ 3 (.slice (some ⟨y.heap.size, 0, none⟩) (2000 + x).toNat (2000 + x).toNat)).bq.frozen 8
  replace hsy : Hid _ := hsy
  have hWn := ((hI2.setQ 3 (.slice (some ⟨y.heap.size, 0, none⟩) (2000 + x).toNat (2000 + x).toNat)).setQ 8 (.slice none 0 0)).bel
  go_wp2_with (refine wp_gen 182 rfl (fun yz => SpI w (.slice (some ⟨go, 0, none⟩) PS.length co) PS.length X y1.heap.size (PV.cells ⟨(⟨params, vararg, regs, ⟨(2000 + x).toNat, fun _ => 0⟩, consts, ups', kids', name, (slOf []), upNames⟩ : PD), (.slice (some ⟨y.heap.size, 0, none⟩) (2000 + x).toNat (2000 + x).toNat), (.slice o4 consts.n c4), (.slice o5 ups'.n c5), (.slice none 0 0), (.slice o9 upNames.n c9)⟩) yz ∧ IsProto (fun b => av b ∨ (y1.heap.size + 1 < b ∧ b < yz.heap.size)) yz (.slice (some ⟨y.heap.size, 0, none⟩) (2000 + x).toNat (2000 + x).toNat) (.slice o4 consts.n c4) (.slice o5 ups'.n c5) (.slice none 0 0) (.slice o9 upNames.n c9) (⟨params, vararg, regs, ⟨(2000 + x).toNat, fun _ => 0⟩, consts, ups', kids', name, (slOf []), upNames⟩ : PD)) ?hH ?_)
  case hH => exact ⟨((hI2.setQ 3 (.slice (some ⟨y.heap.size, 0, none⟩) (2000 + x).toNat (2000 + x).toNat)).setQ 8 (.slice none 0 0)), ⟨IsArr.mono (IsArr.keep (made_ints .u32 0 (made_arr y (.int .u32 0) (2000 + x).toNat 1 51 rfl (by omega) (by omega))) fun b hb => by subst hb; (have hb' : y.heap.size ≠ y1.heap.size + 1 := by omega); rw [Below.heap_setCell _ _ _ _ hb', Below.heap_setCell _ _ _ _ hb']) fun b hb => .inr ⟨by omega, by rw [World.size_setCell, World.size_setCell, hsy.out]; omega⟩, ⟨IsArr.mono (IsArr.keep hpx.out.consts.1 fun b hb => hWn.block b (hav.out b hb)) fun b hb => .inl hb, hpx.out.consts.2⟩, IsArr.mono (IsArr.keep hpx.out.ups fun b hb => hWn.block b (hav.out b hb)) fun b hb => .inl hb, ⟨none, 0, rfl, by show 0 ≤ _; omega, fun h => absurd h (by show ¬ 0 < 0; omega)⟩, ⟨IsArr.mono (IsArr.keep hpx.out.upNames.1 fun b hb => hWn.block b (hav.out b hb)) fun b hb => .inl hb, hpx.out.upNames.2⟩, hpx.out.name⟩⟩
  intro yz hyz
  obtain ⟨hI5, hx5⟩ := hyz
  have dbo := hI5.bo.cell 0 rfl
  have hrg : yz.rangeAt (y1.heap.size + 1) 0 [.int .i64 params, .bool vararg, .int .i64 regs, .slice (some ⟨y.heap.size, 0, none⟩) (2000 + x).toNat (2000 + x).toNat, .slice o4 consts.n c4, .slice o5 ups'.n c5, .int .i64 kids', .string name, .slice none 0 0, .slice o9 upNames.n c9] := fun j v hv => by rw [Nat.zero_add]; exact hI5.bq.cell j hv
  have hth : yz.there go (i * 10) 10 := fun j hj => by
    have := hI5.row.cellAt (i * 10 + j) (by omega)
    rw [List.getElem?_eq_getElem (by rw [pvCells_len]; omega)] at this
    exact ⟨by rw [this]; rfl, hI5.row.frozenAt _⟩
  have hG5 : RowL (yz.setCells go (i * 10) [.int .i64 params, .bool vararg, .int .i64 regs, .slice (some ⟨y.heap.size, 0, none⟩) (2000 + x).toNat (2000 + x).toNat, .slice o4 consts.n c4, .slice o5 ups'.n c5, .int .i64 kids', .string name, .slice none 0 0, .slice o9 upNames.n c9]) (w.heap.size + 1) 25 [.slice none 0 0] ∧ (yz.setCells go (i * 10) [.int .i64 params, .bool vararg, .int .i64 regs, .slice (some ⟨y.heap.size, 0, none⟩) (2000 + x).toNat (2000 + x).toNat, .slice o4 consts.n c4, .slice o5 ups'.n c5, .int .i64 kids', .string name, .slice none 0 0, .slice o9 upNames.n c9]).cell? ⟨y1.heap.size, 0, none⟩ = some (.slice (some ⟨go, 0, none⟩) PS.length co) ∧ Below w.heap.size w ((yz.setCells go (i * 10) [.int .i64 params, .bool vararg, .int .i64 regs, .slice (some ⟨y.heap.size, 0, none⟩) (2000 + x).toNat (2000 + x).toNat, .slice o4 consts.n c4, .slice o5 ups'.n c5, .int .i64 kids', .string name, .slice none 0 0, .slice o9 upNames.n c9]).setCell ⟨w.heap.size + 1, 0, none⟩ (.slice (some ⟨go, 0, none⟩) PS.length co)) ∧ IsProtos (fun b => av b ∨ (w.heap.size ≤ b ∧ b < ((yz.setCells go (i * 10) [.int .i64 params, .bool vararg, .int .i64 regs, .slice (some ⟨y.heap.size, 0, none⟩) (2000 + x).toNat (2000 + x).toNat, .slice o4 consts.n c4, .slice o5 ups'.n c5, .int .i64 kids', .string name, .slice none 0 0, .slice o9 upNames.n c9]).setCell ⟨w.heap.size + 1, 0, none⟩ (.slice (some ⟨go, 0, none⟩) PS.length co)).heap.size)) ((yz.setCells go (i * 10) [.int .i64 params, .bool vararg, .int .i64 regs, .slice (some ⟨y.heap.size, 0, none⟩) (2000 + x).toNat (2000 + x).toNat, .slice o4 consts.n c4, .slice o5 ups'.n c5, .int .i64 kids', .string name, .slice none 0 0, .slice o9 upNames.n c9]).setCell ⟨w.heap.size + 1, 0, none⟩ (.slice (some ⟨go, 0, none⟩) PS.length co)) (.slice (some ⟨go, 0, none⟩) PS.length co) (slOf (PS.set i (⟨params, vararg, regs, ⟨(2000 + x).toNat, fun _ => 0⟩, consts, ups', kids', name, (slOf []), upNames⟩ : PD))) := by
    have hF := hI5.fin hav.out (x := ⟨(⟨params, vararg, regs, ⟨(2000 + x).toNat, fun _ => 0⟩, consts, ups', kids', name, (slOf []), upNames⟩ : PD), (.slice (some ⟨y.heap.size, 0, none⟩) (2000 + x).toNat (2000 + x).toNat), (.slice o4 consts.n c4), (.slice o5 ups'.n c5), (.slice none 0 0), (.slice o9 upNames.n c9)⟩) hXl hin hX.out hx5
    rw [setCs_eq, hXp] at hF
    exact ⟨World.rowIs.of_block hI5.br (by rw [← setCs_eq]; exact setCs_heap go [.int .i64 params, .bool vararg, .int .i64 regs, .slice (some ⟨y.heap.size, 0, none⟩) (2000 + x).toNat (2000 + x).toNat, .slice o4 consts.n c4, .slice o5 ups'.n c5, .int .i64 kids', .string name, .slice none 0 0, .slice o9 upNames.n c9] yz (i * 10) _ (by omega)), (World.cell?_of_block (w := yz) (by rw [← setCs_eq]; exact setCs_heap go [.int .i64 params, .bool vararg, .int .i64 regs, .slice (some ⟨y.heap.size, 0, none⟩) (2000 + x).toNat (2000 + x).toNat, .slice o4 consts.n c4, .slice o5 ups'.n c5, .int .i64 kids', .string name, .slice none 0 0, .slice o9 upNames.n c9] yz (i * 10) _ (by show y1.heap.size ≠ go; omega))).trans dbo, hF.1, hF.2⟩
  replace hG5 : Hid _ := hG5
  have hone : (#[.int .i64 params, .bool vararg, .int .i64 regs, .slice (some ⟨y.heap.size, 0, none⟩) (2000 + x).toNat (2000 + x).toNat, .slice o4 consts.n c4, .slice o5 ups'.n c5, .int .i64 kids', .string name, .slice none 0 0, .slice o9 upNames.n c9] : Array Value).all (·.oneCell') = true := all_oneCell_toArray (cs := [.int .i64 params, .bool vararg, .int .i64 regs, .slice (some ⟨y.heap.size, 0, none⟩) (2000 + x).toNat (2000 + x).toNat, .slice o4 consts.n c4, .slice o5 ups'.n c5, .int .i64 kids', .string name, .slice none 0 0, .slice o9 upNames.n c9]) (by intro v hv; simp only [List.mem_cons, List.not_mem_nil, or_false] at hv; rcases hv with rfl | rfl | rfl | rfl | rfl | rfl | rfl | rfl | rfl | rfl <;> rfl)
  have hsz1 : (Try.prog.info? 35).map (·.size) = some 10 := by kernel_rfl
  clear hI5 hx5
  go_wp2_with (refine wp_gen 184 rfl (fun y' => y' = yz) rfl ?_)
  intro y' hy'
  subst hy'
  refine wpList_load_mid rfl 35 (.tmp 11) rfl (y1.heap.size + 1) 0 rfl [.int .i64 params, .bool vararg, .int .i64 regs, .slice (some ⟨y.heap.size, 0, none⟩) (2000 + x).toNat (2000 + x).toNat, .slice o4 consts.n c4, .slice o5 ups'.n c5, .int .i64 kids', .string name, .slice none 0 0, .slice o9 upNames.n c9] _ hrg Try.underlying35 rfl hsz1 ?_
  go_wp2_with (refine wp_genS 35 (.tmp 185) (.tmp 184) rfl (fun y'' => y'' = y') rfl ?_)
  intro y'' hy''
  subst hy''
  refine wpList_store_mid rfl 35 (.tmp 185) (.tmp 184) rfl go (i * 10) #[.int .i64 params, .bool vararg, .int .i64 regs, .slice (some ⟨y.heap.size, 0, none⟩) (2000 + x).toNat (2000 + x).toNat, .slice o4 consts.n c4, .slice o5 ups'.n c5, .int .i64 kids', .string name, .slice none 0 0, .slice o9 upNames.n c9] rfl rfl hth hsz1 hone ?_
  refine wp_genA (fun y5 => RowL y5 (w.heap.size + 1) 25 [.slice none 0 0] ∧ y5.cell? ⟨y1.heap.size, 0, none⟩ = some (.slice (some ⟨go, 0, none⟩) PS.length co) ∧ Below w.heap.size w (y5.setCell ⟨w.heap.size + 1, 0, none⟩ (.slice (some ⟨go, 0, none⟩) PS.length co)) ∧ IsProtos (fun b => av b ∨ (w.heap.size ≤ b ∧ b < (y5.setCell ⟨w.heap.size + 1, 0, none⟩ (.slice (some ⟨go, 0, none⟩) PS.length co)).heap.size)) (y5.setCell ⟨w.heap.size + 1, 0, none⟩ (.slice (some ⟨go, 0, none⟩) PS.length co)) (.slice (some ⟨go, 0, none⟩) PS.length co) (slOf (PS.set i (⟨params, vararg, regs, ⟨(2000 + x).toNat, fun _ => 0⟩, consts, ups', kids', name, (slOf []), upNames⟩ : PD)))) hG5.out ?_
  intro y5 hy5
  obtain ⟨hr5, dbo5, hF1, hF2⟩ := hy5
  have dr5 := hr5.cell 0 rfl
  have fr5 := hr5.frozen 0
  have hfin := (hr5.set 0 (.slice (some ⟨go, 0, none⟩) PS.length co)).cell 0 rfl
  replace hF2 : Hid _ := hF2
  clear hG5 hrg hth hone dbo hr5
  go_wp2_with fail
  refine bodyPost_ret (v := .agg #[.slice (some ⟨go, 0, none⟩) PS.length co]) (by simp [results, Try.results9, go_sem, hfin]) rfl ⟨_, rfl, hF1, hF2.out⟩
set_option maxRecDepth 100000 in
set_option maxHeartbeats 12000000 in
theorem spoil8 (c : Sl Int) (P : Nat) (PS : List PD) (hP : P ≤ 3000) (hl : PS.length ≤ 10) (h0 : 0 < PS.length) (hSm : ∀ x ∈ PS, Sm x) (ha : tk c P 20 = 8) : SpoilA c P PS := by
  obtain ⟨i, hi⟩ : ∃ i : Nat, tk c (P + 1) PS.length = (i : Int) := Int.eq_ofNat_of_zero_le (tk_bd _ _ _).1
  have hin : i < PS.length := by have := (tk_bd c (P + 1) PS.length).2 (by omega); omega
  obtain ⟨x, hx⟩ : ∃ x, tk c (P + 2) 2 = x := ⟨_, rfl⟩
  have hx1 : 0 ≤ x := hx ▸ (tk_bd _ _ _).1
  have hx2 : x ≤ 1 := by have := (tk_bd c (P + 2) 2).2 (by omega); omega
  obtain ⟨q, hq⟩ : ∃ q, PS[i]'hin = q := ⟨_, rfl⟩
  have hqs : Sm q := hSm q (hq ▸ List.getElem_mem hin)
  obtain ⟨params, vararg, regs, code, consts, ups', kids', name, lines, upNames⟩ := q
  refine ⟨PS.set i (⟨params, vararg, regs, code, ⟨(500 + x).toNat, fun _ => ⟨0, 0, ⟨#[]⟩⟩⟩, ups', kids', name, lines, upNames⟩ : PD), fun av w v u hav hC hu => ?_⟩
  obtain ⟨ao, cap, rfl⟩ : ∃ ao cap, v = .slice ao c.n cap := IsArr.slice hC.ints
  obtain ⟨au, cu, rfl⟩ : ∃ a b, u = .slice a PS.length b := by obtain ⟨_, _, _, _, _, ⟨a, b, h, _⟩, _⟩ := hu; exact ⟨a, b, h⟩
  have hsm := hC.small
  have hB2 : Below w.heap.size w ((w.alloc (.cells #[.slice au PS.length cu] 25)).alloc (.cells #[.slice none 0 0] 25)) := by go_grown
  have hC2 : Hid _ := hC.later hB2
  have hu2 : Hid (IsProtos av ((w.alloc (.cells #[.slice au PS.length cu] 25)).alloc (.cells #[.slice none 0 0] 25)) (.slice au PS.length cu) (slOf PS)) := hu.keep fun b hb => hB2.block b (hav b hb)
  replace ha : Hid _ := ha
  replace hi : Hid (tk c (P + 1) PS.length = (i : Int)) := hi
  replace hx : Hid (tk c (P + 2) 2 = x) := hx
  have hR : Hid (RowL ((w.alloc (.cells #[.slice au PS.length cu] 25)).alloc (.cells #[.slice none 0 0] 25)) (w.heap.size + 1) 25 [.slice none 0 0]) := by
    have := RowL.new (w.alloc (.cells #[.slice au PS.length cu] 25)) [.slice none 0 0] 25
    rw [World.size_alloc] at this
    exact this
  have hs2 : ((w.alloc (.cells #[.slice au PS.length cu] 25)).alloc (.cells #[.slice none 0 0] 25)).heap.size = w.heap.size + 2 := by rw [World.size_alloc, World.size_alloc]
  clear hC hu hSm
  go_enter Try.func9, Try.ntmps9
  go_wp2_with fail
  refine (l1Take_to c _ P P 20 _ rfl hC2.out (by omega) (by omega) ha.out).mono ?_
  rintro e w' ⟨rfl, rfl⟩
  go_wp2_with fail
  refine (l1Take_to c _ (P + 1) (P + 1) PS.length _ (by omega) hC2.out (by omega) (by omega) hi.out).mono ?_
  rintro e w' ⟨rfl, rfl⟩
  go_wp2_with fail
  refine (l1Take_to c _ (P + 2) (P + 1 + 1) 2 _ (by omega) hC2.out (by omega) (by omega) hx.out).mono ?_
  rintro e w' ⟨rfl, rfl⟩
  go_wp2_with fail
  refine (l2Copy_in (av := av) PS _ _ (fun b hb => by rw [hs2]; have := hav b hb; omega) hu2.out (by omega)).mono ?_
  rintro e y1 ⟨vo, X, rfl, b1, row1, hXp, hX⟩
  have b1' : Below w.heap.size w y1 := hB2.trans (b1.mono hB2.size)
  have hs1 := b1.size
  obtain ⟨go, co, rfl, -, -⟩ := row1.form (by omega)
  have hgo := row1.lt go rfl
  rw [hs2] at hs1 hgo
  have hXl : X.length = PS.length := by rw [← hXp]; simp
  obtain ⟨xv, hxv⟩ : ∃ xv, X[i]? = some xv := ⟨X[i]'(by omega), List.getElem?_eq_getElem (by omega)⟩
  have hxp : xv.p = ⟨params, vararg, regs, code, consts, ups', kids', name, lines, upNames⟩ := by
    have h1 : (X.map PV.p)[i]? = some xv.p := by rw [List.getElem?_map, hxv]; rfl
    rw [hXp, List.getElem?_eq_getElem hin, hq] at h1
    simpa using h1.symm
  have hpx : IsProto av w xv.a3 xv.a4 xv.a5 xv.a8 xv.a9 xv.p := (hX xv (List.mem_of_getElem? hxv)).keep fun b hb => (hB2.block b (hav b hb)).symm
  replace hX : Hid (∀ x ∈ X, IsProto av w x.a3 x.a4 x.a5 x.a8 x.a9 x.p) := fun x' hx' => (hX x' hx').keep fun b hb => (hB2.block b (hav b hb)).symm
  replace hav : Hid (∀ b, av b → b < w.heap.size) := hav
  have hcx : ∀ j, j < 10 → (y1.alloc (.cells #[.slice (some ⟨go, 0, none⟩) PS.length co] 25)).cell? ⟨go, i * 10 + j, none⟩ = xv.cells[j]? := fun j hj => by
    rw [World.cell?_of_block (w := y1) (Below.heap_alloc _ _ _ hgo.2), row1.cellAt _ (by omega)]
    exact pvCells_get X i xv hxv j hj
  obtain ⟨pp, a3, a4, a5, a8, a9⟩ := xv
  obtain rfl : pp = ⟨params, vararg, regs, code, consts, ups', kids', name, lines, upNames⟩ := hxp
  obtain ⟨o3, c3, rfl⟩ : ∃ o c, a3 = .slice o code.n c := IsArr.slice hpx.code
  obtain ⟨o4, c4, rfl⟩ : ∃ o c, a4 = .slice o consts.n c := IsArr.slice hpx.consts.1
  obtain ⟨o5, c5, rfl⟩ : ∃ o c, a5 = .slice o ups'.n c := IsArr.slice hpx.ups
  obtain ⟨o8, c8, rfl⟩ : ∃ o c, a8 = .slice o lines.n c := IsArr.slice hpx.lines
  obtain ⟨o9, c9, rfl⟩ : ∃ o c, a9 = .slice o upNames.n c := IsArr.slice hpx.upNames.1
  have e0 := hcx 0 (by omega)
  have e1 := hcx 1 (by omega)
  have e2 := hcx 2 (by omega)
  have e3 := hcx 3 (by omega)
  have e4 := hcx 4 (by omega)
  have e5 := hcx 5 (by omega)
  have e6 := hcx 6 (by omega)
  have e7 := hcx 7 (by omega)
  have e8 := hcx 8 (by omega)
  have e9 := hcx 9 (by omega)
  simp only [PV.cells, List.getElem?_cons_zero, List.getElem?_cons_succ, Nat.add_zero] at e0 e1 e2 e3 e4 e5 e6 e7 e8 e9
  have hI0 : Hid (SpI w (.slice (some ⟨go, 0, none⟩) PS.length co) PS.length X y1.heap.size [.int .i64 params, .bool vararg, .int .i64 regs, .slice o3 code.n c3, .slice o4 consts.n c4, .slice o5 ups'.n c5, .int .i64 kids', .string name, .slice o8 lines.n c8, .slice o9 upNames.n c9] ((y1.alloc (.cells #[.slice (some ⟨go, 0, none⟩) PS.length co] 25)).alloc (.cells #[.int .i64 params, .bool vararg, .int .i64 regs, .slice o3 code.n c3, .slice o4 consts.n c4, .slice o5 ups'.n c5, .int .i64 kids', .string name, .slice o8 lines.n c8, .slice o9 upNames.n c9] 35))) := by
    have R2 := (RowL.new y1 [.slice (some ⟨go, 0, none⟩) PS.length co] 25).alloc (.cells #[.int .i64 params, .bool vararg, .int .i64 regs, .slice o3 code.n c3, .slice o4 consts.n c4, .slice o5 ups'.n c5, .int .i64 kids', .string name, .slice o8 lines.n c8, .slice o9 upNames.n c9] 35)
    have R3 := RowL.new (y1.alloc (.cells #[.slice (some ⟨go, 0, none⟩) PS.length co] 25)) [.int .i64 params, .bool vararg, .int .i64 regs, .slice o3 code.n c3, .slice o4 consts.n c4, .slice o5 ups'.n c5, .int .i64 kids', .string name, .slice o8 lines.n c8, .slice o9 upNames.n c9] 35
    rw [World.size_alloc] at R3
    have hb : Below y1.heap.size y1 ((y1.alloc (.cells #[.slice (some ⟨go, 0, none⟩) PS.length co] 25)).alloc (.cells #[.int .i64 params, .bool vararg, .int .i64 regs, .slice o3 code.n c3, .slice o4 consts.n c4, .slice o5 ups'.n c5, .int .i64 kids', .string name, .slice o8 lines.n c8, .slice o9 upNames.n c9] 35)) := by go_grown
    exact ⟨(hR.out.call b1).call hb, R2, R3, own_below (own_mono row1 (by rw [hs2]; omega)) hb, b1'.trans (hb.mono (by omega)), by omega, fun k hk => by simp [Value.ownBlock] at hk; omega⟩
  replace hpx : Hid _ := hpx
  clear hcx row1 b1 hR hxv hq hC2 hu2 ha hi hx
  go_wp2_with fail
  refine (specPack_in 23 0 0 0 (-131072) _ (by omega) (by omega) (by omega) (by omega) (by omega) (by omega) (by omega) (by omega) (by decide)).mono ?_
  rintro e y2 ⟨rfl, b2⟩
  have hs3 : y1.heap.size + 1 < y2.heap.size := by
    have := b2.size
    rw [World.size_alloc, World.size_alloc] at this
    omega
  go_wp2_with (refine wp_gen 51 rfl (fun y => SpI w (.slice (some ⟨go, 0, none⟩) PS.length co) PS.length X y1.heap.size [.int .i64 params, .bool vararg, .int .i64 regs, .slice o3 code.n c3, .slice o4 consts.n c4, .slice o5 ups'.n c5, .int .i64 kids', .string name, .slice o8 lines.n c8, .slice o9 upNames.n c9] y ∧ RowL y y2.heap.size 51 [.int .u32 23] ∧ RowL y (y2.heap.size + 1) 35 [.int .i64 0, .bool false, .int .i64 1, .slice (some ⟨y2.heap.size, 0, none⟩) 1 1, .slice none 0 0, .slice none 0 0, .int .i64 0, .string ⟨#[]⟩, .slice none 0 0, .slice none 0 0] ∧ y2.heap.size + 2 ≤ y.heap.size) ?hG ?_)
  case hG =>
    have R3 := RowL.new (y2.alloc (.cells #[.int .u32 23] 51)) [.int .i64 0, .bool false, .int .i64 1, .slice (some ⟨y2.heap.size, 0, none⟩) 1 1, .slice none 0 0, .slice none 0 0, .int .i64 0, .string ⟨#[]⟩, .slice none 0 0, .slice none 0 0] 35
    rw [World.size_alloc] at R3
    refine ⟨((hI0.out.later b2).alloc _).alloc _, (RowL.new y2 [.int .u32 23] 51).alloc _, R3, by rw [World.size_alloc, World.size_alloc]; omega⟩
  intro y hy
  obtain ⟨hI, hlf1, hlf2, hys⟩ := hy
  replace hI : Hid (SpI w (.slice (some ⟨go, 0, none⟩) PS.length co) PS.length X y1.heap.size [.int .i64 params, .bool vararg, .int .i64 regs, .slice o3 code.n c3, .slice o4 consts.n c4, .slice o5 ups'.n c5, .int .i64 kids', .string name, .slice o8 lines.n c8, .slice o9 upNames.n c9] y) := hI
  replace hlf1 : Hid (RowL y y2.heap.size 51 [.int .u32 23]) := hlf1
  replace hlf2 : Hid (RowL y (y2.heap.size + 1) 35 [.int .i64 0, .bool false, .int .i64 1, .slice (some ⟨y2.heap.size, 0, none⟩) 1 1, .slice none 0 0, .slice none 0 0, .int .i64 0, .string ⟨#[]⟩, .slice none 0 0, .slice none 0 0]) := hlf2
  have hW := hI.out.bel
  clear e0 e1 e2 e3 e4 e5 e6 e7 e8 e9 hI0 b2
  have hm2 : (500 + x).toNat ≤ 501 := by omega
  have hmk : ∀ w : World, (Instr.makeSlice 30 (.int .i64 (500 + x)) (.int .i64 (500 + x))).run Try.prog w = .ok (.slice (some ⟨w.heap.size, 0, none⟩) (500 + x).toNat (500 + x).toNat) (madeW w (.agg #[.int .i64 0, .int .i64 0, .string ⟨#[]⟩]) (500 + x).toNat 3 57) := fun w => by
    have := run_make_rows 30 57 (.agg #[.int .i64 0, .int .i64 0, .string ⟨#[]⟩]) 3 32 Try.underlying30 (by kernel_rfl) (500 + x).toNat (by omega) (by omega) w
    rw [Int.toNat_of_nonneg (by omega)] at this
    exact this
  have hI2 : SpI w (.slice (some ⟨go, 0, none⟩) PS.length co) PS.length X y1.heap.size [.int .i64 params, .bool vararg, .int .i64 regs, .slice o3 code.n c3, .slice o4 consts.n c4, .slice o5 ups'.n c5, .int .i64 kids', .string name, .slice o8 lines.n c8, .slice o9 upNames.n c9] (madeW y (.agg #[.int .i64 0, .int .i64 0, .string ⟨#[]⟩]) (500 + x).toNat 3 57) := hI.out.later (below_madeW y (.agg #[.int .i64 0, .int .i64 0, .string ⟨#[]⟩]) (500 + x).toNat 3 57)
  have hsy : (madeW y (.agg #[.int .i64 0, .int .i64 0, .string ⟨#[]⟩]) (500 + x).toNat 3 57).heap.size = y.heap.size + 1 := World.size_alloc _ _
  have p0 := hI2.bq.cell 4 rfl
  have pf0 := hI2.bq.frozen 4
  replace hsy : Hid _ := hsy
  have hWn := (hI2.setQ 4 (.slice (some ⟨y.heap.size, 0, none⟩) (500 + x).toNat (500 + x).toNat)).bel
  go_wp2_with (refine wp_gen 182 rfl (fun yz => SpI w (.slice (some ⟨go, 0, none⟩) PS.length co) PS.length X y1.heap.size (PV.cells ⟨(⟨params, vararg, regs, code, ⟨(500 + x).toNat, fun _ => ⟨0, 0, ⟨#[]⟩⟩⟩, ups', kids', name, lines, upNames⟩ : PD), (.slice o3 code.n c3), (.slice (some ⟨y.heap.size, 0, none⟩) (500 + x).toNat (500 + x).toNat), (.slice o5 ups'.n c5), (.slice o8 lines.n c8), (.slice o9 upNames.n c9)⟩) yz ∧ IsProto (fun b => av b ∨ (y1.heap.size + 1 < b ∧ b < yz.heap.size)) yz (.slice o3 code.n c3) (.slice (some ⟨y.heap.size, 0, none⟩) (500 + x).toNat (500 + x).toNat) (.slice o5 ups'.n c5) (.slice o8 lines.n c8) (.slice o9 upNames.n c9) (⟨params, vararg, regs, code, ⟨(500 + x).toNat, fun _ => ⟨0, 0, ⟨#[]⟩⟩⟩, ups', kids', name, lines, upNames⟩ : PD)) ?hH ?_)
  case hH => exact ⟨(hI2.setQ 4 (.slice (some ⟨y.heap.size, 0, none⟩) (500 + x).toNat (500 + x).toNat)), ⟨IsArr.mono (IsArr.keep hpx.out.code fun b hb => hWn.block b (hav.out b hb)) fun b hb => .inl hb, ⟨IsArr.mono (IsArr.keep (made_vals (made_arr y (.agg #[.int .i64 0, .int .i64 0, .string ⟨#[]⟩]) (500 + x).toNat 3 57 rfl (by omega) (by omega))) fun b hb => by subst hb; (have hb' : y.heap.size ≠ y1.heap.size + 1 := by omega); rw [Below.heap_setCell _ _ _ _ hb']) fun b hb => .inr ⟨by omega, by rw [World.size_setCell, hsy.out]; omega⟩, fun i hi => by show 0 ≤ _; omega⟩, IsArr.mono (IsArr.keep hpx.out.ups fun b hb => hWn.block b (hav.out b hb)) fun b hb => .inl hb, IsArr.mono (IsArr.keep hpx.out.lines fun b hb => hWn.block b (hav.out b hb)) fun b hb => .inl hb, ⟨IsArr.mono (IsArr.keep hpx.out.upNames.1 fun b hb => hWn.block b (hav.out b hb)) fun b hb => .inl hb, hpx.out.upNames.2⟩, hpx.out.name⟩⟩
  intro yz hyz
  obtain ⟨hI5, hx5⟩ := hyz
  have dbo := hI5.bo.cell 0 rfl
  have hrg : yz.rangeAt (y1.heap.size + 1) 0 [.int .i64 params, .bool vararg, .int .i64 regs, .slice o3 code.n c3, .slice (some ⟨y.heap.size, 0, none⟩) (500 + x).toNat (500 + x).toNat, .slice o5 ups'.n c5, .int .i64 kids', .string name, .slice o8 lines.n c8, .slice o9 upNames.n c9] := fun j v hv => by rw [Nat.zero_add]; exact hI5.bq.cell j hv
  have hth : yz.there go (i * 10) 10 := fun j hj => by
    have := hI5.row.cellAt (i * 10 + j) (by omega)
    rw [List.getElem?_eq_getElem (by rw [pvCells_len]; omega)] at this
    exact ⟨by rw [this]; rfl, hI5.row.frozenAt _⟩
  have hG5 : RowL (yz.setCells go (i * 10) [.int .i64 params, .bool vararg, .int .i64 regs, .slice o3 code.n c3, .slice (some ⟨y.heap.size, 0, none⟩) (500 + x).toNat (500 + x).toNat, .slice o5 ups'.n c5, .int .i64 kids', .string name, .slice o8 lines.n c8, .slice o9 upNames.n c9]) (w.heap.size + 1) 25 [.slice none 0 0] ∧ (yz.setCells go (i * 10) [.int .i64 params, .bool vararg, .int .i64 regs, .slice o3 code.n c3, .slice (some ⟨y.heap.size, 0, none⟩) (500 + x).toNat (500 + x).toNat, .slice o5 ups'.n c5, .int .i64 kids', .string name, .slice o8 lines.n c8, .slice o9 upNames.n c9]).cell? ⟨y1.heap.size, 0, none⟩ = some (.slice (some ⟨go, 0, none⟩) PS.length co) ∧ Below w.heap.size w ((yz.setCells go (i * 10) [.int .i64 params, .bool vararg, .int .i64 regs, .slice o3 code.n c3, .slice (some ⟨y.heap.size, 0, none⟩) (500 + x).toNat (500 + x).toNat, .slice o5 ups'.n c5, .int .i64 kids', .string name, .slice o8 lines.n c8, .slice o9 upNames.n c9]).setCell ⟨w.heap.size + 1, 0, none⟩ (.slice (some ⟨go, 0, none⟩) PS.length co)) ∧ IsProtos (fun b => av b ∨ (w.heap.size ≤ b ∧ b < ((yz.setCells go (i * 10) [.int .i64 params, .bool vararg, .int .i64 regs, .slice o3 code.n c3, .slice (some ⟨y.heap.size, 0, none⟩) (500 + x).toNat (500 + x).toNat, .slice o5 ups'.n c5, .int .i64 kids', .string name, .slice o8 lines.n c8, .slice o9 upNames.n c9]).setCell ⟨w.heap.size + 1, 0, none⟩ (.slice (some ⟨go, 0, none⟩) PS.length co)).heap.size)) ((yz.setCells go (i * 10) [.int .i64 params, .bool vararg, .int .i64 regs, .slice o3 code.n c3, .slice (some ⟨y.heap.size, 0, none⟩) (500 + x).toNat (500 + x).toNat, .slice o5 ups'.n c5, .int .i64 kids', .string name, .slice o8 lines.n c8, .slice o9 upNames.n c9]).setCell ⟨w.heap.size + 1, 0, none⟩ (.slice (some ⟨go, 0, none⟩) PS.length co)) (.slice (some ⟨go, 0, none⟩) PS.length co) (slOf (PS.set i (⟨params, vararg, regs, code, ⟨(500 + x).toNat, fun _ => ⟨0, 0, ⟨#[]⟩⟩⟩, ups', kids', name, lines, upNames⟩ : PD))) := by
    have hF := hI5.fin hav.out (x := ⟨(⟨params, vararg, regs, code, ⟨(500 + x).toNat, fun _ => ⟨0, 0, ⟨#[]⟩⟩⟩, ups', kids', name, lines, upNames⟩ : PD), (.slice o3 code.n c3), (.slice (some ⟨y.heap.size, 0, none⟩) (500 + x).toNat (500 + x).toNat), (.slice o5 ups'.n c5), (.slice o8 lines.n c8), (.slice o9 upNames.n c9)⟩) hXl hin hX.out hx5
    rw [setCs_eq, hXp] at hF
    exact ⟨World.rowIs.of_block hI5.br (by rw [← setCs_eq]; exact setCs_heap go [.int .i64 params, .bool vararg, .int .i64 regs, .slice o3 code.n c3, .slice (some ⟨y.heap.size, 0, none⟩) (500 + x).toNat (500 + x).toNat, .slice o5 ups'.n c5, .int .i64 kids', .string name, .slice o8 lines.n c8, .slice o9 upNames.n c9] yz (i * 10) _ (by omega)), (World.cell?_of_block (w := yz) (by rw [← setCs_eq]; exact setCs_heap go [.int .i64 params, .bool vararg, .int .i64 regs, .slice o3 code.n c3, .slice (some ⟨y.heap.size, 0, none⟩) (500 + x).toNat (500 + x).toNat, .slice o5 ups'.n c5, .int .i64 kids', .string name, .slice o8 lines.n c8, .slice o9 upNames.n c9] yz (i * 10) _ (by show y1.heap.size ≠ go; omega))).trans dbo, hF.1, hF.2⟩
  replace hG5 : Hid _ := hG5
  have hone : (#[.int .i64 params, .bool vararg, .int .i64 regs, .slice o3 code.n c3, .slice (some ⟨y.heap.size, 0, none⟩) (500 + x).toNat (500 + x).toNat, .slice o5 ups'.n c5, .int .i64 kids', .string name, .slice o8 lines.n c8, .slice o9 upNames.n c9] : Array Value).all (·.oneCell') = true := all_oneCell_toArray (cs := [.int .i64 params, .bool vararg, .int .i64 regs, .slice o3 code.n c3, .slice (some ⟨y.heap.size, 0, none⟩) (500 + x).toNat (500 + x).toNat, .slice o5 ups'.n c5, .int .i64 kids', .string name, .slice o8 lines.n c8, .slice o9 upNames.n c9]) (by intro v hv; simp only [List.mem_cons, List.not_mem_nil, or_false] at hv; rcases hv with rfl | rfl | rfl | rfl | rfl | rfl | rfl | rfl | rfl | rfl <;> rfl)
  have hsz1 : (Try.prog.info? 35).map (·.size) = some 10 := by kernel_rfl
  clear hI5 hx5
  go_wp2_with (refine wp_gen 184 rfl (fun y' => y' = yz) rfl ?_)
  intro y' hy'
  subst hy'
  refine wpList_load_mid rfl 35 (.tmp 11) rfl (y1.heap.size + 1) 0 rfl [.int .i64 params, .bool vararg, .int .i64 regs, .slice o3 code.n c3, .slice (some ⟨y.heap.size, 0, none⟩) (500 + x).toNat (500 + x).toNat, .slice o5 ups'.n c5, .int .i64 kids', .string name, .slice o8 lines.n c8, .slice o9 upNames.n c9] _ hrg Try.underlying35 rfl hsz1 ?_
  go_wp2_with (refine wp_genS 35 (.tmp 185) (.tmp 184) rfl (fun y'' => y'' = y') rfl ?_)
  intro y'' hy''
  subst hy''
  refine wpList_store_mid rfl 35 (.tmp 185) (.tmp 184) rfl go (i * 10) #[.int .i64 params, .bool vararg, .int .i64 regs, .slice o3 code.n c3, .slice (some ⟨y.heap.size, 0, none⟩) (500 + x).toNat (500 + x).toNat, .slice o5 ups'.n c5, .int .i64 kids', .string name, .slice o8 lines.n c8, .slice o9 upNames.n c9] rfl rfl hth hsz1 hone ?_
  refine wp_genA (fun y5 => RowL y5 (w.heap.size + 1) 25 [.slice none 0 0] ∧ y5.cell? ⟨y1.heap.size, 0, none⟩ = some (.slice (some ⟨go, 0, none⟩) PS.length co) ∧ Below w.heap.size w (y5.setCell ⟨w.heap.size + 1, 0, none⟩ (.slice (some ⟨go, 0, none⟩) PS.length co)) ∧ IsProtos (fun b => av b ∨ (w.heap.size ≤ b ∧ b < (y5.setCell ⟨w.heap.size + 1, 0, none⟩ (.slice (some ⟨go, 0, none⟩) PS.length co)).heap.size)) (y5.setCell ⟨w.heap.size + 1, 0, none⟩ (.slice (some ⟨go, 0, none⟩) PS.length co)) (.slice (some ⟨go, 0, none⟩) PS.length co) (slOf (PS.set i (⟨params, vararg, regs, code, ⟨(500 + x).toNat, fun _ => ⟨0, 0, ⟨#[]⟩⟩⟩, ups', kids', name, lines, upNames⟩ : PD)))) hG5.out ?_
  intro y5 hy5
  obtain ⟨hr5, dbo5, hF1, hF2⟩ := hy5
  have dr5 := hr5.cell 0 rfl
  have fr5 := hr5.frozen 0
  have hfin := (hr5.set 0 (.slice (some ⟨go, 0, none⟩) PS.length co)).cell 0 rfl
  replace hF2 : Hid _ := hF2
  clear hG5 hrg hth hone dbo hr5
  go_wp2_with fail
  refine bodyPost_ret (v := .agg #[.slice (some ⟨go, 0, none⟩) PS.length co]) (by simp [results, Try.results9, go_sem, hfin]) rfl ⟨_, rfl, hF1, hF2.out⟩
set_option maxRecDepth 100000 in
set_option maxHeartbeats 12000000 in
theorem spoil9 (c : Sl Int) (P : Nat) (PS : List PD) (hP : P ≤ 3000) (hl : PS.length ≤ 10) (h0 : 0 < PS.length) (hSm : ∀ x ∈ PS, Sm x) (ha : tk c P 20 = 9) : SpoilA c P PS := by
  obtain ⟨i, hi⟩ : ∃ i : Nat, tk c (P + 1) PS.length = (i : Int) := Int.eq_ofNat_of_zero_le (tk_bd _ _ _).1
  have hin : i < PS.length := by have := (tk_bd c (P + 1) PS.length).2 (by omega); omega
  obtain ⟨x, hx⟩ : ∃ x, tk c (P + 2) 2 = x := ⟨_, rfl⟩
  have hx1 : 0 ≤ x := hx ▸ (tk_bd _ _ _).1
  have hx2 : x ≤ 1 := by have := (tk_bd c (P + 2) 2).2 (by omega); omega
  obtain ⟨q, hq⟩ : ∃ q, PS[i]'hin = q := ⟨_, rfl⟩
  have hqs : Sm q := hSm q (hq ▸ List.getElem_mem hin)
  obtain ⟨params, vararg, regs, code, consts, ups', kids', name, lines, upNames⟩ := q
  refine ⟨PS.set i (⟨params, vararg, regs, code, consts, ⟨(60 + x).toNat, fun _ => ⟨false, 0⟩⟩, kids', name, lines, (slOf [])⟩ : PD), fun av w v u hav hC hu => ?_⟩
  obtain ⟨ao, cap, rfl⟩ : ∃ ao cap, v = .slice ao c.n cap := IsArr.slice hC.ints
  obtain ⟨au, cu, rfl⟩ : ∃ a b, u = .slice a PS.length b := by obtain ⟨_, _, _, _, _, ⟨a, b, h, _⟩, _⟩ := hu; exact ⟨a, b, h⟩
  have hsm := hC.small
  have hB2 : Below w.heap.size w ((w.alloc (.cells #[.slice au PS.length cu] 25)).alloc (.cells #[.slice none 0 0] 25)) := by go_grown
  have hC2 : Hid _ := hC.later hB2
  have hu2 : Hid (IsProtos av ((w.alloc (.cells #[.slice au PS.length cu] 25)).alloc (.cells #[.slice none 0 0] 25)) (.slice au PS.length cu) (slOf PS)) := hu.keep fun b hb => hB2.block b (hav b hb)
  replace ha : Hid _ := ha
  replace hi : Hid (tk c (P + 1) PS.length = (i : Int)) := hi
  replace hx : Hid (tk c (P + 2) 2 = x) := hx
  have hR : Hid (RowL ((w.alloc (.cells #[.slice au PS.length cu] 25)).alloc (.cells #[.slice none 0 0] 25)) (w.heap.size + 1) 25 [.slice none 0 0]) := by
    have := RowL.new (w.alloc (.cells #[.slice au PS.length cu] 25)) [.slice none 0 0] 25
    rw [World.size_alloc] at this
    exact this
  have hs2 : ((w.alloc (.cells #[.slice au PS.length cu] 25)).alloc (.cells #[.slice none 0 0] 25)).heap.size = w.heap.size + 2 := by rw [World.size_alloc, World.size_alloc]
  clear hC hu hSm
  go_enter Try.func9, Try.ntmps9
  go_wp2_with fail
  refine (l1Take_to c _ P P 20 _ rfl hC2.out (by omega) (by omega) ha.out).mono ?_
  rintro e w' ⟨rfl, rfl⟩
  go_wp2_with fail
  refine (l1Take_to c _ (P + 1) (P + 1) PS.length _ (by omega) hC2.out (by omega) (by omega) hi.out).mono ?_
  rintro e w' ⟨rfl, rfl⟩
  go_wp2_with fail
  refine (l1Take_to c _ (P + 2) (P + 1 + 1) 2 _ (by omega) hC2.out (by omega) (by omega) hx.out).mono ?_
  rintro e w' ⟨rfl, rfl⟩
  go_wp2_with fail
  refine (l2Copy_in (av := av) PS _ _ (fun b hb => by rw [hs2]; have := hav b hb; omega) hu2.out (by omega)).mono ?_
  rintro e y1 ⟨vo, X, rfl, b1, row1, hXp, hX⟩
  have b1' : Below w.heap.size w y1 := hB2.trans (b1.mono hB2.size)
  have hs1 := b1.size
  obtain ⟨go, co, rfl, -, -⟩ := row1.form (by omega)
  have hgo := row1.lt go rfl
  rw [hs2] at hs1 hgo
  have hXl : X.length = PS.length := by rw [← hXp]; simp
  obtain ⟨xv, hxv⟩ : ∃ xv, X[i]? = some xv := ⟨X[i]'(by omega), List.getElem?_eq_getElem (by omega)⟩
  have hxp : xv.p = ⟨params, vararg, regs, code, consts, ups', kids', name, lines, upNames⟩ := by
    have h1 : (X.map PV.p)[i]? = some xv.p := by rw [List.getElem?_map, hxv]; rfl
    rw [hXp, List.getElem?_eq_getElem hin, hq] at h1
    simpa using h1.symm
  have hpx : IsProto av w xv.a3 xv.a4 xv.a5 xv.a8 xv.a9 xv.p := (hX xv (List.mem_of_getElem? hxv)).keep fun b hb => (hB2.block b (hav b hb)).symm
  replace hX : Hid (∀ x ∈ X, IsProto av w x.a3 x.a4 x.a5 x.a8 x.a9 x.p) := fun x' hx' => (hX x' hx').keep fun b hb => (hB2.block b (hav b hb)).symm
  replace hav : Hid (∀ b, av b → b < w.heap.size) := hav
  have hcx : ∀ j, j < 10 → (y1.alloc (.cells #[.slice (some ⟨go, 0, none⟩) PS.length co] 25)).cell? ⟨go, i * 10 + j, none⟩ = xv.cells[j]? := fun j hj => by
    rw [World.cell?_of_block (w := y1) (Below.heap_alloc _ _ _ hgo.2), row1.cellAt _ (by omega)]
    exact pvCells_get X i xv hxv j hj
  obtain ⟨pp, a3, a4, a5, a8, a9⟩ := xv
  obtain rfl : pp = ⟨params, vararg, regs, code, consts, ups', kids', name, lines, upNames⟩ := hxp
  obtain ⟨o3, c3, rfl⟩ : ∃ o c, a3 = .slice o code.n c := IsArr.slice hpx.code
  obtain ⟨o4, c4, rfl⟩ : ∃ o c, a4 = .slice o consts.n c := IsArr.slice hpx.consts.1
  obtain ⟨o5, c5, rfl⟩ : ∃ o c, a5 = .slice o ups'.n c := IsArr.slice hpx.ups
  obtain ⟨o8, c8, rfl⟩ : ∃ o c, a8 = .slice o lines.n c := IsArr.slice hpx.lines
  obtain ⟨o9, c9, rfl⟩ : ∃ o c, a9 = .slice o upNames.n c := IsArr.slice hpx.upNames.1
  have e0 := hcx 0 (by omega)
  have e1 := hcx 1 (by omega)
  have e2 := hcx 2 (by omega)
  have e3 := hcx 3 (by omega)
  have e4 := hcx 4 (by omega)
  have e5 := hcx 5 (by omega)
  have e6 := hcx 6 (by omega)
  have e7 := hcx 7 (by omega)
  have e8 := hcx 8 (by omega)
  have e9 := hcx 9 (by omega)
  simp only [PV.cells, List.getElem?_cons_zero, List.getElem?_cons_succ, Nat.add_zero] at e0 e1 e2 e3 e4 e5 e6 e7 e8 e9
  have hI0 : Hid (SpI w (.slice (some ⟨go, 0, none⟩) PS.length co) PS.length X y1.heap.size [.int .i64 params, .bool vararg, .int .i64 regs, .slice o3 code.n c3, .slice o4 consts.n c4, .slice o5 ups'.n c5, .int .i64 kids', .string name, .slice o8 lines.n c8, .slice o9 upNames.n c9] ((y1.alloc (.cells #[.slice (some ⟨go, 0, none⟩) PS.length co] 25)).alloc (.cells #[.int .i64 params, .bool vararg, .int .i64 regs, .slice o3 code.n c3, .slice o4 consts.n c4, .slice o5 ups'.n c5, .int .i64 kids', .string name, .slice o8 lines.n c8, .slice o9 upNames.n c9] 35))) := by
    have R2 := (RowL.new y1 [.slice (some ⟨go, 0, none⟩) PS.length co] 25).alloc (.cells #[.int .i64 params, .bool vararg, .int .i64 regs, .slice o3 code.n c3, .slice o4 consts.n c4, .slice o5 ups'.n c5, .int .i64 kids', .string name, .slice o8 lines.n c8, .slice o9 upNames.n c9] 35)
    have R3 := RowL.new (y1.alloc (.cells #[.slice (some ⟨go, 0, none⟩) PS.length co] 25)) [.int .i64 params, .bool vararg, .int .i64 regs, .slice o3 code.n c3, .slice o4 consts.n c4, .slice o5 ups'.n c5, .int .i64 kids', .string name, .slice o8 lines.n c8, .slice o9 upNames.n c9] 35
    rw [World.size_alloc] at R3
    have hb : Below y1.heap.size y1 ((y1.alloc (.cells #[.slice (some ⟨go, 0, none⟩) PS.length co] 25)).alloc (.cells #[.int .i64 params, .bool vararg, .int .i64 regs, .slice o3 code.n c3, .slice o4 consts.n c4, .slice o5 ups'.n c5, .int .i64 kids', .string name, .slice o8 lines.n c8, .slice o9 upNames.n c9] 35)) := by go_grown
    exact ⟨(hR.out.call b1).call hb, R2, R3, own_below (own_mono row1 (by rw [hs2]; omega)) hb, b1'.trans (hb.mono (by omega)), by omega, fun k hk => by simp [Value.ownBlock] at hk; omega⟩
  replace hpx : Hid _ := hpx
  clear hcx row1 b1 hR hxv hq hC2 hu2 ha hi hx
  go_wp2_with fail
  refine (specPack_in 23 0 0 0 (-131072) _ (by omega) (by omega) (by omega) (by omega) (by omega) (by omega) (by omega) (by omega) (by decide)).mono ?_
  rintro e y2 ⟨rfl, b2⟩
  have hs3 : y1.heap.size + 1 < y2.heap.size := by
    have := b2.size
    rw [World.size_alloc, World.size_alloc] at this
    omega
  go_wp2_with (refine wp_gen 51 rfl (fun y => SpI w (.slice (some ⟨go, 0, none⟩) PS.length co) PS.length X y1.heap.size [.int .i64 params, .bool vararg, .int .i64 regs, .slice o3 code.n c3, .slice o4 consts.n c4, .slice o5 ups'.n c5, .int .i64 kids', .string name, .slice o8 lines.n c8, .slice o9 upNames.n c9] y ∧ RowL y y2.heap.size 51 [.int .u32 23] ∧ RowL y (y2.heap.size + 1) 35 [.int .i64 0, .bool false, .int .i64 1, .slice (some ⟨y2.heap.size, 0, none⟩) 1 1, .slice none 0 0, .slice none 0 0, .int .i64 0, .string ⟨#[]⟩, .slice none 0 0, .slice none 0 0] ∧ y2.heap.size + 2 ≤ y.heap.size) ?hG ?_)
  case hG =>
    have R3 := RowL.new (y2.alloc (.cells #[.int .u32 23] 51)) [.int .i64 0, .bool false, .int .i64 1, .slice (some ⟨y2.heap.size, 0, none⟩) 1 1, .slice none 0 0, .slice none 0 0, .int .i64 0, .string ⟨#[]⟩, .slice none 0 0, .slice none 0 0] 35
    rw [World.size_alloc] at R3
    refine ⟨((hI0.out.later b2).alloc _).alloc _, (RowL.new y2 [.int .u32 23] 51).alloc _, R3, by rw [World.size_alloc, World.size_alloc]; omega⟩
  intro y hy
  obtain ⟨hI, hlf1, hlf2, hys⟩ := hy
  replace hI : Hid (SpI w (.slice (some ⟨go, 0, none⟩) PS.length co) PS.length X y1.heap.size [.int .i64 params, .bool vararg, .int .i64 regs, .slice o3 code.n c3, .slice o4 consts.n c4, .slice o5 ups'.n c5, .int .i64 kids', .string name, .slice o8 lines.n c8, .slice o9 upNames.n c9] y) := hI
  replace hlf1 : Hid (RowL y y2.heap.size 51 [.int .u32 23]) := hlf1
  replace hlf2 : Hid (RowL y (y2.heap.size + 1) 35 [.int .i64 0, .bool false, .int .i64 1, .slice (some ⟨y2.heap.size, 0, none⟩) 1 1, .slice none 0 0, .slice none 0 0, .int .i64 0, .string ⟨#[]⟩, .slice none 0 0, .slice none 0 0]) := hlf2
  have hW := hI.out.bel
  clear e0 e1 e2 e3 e4 e5 e6 e7 e8 e9 hI0 b2
  have hm2 : (60 + x).toNat ≤ 61 := by omega
  have hmk : ∀ w : World, (Instr.makeSlice 31 (.int .i64 (60 + x)) (.int .i64 (60 + x))).run Try.prog w = .ok (.slice (some ⟨w.heap.size, 0, none⟩) (60 + x).toNat (60 + x).toNat) (madeW w (.agg #[.bool false, .int .i64 0]) (60 + x).toNat 2 59) := fun w => by
    have := run_make_rows 31 59 (.agg #[.bool false, .int .i64 0]) 2 16 Try.underlying31 (by kernel_rfl) (60 + x).toNat (by omega) (by omega) w
    rw [Int.toNat_of_nonneg (by omega)] at this
    exact this
  have hI2 : SpI w (.slice (some ⟨go, 0, none⟩) PS.length co) PS.length X y1.heap.size [.int .i64 params, .bool vararg, .int .i64 regs, .slice o3 code.n c3, .slice o4 consts.n c4, .slice o5 ups'.n c5, .int .i64 kids', .string name, .slice o8 lines.n c8, .slice o9 upNames.n c9] (madeW y (.agg #[.bool false, .int .i64 0]) (60 + x).toNat 2 59) := hI.out.later (below_madeW y (.agg #[.bool false, .int .i64 0]) (60 + x).toNat 2 59)
  have hsy : (madeW y (.agg #[.bool false, .int .i64 0]) (60 + x).toNat 2 59).heap.size = y.heap.size + 1 := World.size_alloc _ _
  have p0 := hI2.bq.cell 5 rfl
  have pf0 := hI2.bq.frozen 5
  have p1 := (hI2.setQ 5 (.slice (some ⟨y.heap.size, 0, none⟩) (60 + x).toNat (60 + x).toNat)).bq.cell 9 rfl
  have pf1 := (hI2.setQ 5 (.slice (some ⟨y.heap.size, 0, none⟩) (60 + x).toNat (60 + x).toNat)).bq.frozen 9
  replace hsy : Hid _ := hsy
  have hWn := ((hI2.setQ 5 (.slice (some ⟨y.heap.size, 0, none⟩) (60 + x).toNat (60 + x).toNat)).setQ 9 (.slice none 0 0)).bel
  go_wp2_with (refine wp_gen 182 rfl (fun yz => SpI w (.slice (some ⟨go, 0, none⟩) PS.length co) PS.length X y1.heap.size (PV.cells ⟨(⟨params, vararg, regs, code, consts, ⟨(60 + x).toNat, fun _ => ⟨false, 0⟩⟩, kids', name, lines, (slOf [])⟩ : PD), (.slice o3 code.n c3), (.slice o4 consts.n c4), (.slice (some ⟨y.heap.size, 0, none⟩) (60 + x).toNat (60 + x).toNat), (.slice o8 lines.n c8), (.slice none 0 0)⟩) yz ∧ IsProto (fun b => av b ∨ (y1.heap.size + 1 < b ∧ b < yz.heap.size)) yz (.slice o3 code.n c3) (.slice o4 consts.n c4) (.slice (some ⟨y.heap.size, 0, none⟩) (60 + x).toNat (60 + x).toNat) (.slice o8 lines.n c8) (.slice none 0 0) (⟨params, vararg, regs, code, consts, ⟨(60 + x).toNat, fun _ => ⟨false, 0⟩⟩, kids', name, lines, (slOf [])⟩ : PD)) ?hH ?_)
  case hH => exact ⟨((hI2.setQ 5 (.slice (some ⟨y.heap.size, 0, none⟩) (60 + x).toNat (60 + x).toNat)).setQ 9 (.slice none 0 0)), ⟨IsArr.mono (IsArr.keep hpx.out.code fun b hb => hWn.block b (hav.out b hb)) fun b hb => .inl hb, ⟨IsArr.mono (IsArr.keep hpx.out.consts.1 fun b hb => hWn.block b (hav.out b hb)) fun b hb => .inl hb, hpx.out.consts.2⟩, IsArr.mono (IsArr.keep (made_ups (made_arr y (.agg #[.bool false, .int .i64 0]) (60 + x).toNat 2 59 rfl (by omega) (by omega))) fun b hb => by subst hb; (have hb' : y.heap.size ≠ y1.heap.size + 1 := by omega); rw [Below.heap_setCell _ _ _ _ hb', Below.heap_setCell _ _ _ _ hb']) fun b hb => .inr ⟨by omega, by rw [World.size_setCell, World.size_setCell, hsy.out]; omega⟩, IsArr.mono (IsArr.keep hpx.out.lines fun b hb => hWn.block b (hav.out b hb)) fun b hb => .inl hb, ⟨⟨none, 0, rfl, by show 0 ≤ _; omega, fun h => absurd h (by show ¬ 0 < 0; omega)⟩, fun i hi => absurd hi (by show ¬ i < 0; omega)⟩, hpx.out.name⟩⟩
  intro yz hyz
  obtain ⟨hI5, hx5⟩ := hyz
  have dbo := hI5.bo.cell 0 rfl
  have hrg : yz.rangeAt (y1.heap.size + 1) 0 [.int .i64 params, .bool vararg, .int .i64 regs, .slice o3 code.n c3, .slice o4 consts.n c4, .slice (some ⟨y.heap.size, 0, none⟩) (60 + x).toNat (60 + x).toNat, .int .i64 kids', .string name, .slice o8 lines.n c8, .slice none 0 0] := fun j v hv => by rw [Nat.zero_add]; exact hI5.bq.cell j hv
  have hth : yz.there go (i * 10) 10 := fun j hj => by
    have := hI5.row.cellAt (i * 10 + j) (by omega)
    rw [List.getElem?_eq_getElem (by rw [pvCells_len]; omega)] at this
    exact ⟨by rw [this]; rfl, hI5.row.frozenAt _⟩
  have hG5 : RowL (yz.setCells go (i * 10) [.int .i64 params, .bool vararg, .int .i64 regs, .slice o3 code.n c3, .slice o4 consts.n c4, .slice (some ⟨y.heap.size, 0, none⟩) (60 + x).toNat (60 + x).toNat, .int .i64 kids', .string name, .slice o8 lines.n c8, .slice none 0 0]) (w.heap.size + 1) 25 [.slice none 0 0] ∧ (yz.setCells go (i * 10) [.int .i64 params, .bool vararg, .int .i64 regs, .slice o3 code.n c3, .slice o4 consts.n c4, .slice (some ⟨y.heap.size, 0, none⟩) (60 + x).toNat (60 + x).toNat, .int .i64 kids', .string name, .slice o8 lines.n c8, .slice none 0 0]).cell? ⟨y1.heap.size, 0, none⟩ = some (.slice (some ⟨go, 0, none⟩) PS.length co) ∧ Below w.heap.size w ((yz.setCells go (i * 10) [.int .i64 params, .bool vararg, .int .i64 regs, .slice o3 code.n c3, .slice o4 consts.n c4, .slice (some ⟨y.heap.size, 0, none⟩) (60 + x).toNat (60 + x).toNat, .int .i64 kids', .string name, .slice o8 lines.n c8, .slice none 0 0]).setCell ⟨w.heap.size + 1, 0, none⟩ (.slice (some ⟨go, 0, none⟩) PS.length co)) ∧ IsProtos (fun b => av b ∨ (w.heap.size ≤ b ∧ b < ((yz.setCells go (i * 10) [.int .i64 params, .bool vararg, .int .i64 regs, .slice o3 code.n c3, .slice o4 consts.n c4, .slice (some ⟨y.heap.size, 0, none⟩) (60 + x).toNat (60 + x).toNat, .int .i64 kids', .string name, .slice o8 lines.n c8, .slice none 0 0]).setCell ⟨w.heap.size + 1, 0, none⟩ (.slice (some ⟨go, 0, none⟩) PS.length co)).heap.size)) ((yz.setCells go (i * 10) [.int .i64 params, .bool vararg, .int .i64 regs, .slice o3 code.n c3, .slice o4 consts.n c4, .slice (some ⟨y.heap.size, 0, none⟩) (60 + x).toNat (60 + x).toNat, .int .i64 kids', .string name, .slice o8 lines.n c8, .slice none 0 0]).setCell ⟨w.heap.size + 1, 0, none⟩ (.slice (some ⟨go, 0, none⟩) PS.length co)) (.slice (some ⟨go, 0, none⟩) PS.length co) (slOf (PS.set i (⟨params, vararg, regs, code, consts, ⟨(60 + x).toNat, fun _ => ⟨false, 0⟩⟩, kids', name, lines, (slOf [])⟩ : PD))) := by
    have hF := hI5.fin hav.out (x := ⟨(⟨params, vararg, regs, code, consts, ⟨(60 + x).toNat, fun _ => ⟨false, 0⟩⟩, kids', name, lines, (slOf [])⟩ : PD), (.slice o3 code.n c3), (.slice o4 consts.n c4), (.slice (some ⟨y.heap.size, 0, none⟩) (60 + x).toNat (60 + x).toNat), (.slice o8 lines.n c8), (.slice none 0 0)⟩) hXl hin hX.out hx5
    rw [setCs_eq, hXp] at hF
    exact ⟨World.rowIs.of_block hI5.br (by rw [← setCs_eq]; exact setCs_heap go [.int .i64 params, .bool vararg, .int .i64 regs, .slice o3 code.n c3, .slice o4 consts.n c4, .slice (some ⟨y.heap.size, 0, none⟩) (60 + x).toNat (60 + x).toNat, .int .i64 kids', .string name, .slice o8 lines.n c8, .slice none 0 0] yz (i * 10) _ (by omega)), (World.cell?_of_block (w := yz) (by rw [← setCs_eq]; exact setCs_heap go [.int .i64 params, .bool vararg, .int .i64 regs, .slice o3 code.n c3, .slice o4 consts.n c4, .slice (some ⟨y.heap.size, 0, none⟩) (60 + x).toNat (60 + x).toNat, .int .i64 kids', .string name, .slice o8 lines.n c8, .slice none 0 0] yz (i * 10) _ (by show y1.heap.size ≠ go; omega))).trans dbo, hF.1, hF.2⟩
  replace hG5 : Hid _ := hG5
  have hone : (#[.int .i64 params, .bool vararg, .int .i64 regs, .slice o3 code.n c3, .slice o4 consts.n c4, .slice (some ⟨y.heap.size, 0, none⟩) (60 + x).toNat (60 + x).toNat, .int .i64 kids', .string name, .slice o8 lines.n c8, .slice none 0 0] : Array Value).all (·.oneCell') = true := all_oneCell_toArray (cs := [.int .i64 params, .bool vararg, .int .i64 regs, .slice o3 code.n c3, .slice o4 consts.n c4, .slice (some ⟨y.heap.size, 0, none⟩) (60 + x).toNat (60 + x).toNat, .int .i64 kids', .string name, .slice o8 lines.n c8, .slice none 0 0]) (by intro v hv; simp only [List.mem_cons, List.not_mem_nil, or_false] at hv; rcases hv with rfl | rfl | rfl | rfl | rfl | rfl | rfl | rfl | rfl | rfl <;> rfl)
  have hsz1 : (Try.prog.info? 35).map (·.size) = some 10 := by kernel_rfl
  clear hI5 hx5
  go_wp2_with (refine wp_gen 184 rfl (fun y' => y' = yz) rfl ?_)
  intro y' hy'
  subst hy'
  refine wpList_load_mid rfl 35 (.tmp 11) rfl (y1.heap.size + 1) 0 rfl [.int .i64 params, .bool vararg, .int .i64 regs, .slice o3 code.n c3, .slice o4 consts.n c4, .slice (some ⟨y.heap.size, 0, none⟩) (60 + x).toNat (60 + x).toNat, .int .i64 kids', .string name, .slice o8 lines.n c8, .slice none 0 0] _ hrg Try.underlying35 rfl hsz1 ?_
  go_wp2_with (refine wp_genS 35 (.tmp 185) (.tmp 184) rfl (fun y'' => y'' = y') rfl ?_)
  intro y'' hy''
  subst hy''
  refine wpList_store_mid rfl 35 (.tmp 185) (.tmp 184) rfl go (i * 10) #[.int .i64 params, .bool vararg, .int .i64 regs, .slice o3 code.n c3, .slice o4 consts.n c4, .slice (some ⟨y.heap.size, 0, none⟩) (60 + x).toNat (60 + x).toNat, .int .i64 kids', .string name, .slice o8 lines.n c8, .slice none 0 0] rfl rfl hth hsz1 hone ?_
  refine wp_genA (fun y5 => RowL y5 (w.heap.size + 1) 25 [.slice none 0 0] ∧ y5.cell? ⟨y1.heap.size, 0, none⟩ = some (.slice (some ⟨go, 0, none⟩) PS.length co) ∧ Below w.heap.size w (y5.setCell ⟨w.heap.size + 1, 0, none⟩ (.slice (some ⟨go, 0, none⟩) PS.length co)) ∧ IsProtos (fun b => av b ∨ (w.heap.size ≤ b ∧ b < (y5.setCell ⟨w.heap.size + 1, 0, none⟩ (.slice (some ⟨go, 0, none⟩) PS.length co)).heap.size)) (y5.setCell ⟨w.heap.size + 1, 0, none⟩ (.slice (some ⟨go, 0, none⟩) PS.length co)) (.slice (some ⟨go, 0, none⟩) PS.length co) (slOf (PS.set i (⟨params, vararg, regs, code, consts, ⟨(60 + x).toNat, fun _ => ⟨false, 0⟩⟩, kids', name, lines, (slOf [])⟩ : PD)))) hG5.out ?_
  intro y5 hy5
  obtain ⟨hr5, dbo5, hF1, hF2⟩ := hy5
  have dr5 := hr5.cell 0 rfl
  have fr5 := hr5.frozen 0
  have hfin := (hr5.set 0 (.slice (some ⟨go, 0, none⟩) PS.length co)).cell 0 rfl
  replace hF2 : Hid _ := hF2
  clear hG5 hrg hth hone dbo hr5
  go_wp2_with fail
  refine bodyPost_ret (v := .agg #[.slice (some ⟨go, 0, none⟩) PS.length co]) (by simp [results, Try.results9, go_sem, hfin]) rfl ⟨_, rfl, hF1, hF2.out⟩
set_option maxRecDepth 100000 in
set_option maxHeartbeats 12000000 in
theorem spoil13 (c : Sl Int) (P : Nat) (PS : List PD) (hP : P ≤ 3000) (hl : PS.length ≤ 10) (h0 : 0 < PS.length) (hSm : ∀ x ∈ PS, Sm x) (ha : tk c P 20 = 13) : SpoilA c P PS := by
  obtain ⟨i, hi⟩ : ∃ i : Nat, tk c (P + 1) PS.length = (i : Int) := Int.eq_ofNat_of_zero_le (tk_bd _ _ _).1
  have hin : i < PS.length := by have := (tk_bd c (P + 1) PS.length).2 (by omega); omega
  obtain ⟨x, hx⟩ : ∃ x, tk c (P + 2) 2 = x := ⟨_, rfl⟩
  have hx1 : 0 ≤ x := hx ▸ (tk_bd _ _ _).1
  have hx2 : x ≤ 1 := by have := (tk_bd c (P + 2) 2).2 (by omega); omega
  obtain ⟨q, hq⟩ : ∃ q, PS[i]'hin = q := ⟨_, rfl⟩
  have hqs : Sm q := hSm q (hq ▸ List.getElem_mem hin)
  obtain ⟨params, vararg, regs, code, consts, ups', kids', name, lines, upNames⟩ := q
  refine ⟨PS.set i (⟨params, vararg, regs, code, consts, ups', kids', name, ⟨code.n, fun i => if i = 0 then 16777215 + x else 0⟩, upNames⟩ : PD), fun av w v u hav hC hu => ?_⟩
  obtain ⟨ao, cap, rfl⟩ : ∃ ao cap, v = .slice ao c.n cap := IsArr.slice hC.ints
  obtain ⟨au, cu, rfl⟩ : ∃ a b, u = .slice a PS.length b := by obtain ⟨_, _, _, _, _, ⟨a, b, h, _⟩, _⟩ := hu; exact ⟨a, b, h⟩
  have hsm := hC.small
  have hB2 : Below w.heap.size w ((w.alloc (.cells #[.slice au PS.length cu] 25)).alloc (.cells #[.slice none 0 0] 25)) := by go_grown
  have hC2 : Hid _ := hC.later hB2
  have hu2 : Hid (IsProtos av ((w.alloc (.cells #[.slice au PS.length cu] 25)).alloc (.cells #[.slice none 0 0] 25)) (.slice au PS.length cu) (slOf PS)) := hu.keep fun b hb => hB2.block b (hav b hb)
  replace ha : Hid _ := ha
  replace hi : Hid (tk c (P + 1) PS.length = (i : Int)) := hi
  replace hx : Hid (tk c (P + 2) 2 = x) := hx
  have hR : Hid (RowL ((w.alloc (.cells #[.slice au PS.length cu] 25)).alloc (.cells #[.slice none 0 0] 25)) (w.heap.size + 1) 25 [.slice none 0 0]) := by
    have := RowL.new (w.alloc (.cells #[.slice au PS.length cu] 25)) [.slice none 0 0] 25
    rw [World.size_alloc] at this
    exact this
  have hs2 : ((w.alloc (.cells #[.slice au PS.length cu] 25)).alloc (.cells #[.slice none 0 0] 25)).heap.size = w.heap.size + 2 := by rw [World.size_alloc, World.size_alloc]
  clear hC hu hSm
  go_enter Try.func9, Try.ntmps9
  go_wp2_with fail
  refine (l1Take_to c _ P P 20 _ rfl hC2.out (by omega) (by omega) ha.out).mono ?_
  rintro e w' ⟨rfl, rfl⟩
  go_wp2_with fail
  refine (l1Take_to c _ (P + 1) (P + 1) PS.length _ (by omega) hC2.out (by omega) (by omega) hi.out).mono ?_
  rintro e w' ⟨rfl, rfl⟩
  go_wp2_with fail
  refine (l1Take_to c _ (P + 2) (P + 1 + 1) 2 _ (by omega) hC2.out (by omega) (by omega) hx.out).mono ?_
  rintro e w' ⟨rfl, rfl⟩
  go_wp2_with fail
  refine (l2Copy_in (av := av) PS _ _ (fun b hb => by rw [hs2]; have := hav b hb; omega) hu2.out (by omega)).mono ?_
  rintro e y1 ⟨vo, X, rfl, b1, row1, hXp, hX⟩
  have b1' : Below w.heap.size w y1 := hB2.trans (b1.mono hB2.size)
  have hs1 := b1.size
  obtain ⟨go, co, rfl, -, -⟩ := row1.form (by omega)
  have hgo := row1.lt go rfl
  rw [hs2] at hs1 hgo
  have hXl : X.length = PS.length := by rw [← hXp]; simp
  obtain ⟨xv, hxv⟩ : ∃ xv, X[i]? = some xv := ⟨X[i]'(by omega), List.getElem?_eq_getElem (by omega)⟩
  have hxp : xv.p = ⟨params, vararg, regs, code, consts, ups', kids', name, lines, upNames⟩ := by
    have h1 : (X.map PV.p)[i]? = some xv.p := by rw [List.getElem?_map, hxv]; rfl
    rw [hXp, List.getElem?_eq_getElem hin, hq] at h1
    simpa using h1.symm
  have hpx : IsProto av w xv.a3 xv.a4 xv.a5 xv.a8 xv.a9 xv.p := (hX xv (List.mem_of_getElem? hxv)).keep fun b hb => (hB2.block b (hav b hb)).symm
  replace hX : Hid (∀ x ∈ X, IsProto av w x.a3 x.a4 x.a5 x.a8 x.a9 x.p) := fun x' hx' => (hX x' hx').keep fun b hb => (hB2.block b (hav b hb)).symm
  replace hav : Hid (∀ b, av b → b < w.heap.size) := hav
  have hcx : ∀ j, j < 10 → (y1.alloc (.cells #[.slice (some ⟨go, 0, none⟩) PS.length co] 25)).cell? ⟨go, i * 10 + j, none⟩ = xv.cells[j]? := fun j hj => by
    rw [World.cell?_of_block (w := y1) (Below.heap_alloc _ _ _ hgo.2), row1.cellAt _ (by omega)]
    exact pvCells_get X i xv hxv j hj
  obtain ⟨pp, a3, a4, a5, a8, a9⟩ := xv
  obtain rfl : pp = ⟨params, vararg, regs, code, consts, ups', kids', name, lines, upNames⟩ := hxp
  obtain ⟨o3, c3, rfl⟩ : ∃ o c, a3 = .slice o code.n c := IsArr.slice hpx.code
  obtain ⟨o4, c4, rfl⟩ : ∃ o c, a4 = .slice o consts.n c := IsArr.slice hpx.consts.1
  obtain ⟨o5, c5, rfl⟩ : ∃ o c, a5 = .slice o ups'.n c := IsArr.slice hpx.ups
  obtain ⟨o8, c8, rfl⟩ : ∃ o c, a8 = .slice o lines.n c := IsArr.slice hpx.lines
  obtain ⟨o9, c9, rfl⟩ : ∃ o c, a9 = .slice o upNames.n c := IsArr.slice hpx.upNames.1
  have e0 := hcx 0 (by omega)
  have e1 := hcx 1 (by omega)
  have e2 := hcx 2 (by omega)
  have e3 := hcx 3 (by omega)
  have e4 := hcx 4 (by omega)
  have e5 := hcx 5 (by omega)
  have e6 := hcx 6 (by omega)
  have e7 := hcx 7 (by omega)
  have e8 := hcx 8 (by omega)
  have e9 := hcx 9 (by omega)
  simp only [PV.cells, List.getElem?_cons_zero, List.getElem?_cons_succ, Nat.add_zero] at e0 e1 e2 e3 e4 e5 e6 e7 e8 e9
  have hI0 : Hid (SpI w (.slice (some ⟨go, 0, none⟩) PS.length co) PS.length X y1.heap.size [.int .i64 params, .bool vararg, .int .i64 regs, .slice o3 code.n c3, .slice o4 consts.n c4, .slice o5 ups'.n c5, .int .i64 kids', .string name, .slice o8 lines.n c8, .slice o9 upNames.n c9] ((y1.alloc (.cells #[.slice (some ⟨go, 0, none⟩) PS.length co] 25)).alloc (.cells #[.int .i64 params, .bool vararg, .int .i64 regs, .slice o3 code.n c3, .slice o4 consts.n c4, .slice o5 ups'.n c5, .int .i64 kids', .string name, .slice o8 lines.n c8, .slice o9 upNames.n c9] 35))) := by
    have R2 := (RowL.new y1 [.slice (some ⟨go, 0, none⟩) PS.length co] 25).alloc (.cells #[.int .i64 params, .bool vararg, .int .i64 regs, .slice o3 code.n c3, .slice o4 consts.n c4, .slice o5 ups'.n c5, .int .i64 kids', .string name, .slice o8 lines.n c8, .slice o9 upNames.n c9] 35)
    have R3 := RowL.new (y1.alloc (.cells #[.slice (some ⟨go, 0, none⟩) PS.length co] 25)) [.int .i64 params, .bool vararg, .int .i64 regs, .slice o3 code.n c3, .slice o4 consts.n c4, .slice o5 ups'.n c5, .int .i64 kids', .string name, .slice o8 lines.n c8, .slice o9 upNames.n c9] 35
    rw [World.size_alloc] at R3
    have hb : Below y1.heap.size y1 ((y1.alloc (.cells #[.slice (some ⟨go, 0, none⟩) PS.length co] 25)).alloc (.cells #[.int .i64 params, .bool vararg, .int .i64 regs, .slice o3 code.n c3, .slice o4 consts.n c4, .slice o5 ups'.n c5, .int .i64 kids', .string name, .slice o8 lines.n c8, .slice o9 upNames.n c9] 35)) := by go_grown
    exact ⟨(hR.out.call b1).call hb, R2, R3, own_below (own_mono row1 (by rw [hs2]; omega)) hb, b1'.trans (hb.mono (by omega)), by omega, fun k hk => by simp [Value.ownBlock] at hk; omega⟩
  replace hpx : Hid _ := hpx
  clear hcx row1 b1 hR hxv hq hC2 hu2 ha hi hx
  go_wp2_with fail
  refine (specPack_in 23 0 0 0 (-131072) _ (by omega) (by omega) (by omega) (by omega) (by omega) (by omega) (by omega) (by omega) (by decide)).mono ?_
  rintro e y2 ⟨rfl, b2⟩
  have hs3 : y1.heap.size + 1 < y2.heap.size := by
    have := b2.size
    rw [World.size_alloc, World.size_alloc] at this
    omega
  go_wp2_with (refine wp_gen 51 rfl (fun y => SpI w (.slice (some ⟨go, 0, none⟩) PS.length co) PS.length X y1.heap.size [.int .i64 params, .bool vararg, .int .i64 regs, .slice o3 code.n c3, .slice o4 consts.n c4, .slice o5 ups'.n c5, .int .i64 kids', .string name, .slice o8 lines.n c8, .slice o9 upNames.n c9] y ∧ RowL y y2.heap.size 51 [.int .u32 23] ∧ RowL y (y2.heap.size + 1) 35 [.int .i64 0, .bool false, .int .i64 1, .slice (some ⟨y2.heap.size, 0, none⟩) 1 1, .slice none 0 0, .slice none 0 0, .int .i64 0, .string ⟨#[]⟩, .slice none 0 0, .slice none 0 0] ∧ y2.heap.size + 2 ≤ y.heap.size) ?hG ?_)
  case hG =>
    have R3 := RowL.new (y2.alloc (.cells #[.int .u32 23] 51)) [.int .i64 0, .bool false, .int .i64 1, .slice (some ⟨y2.heap.size, 0, none⟩) 1 1, .slice none 0 0, .slice none 0 0, .int .i64 0, .string ⟨#[]⟩, .slice none 0 0, .slice none 0 0] 35
    rw [World.size_alloc] at R3
    refine ⟨((hI0.out.later b2).alloc _).alloc _, (RowL.new y2 [.int .u32 23] 51).alloc _, R3, by rw [World.size_alloc, World.size_alloc]; omega⟩
  intro y hy
  obtain ⟨hI, hlf1, hlf2, hys⟩ := hy
  replace hI : Hid (SpI w (.slice (some ⟨go, 0, none⟩) PS.length co) PS.length X y1.heap.size [.int .i64 params, .bool vararg, .int .i64 regs, .slice o3 code.n c3, .slice o4 consts.n c4, .slice o5 ups'.n c5, .int .i64 kids', .string name, .slice o8 lines.n c8, .slice o9 upNames.n c9] y) := hI
  replace hlf1 : Hid (RowL y y2.heap.size 51 [.int .u32 23]) := hlf1
  replace hlf2 : Hid (RowL y (y2.heap.size + 1) 35 [.int .i64 0, .bool false, .int .i64 1, .slice (some ⟨y2.heap.size, 0, none⟩) 1 1, .slice none 0 0, .slice none 0 0, .int .i64 0, .string ⟨#[]⟩, .slice none 0 0, .slice none 0 0]) := hlf2
  have hW := hI.out.bel
  clear e0 e1 e2 e3 e4 e5 e6 e7 e8 e9 hI0 b2
  have hc0 : 0 < code.n := hqs.c0
  have hc1 : code.n ≤ 1000 := hqs.c1
  have hmk := run_make_rows 32 3 (.int .i64 0) 1 8 Try.underlying32 (by kernel_rfl) code.n (by omega) (by omega)
  have hI2 : SpI w (.slice (some ⟨go, 0, none⟩) PS.length co) PS.length X y1.heap.size [.int .i64 params, .bool vararg, .int .i64 regs, .slice o3 code.n c3, .slice o4 consts.n c4, .slice o5 ups'.n c5, .int .i64 kids', .string name, .slice o8 lines.n c8, .slice o9 upNames.n c9] (madeW y (.int .i64 0) code.n 1 3) := hI.out.later (below_madeW y (.int .i64 0) code.n 1 3)
  have hsy : Hid ((madeW y (.int .i64 0) code.n 1 3).heap.size = y.heap.size + 1) := World.size_alloc _ _
  have p3 := hI.out.bq.cell 3 rfl
  have p0 := hI2.bq.cell 8 rfl
  have pf0 := hI2.bq.frozen 8
  have hJ := hI2.setQ 8 (.slice (some ⟨y.heap.size, 0, none⟩) code.n code.n)
  have p8 := hJ.bq.cell 8 rfl
  have hro := World.rowIs.setOther (World.rowIs_made y (.int .i64 0) code.n 3) (a := ⟨y1.heap.size + 1, 8, none⟩) (by show y.heap.size ≠ y1.heap.size + 1; omega) (.slice (some ⟨y.heap.size, 0, none⟩) code.n code.n)
  have hmw : y.alloc (.cells (madeCells #[.int .i64 0] code.n) 3) = madeW y (.int .i64 0) code.n 1 3 := by unfold madeW; rw [Nat.mul_one]; rfl
  rw [hmw] at hro
  have s0 := hro.cell hc0
  have sf0 := hro.frozen 0
  replace hmw : Hid _ := hmw
  replace hro : Hid _ := hro
  replace hJ : Hid _ := hJ
  have hWn := (hJ.out.setFar (g := y.heap.size) (by omega) 0 (.int .i64 (16777215 + x))).bel
  go_wp2_with (refine wp_gen 182 rfl (fun yz => SpI w (.slice (some ⟨go, 0, none⟩) PS.length co) PS.length X y1.heap.size (PV.cells ⟨(⟨params, vararg, regs, code, consts, ups', kids', name, ⟨code.n, fun i => if i = 0 then 16777215 + x else 0⟩, upNames⟩ : PD), (.slice o3 code.n c3), (.slice o4 consts.n c4), (.slice o5 ups'.n c5), (.slice (some ⟨y.heap.size, 0, none⟩) code.n code.n), (.slice o9 upNames.n c9)⟩) yz ∧ IsProto (fun b => av b ∨ (y1.heap.size + 1 < b ∧ b < yz.heap.size)) yz (.slice o3 code.n c3) (.slice o4 consts.n c4) (.slice o5 ups'.n c5) (.slice (some ⟨y.heap.size, 0, none⟩) code.n code.n) (.slice o9 upNames.n c9) (⟨params, vararg, regs, code, consts, ups', kids', name, ⟨code.n, fun i => if i = 0 then 16777215 + x else 0⟩, upNames⟩ : PD)) ?hH ?_)
  case hH => exact ⟨(hJ.out.setFar (g := y.heap.size) (by omega) 0 (.int .i64 (16777215 + x))), ⟨IsArr.mono (IsArr.keep hpx.out.code fun b hb => hWn.block b (hav.out b hb)) fun b hb => .inl hb, ⟨IsArr.mono (IsArr.keep hpx.out.consts.1 fun b hb => hWn.block b (hav.out b hb)) fun b hb => .inl hb, hpx.out.consts.2⟩, IsArr.mono (IsArr.keep hpx.out.ups fun b hb => hWn.block b (hav.out b hb)) fun b hb => .inl hb, IsArr.mono (made_set y code.n 3 ⟨y1.heap.size + 1, 8, none⟩ (.slice (some ⟨y.heap.size, 0, none⟩) code.n code.n) (16777215 + x) (by show y.heap.size ≠ y1.heap.size + 1; omega) (by omega)) fun b hb => .inr ⟨by omega, by simp only [World.size_setCell, hsy.out]; omega⟩, ⟨IsArr.mono (IsArr.keep hpx.out.upNames.1 fun b hb => hWn.block b (hav.out b hb)) fun b hb => .inl hb, hpx.out.upNames.2⟩, hpx.out.name⟩⟩
  intro yz hI5 hx5
  have dbo := hI5.bo.cell 0 rfl
  have hrg : yz.rangeAt (y1.heap.size + 1) 0 [.int .i64 params, .bool vararg, .int .i64 regs, .slice o3 code.n c3, .slice o4 consts.n c4, .slice o5 ups'.n c5, .int .i64 kids', .string name, .slice (some ⟨y.heap.size, 0, none⟩) code.n code.n, .slice o9 upNames.n c9] := fun j v hv => by rw [Nat.zero_add]; exact hI5.bq.cell j hv
  have hth : yz.there go (i * 10) 10 := fun j hj => by
    have := hI5.row.cellAt (i * 10 + j) (by omega)
    rw [List.getElem?_eq_getElem (by rw [pvCells_len]; omega)] at this
    exact ⟨by rw [this]; rfl, hI5.row.frozenAt _⟩
  have hG5 : RowL (yz.setCells go (i * 10) [.int .i64 params, .bool vararg, .int .i64 regs, .slice o3 code.n c3, .slice o4 consts.n c4, .slice o5 ups'.n c5, .int .i64 kids', .string name, .slice (some ⟨y.heap.size, 0, none⟩) code.n code.n, .slice o9 upNames.n c9]) (w.heap.size + 1) 25 [.slice none 0 0] ∧ (yz.setCells go (i * 10) [.int .i64 params, .bool vararg, .int .i64 regs, .slice o3 code.n c3, .slice o4 consts.n c4, .slice o5 ups'.n c5, .int .i64 kids', .string name, .slice (some ⟨y.heap.size, 0, none⟩) code.n code.n, .slice o9 upNames.n c9]).cell? ⟨y1.heap.size, 0, none⟩ = some (.slice (some ⟨go, 0, none⟩) PS.length co) ∧ Below w.heap.size w ((yz.setCells go (i * 10) [.int .i64 params, .bool vararg, .int .i64 regs, .slice o3 code.n c3, .slice o4 consts.n c4, .slice o5 ups'.n c5, .int .i64 kids', .string name, .slice (some ⟨y.heap.size, 0, none⟩) code.n code.n, .slice o9 upNames.n c9]).setCell ⟨w.heap.size + 1, 0, none⟩ (.slice (some ⟨go, 0, none⟩) PS.length co)) ∧ IsProtos (fun b => av b ∨ (w.heap.size ≤ b ∧ b < ((yz.setCells go (i * 10) [.int .i64 params, .bool vararg, .int .i64 regs, .slice o3 code.n c3, .slice o4 consts.n c4, .slice o5 ups'.n c5, .int .i64 kids', .string name, .slice (some ⟨y.heap.size, 0, none⟩) code.n code.n, .slice o9 upNames.n c9]).setCell ⟨w.heap.size + 1, 0, none⟩ (.slice (some ⟨go, 0, none⟩) PS.length co)).heap.size)) ((yz.setCells go (i * 10) [.int .i64 params, .bool vararg, .int .i64 regs, .slice o3 code.n c3, .slice o4 consts.n c4, .slice o5 ups'.n c5, .int .i64 kids', .string name, .slice (some ⟨y.heap.size, 0, none⟩) code.n code.n, .slice o9 upNames.n c9]).setCell ⟨w.heap.size + 1, 0, none⟩ (.slice (some ⟨go, 0, none⟩) PS.length co)) (.slice (some ⟨go, 0, none⟩) PS.length co) (slOf (PS.set i (⟨params, vararg, regs, code, consts, ups', kids', name, ⟨code.n, fun i => if i = 0 then 16777215 + x else 0⟩, upNames⟩ : PD))) := by
    have hF := hI5.fin hav.out (x := ⟨(⟨params, vararg, regs, code, consts, ups', kids', name, ⟨code.n, fun i => if i = 0 then 16777215 + x else 0⟩, upNames⟩ : PD), (.slice o3 code.n c3), (.slice o4 consts.n c4), (.slice o5 ups'.n c5), (.slice (some ⟨y.heap.size, 0, none⟩) code.n code.n), (.slice o9 upNames.n c9)⟩) hXl hin hX.out hx5
    rw [setCs_eq, hXp] at hF
    exact ⟨World.rowIs.of_block hI5.br (by rw [← setCs_eq]; exact setCs_heap go [.int .i64 params, .bool vararg, .int .i64 regs, .slice o3 code.n c3, .slice o4 consts.n c4, .slice o5 ups'.n c5, .int .i64 kids', .string name, .slice (some ⟨y.heap.size, 0, none⟩) code.n code.n, .slice o9 upNames.n c9] yz (i * 10) _ (by omega)), (World.cell?_of_block (w := yz) (by rw [← setCs_eq]; exact setCs_heap go [.int .i64 params, .bool vararg, .int .i64 regs, .slice o3 code.n c3, .slice o4 consts.n c4, .slice o5 ups'.n c5, .int .i64 kids', .string name, .slice (some ⟨y.heap.size, 0, none⟩) code.n code.n, .slice o9 upNames.n c9] yz (i * 10) _ (by show y1.heap.size ≠ go; omega))).trans dbo, hF.1, hF.2⟩
  replace hG5 : Hid _ := hG5
  have hone : (#[.int .i64 params, .bool vararg, .int .i64 regs, .slice o3 code.n c3, .slice o4 consts.n c4, .slice o5 ups'.n c5, .int .i64 kids', .string name, .slice (some ⟨y.heap.size, 0, none⟩) code.n code.n, .slice o9 upNames.n c9] : Array Value).all (·.oneCell') = true := all_oneCell_toArray (cs := [.int .i64 params, .bool vararg, .int .i64 regs, .slice o3 code.n c3, .slice o4 consts.n c4, .slice o5 ups'.n c5, .int .i64 kids', .string name, .slice (some ⟨y.heap.size, 0, none⟩) code.n code.n, .slice o9 upNames.n c9]) (by intro v hv; simp only [List.mem_cons, List.not_mem_nil, or_false] at hv; rcases hv with rfl | rfl | rfl | rfl | rfl | rfl | rfl | rfl | rfl | rfl <;> rfl)
  have hsz1 : (Try.prog.info? 35).map (·.size) = some 10 := by kernel_rfl
  clear hI5 hx5
  go_wp2_with (refine wp_gen 184 rfl (fun y' => y' = yz) rfl ?_)
  intro y' hy'
  subst hy'
  refine wpList_load_mid rfl 35 (.tmp 11) rfl (y1.heap.size + 1) 0 rfl [.int .i64 params, .bool vararg, .int .i64 regs, .slice o3 code.n c3, .slice o4 consts.n c4, .slice o5 ups'.n c5, .int .i64 kids', .string name, .slice (some ⟨y.heap.size, 0, none⟩) code.n code.n, .slice o9 upNames.n c9] _ hrg Try.underlying35 rfl hsz1 ?_
  go_wp2_with (refine wp_genS 35 (.tmp 185) (.tmp 184) rfl (fun y'' => y'' = y') rfl ?_)
  intro y'' hy''
  subst hy''
  refine wpList_store_mid rfl 35 (.tmp 185) (.tmp 184) rfl go (i * 10) #[.int .i64 params, .bool vararg, .int .i64 regs, .slice o3 code.n c3, .slice o4 consts.n c4, .slice o5 ups'.n c5, .int .i64 kids', .string name, .slice (some ⟨y.heap.size, 0, none⟩) code.n code.n, .slice o9 upNames.n c9] rfl rfl hth hsz1 hone ?_
  refine wp_genA (fun y5 => RowL y5 (w.heap.size + 1) 25 [.slice none 0 0] ∧ y5.cell? ⟨y1.heap.size, 0, none⟩ = some (.slice (some ⟨go, 0, none⟩) PS.length co) ∧ Below w.heap.size w (y5.setCell ⟨w.heap.size + 1, 0, none⟩ (.slice (some ⟨go, 0, none⟩) PS.length co)) ∧ IsProtos (fun b => av b ∨ (w.heap.size ≤ b ∧ b < (y5.setCell ⟨w.heap.size + 1, 0, none⟩ (.slice (some ⟨go, 0, none⟩) PS.length co)).heap.size)) (y5.setCell ⟨w.heap.size + 1, 0, none⟩ (.slice (some ⟨go, 0, none⟩) PS.length co)) (.slice (some ⟨go, 0, none⟩) PS.length co) (slOf (PS.set i (⟨params, vararg, regs, code, consts, ups', kids', name, ⟨code.n, fun i => if i = 0 then 16777215 + x else 0⟩, upNames⟩ : PD)))) hG5.out ?_
  intro y5 hy5
  obtain ⟨hr5, dbo5, hF1, hF2⟩ := hy5
  have dr5 := hr5.cell 0 rfl
  have fr5 := hr5.frozen 0
  have hfin := (hr5.set 0 (.slice (some ⟨go, 0, none⟩) PS.length co)).cell 0 rfl
  replace hF2 : Hid _ := hF2
  clear hG5 hrg hth hone dbo hr5
  go_wp2_with fail
  refine bodyPost_ret (v := .agg #[.slice (some ⟨go, 0, none⟩) PS.length co]) (by simp [results, Try.results9, go_sem, hfin]) rfl ⟨_, rfl, hF1, hF2.out⟩
end Go.Proofs.Ytlkmohhkhcbiaaa

import Derived.Test.YtlkmohhkhcbiaaaDrQ
namespace Go.Proofs.Ytlkmohhkhcbiaaa
open Go.RowKit Go.Shelf
set_option linter.unusedVariables false
set_option linter.unusedSimpArgs false
attribute [local go_sem] Oper.semAt_some
set_option maxRecDepth 100000 in
set_option maxHeartbeats 12000000 in
theorem spoil5 (c : Sl Int) (P : Nat) (PS : List PD) (hP : P ≤ 3000) (hl : PS.length ≤ 10) (h0 : 0 < PS.length) (hSm : ∀ x ∈ PS, Sm x) (ha : tk c P 20 = 5) : SpoilA c P PS := by
  obtain ⟨i, hi⟩ : ∃ i : Nat, tk c (P + 1) PS.length = (i : Int) := Int.eq_ofNat_of_zero_le (tk_bd _ _ _).1
  have hin : i < PS.length := by have := (tk_bd c (P + 1) PS.length).2 (by omega); omega
  obtain ⟨x, hx⟩ : ∃ x, tk c (P + 2) 2 = x := ⟨_, rfl⟩
  have hx1 : 0 ≤ x := hx ▸ (tk_bd _ _ _).1
  have hx2 : x ≤ 1 := by have := (tk_bd c (P + 2) 2).2 (by omega); omega
  obtain ⟨q, hq⟩ : ∃ q, PS[i]'hin = q := ⟨_, rfl⟩
  have hqs : Sm q := hSm q (hq ▸ List.getElem_mem hin)
  obtain ⟨params, vararg, regs, code, consts, ups', kids', name, lines, upNames⟩ := q
  refine ⟨PS.set i (⟨params, vararg, regs, code, (consS (⟨3, 1 - x, rep 116 (1000 * x + x).toNat⟩ : VD) consts), ups', kids', name, lines, upNames⟩ : PD), fun av w v u hav hC hu => ?_⟩
  obtain ⟨ao, cap, rfl⟩ : ∃ ao cap, v = .slice ao c.n cap := IsArr.slice hC.ints
  obtain ⟨au, cu, rfl⟩ : ∃ a b, u = .slice a PS.length b := by obtain ⟨_, _, _, _, _, ⟨a, b, h, _⟩, _⟩ := hu; exact ⟨a, b, h⟩
  have hsm := hC.small
  have hB2 : Below w.heap.size w ((w.alloc (.cells #[.slice au PS.length cu] 25)).alloc (.cells #[.slice none 0 0] 25)) := by go_grown
  have hC2 : Hid _ := hC.later hB2
  have hu2 : Hid (IsProtos av ((w.alloc (.cells #[.slice au PS.length cu] 25)).alloc (.cells #[.slice none 0 0] 25)) (.slice au PS.length cu) (slOf PS)) := hu.keep fun b hb => hB2.block b (hav b hb)
  replace ha : Hid _ := ha
  replace hi : Hid (tk c (P + 1) PS.length = (i : Int)) := hi
  replace hx : Hid (tk c (P + 2) 2 = x) := hx
  have hR : Hid (RowL ((w.alloc (.cells #[.slice au PS.length cu] 25)).alloc (.cells #[.slice none 0 0] 25)) (w.heap.size + 1) 25 [.slice none 0 0]) := by
    have := RowL.new (w.alloc (.cells #[.slice au PS.length cu] 25)) [.slice none 0 0] 25
    rw [World.size_alloc] at this
    exact this
  have hs2 : ((w.alloc (.cells #[.slice au PS.length cu] 25)).alloc (.cells #[.slice none 0 0] 25)).heap.size = w.heap.size + 2 := by rw [World.size_alloc, World.size_alloc]
  clear hC hu hSm
  go_enter Try.func9, Try.ntmps9
  go_wp2_with fail
  refine (l1Take_to c _ P P 20 _ rfl hC2.out (by omega) (by omega) ha.out).mono ?_
  rintro e w' ⟨rfl, rfl⟩
  go_wp2_with fail
  refine (l1Take_to c _ (P + 1) (P + 1) PS.length _ (by omega) hC2.out (by omega) (by omega) hi.out).mono ?_
  rintro e w' ⟨rfl, rfl⟩
  go_wp2_with fail
  refine (l1Take_to c _ (P + 2) (P + 1 + 1) 2 _ (by omega) hC2.out (by omega) (by omega) hx.out).mono ?_
  rintro e w' ⟨rfl, rfl⟩
  go_wp2_with fail
  refine (l2Copy_in (av := av) PS _ _ (fun b hb => by rw [hs2]; have := hav b hb; omega) hu2.out (by omega)).mono ?_
  rintro e y1 ⟨vo, X, rfl, b1, row1, hXp, hX⟩
  have b1' : Below w.heap.size w y1 := hB2.trans (b1.mono hB2.size)
  have hs1 := b1.size
  obtain ⟨go, co, rfl, -, -⟩ := row1.form (by omega)
  have hgo := row1.lt go rfl
  rw [hs2] at hs1 hgo
  have hXl : X.length = PS.length := by rw [← hXp]; simp
  obtain ⟨xv, hxv⟩ : ∃ xv, X[i]? = some xv := ⟨X[i]'(by omega), List.getElem?_eq_getElem (by omega)⟩
  have hxp : xv.p = ⟨params, vararg, regs, code, consts, ups', kids', name, lines, upNames⟩ := by
    have h1 : (X.map PV.p)[i]? = some xv.p := by rw [List.getElem?_map, hxv]; rfl
    rw [hXp, List.getElem?_eq_getElem hin, hq] at h1
    simpa using h1.symm
  have hpx : IsProto av w xv.a3 xv.a4 xv.a5 xv.a8 xv.a9 xv.p := (hX xv (List.mem_of_getElem? hxv)).keep fun b hb => (hB2.block b (hav b hb)).symm
  replace hX : Hid (∀ x ∈ X, IsProto av w x.a3 x.a4 x.a5 x.a8 x.a9 x.p) := fun x' hx' => (hX x' hx').keep fun b hb => (hB2.block b (hav b hb)).symm
  replace hav : Hid (∀ b, av b → b < w.heap.size) := hav
  have hcx : ∀ j, j < 10 → (y1.alloc (.cells #[.slice (some ⟨go, 0, none⟩) PS.length co] 25)).cell? ⟨go, i * 10 + j, none⟩ = xv.cells[j]? := fun j hj => by
    rw [World.cell?_of_block (w := y1) (Below.heap_alloc _ _ _ hgo.2), row1.cellAt _ (by omega)]
    exact pvCells_get X i xv hxv j hj
  obtain ⟨pp, a3, a4, a5, a8, a9⟩ := xv
  obtain rfl : pp = ⟨params, vararg, regs, code, consts, ups', kids', name, lines, upNames⟩ := hxp
  obtain ⟨o3, c3, rfl⟩ : ∃ o c, a3 = .slice o code.n c := IsArr.slice hpx.code
  obtain ⟨o4, c4, rfl⟩ : ∃ o c, a4 = .slice o consts.n c := IsArr.slice hpx.consts.1
  obtain ⟨o5, c5, rfl⟩ : ∃ o c, a5 = .slice o ups'.n c := IsArr.slice hpx.ups
  obtain ⟨o8, c8, rfl⟩ : ∃ o c, a8 = .slice o lines.n c := IsArr.slice hpx.lines
  obtain ⟨o9, c9, rfl⟩ : ∃ o c, a9 = .slice o upNames.n c := IsArr.slice hpx.upNames.1
  have e0 := hcx 0 (by omega)
  have e1 := hcx 1 (by omega)
  have e2 := hcx 2 (by omega)
  have e3 := hcx 3 (by omega)
  have e4 := hcx 4 (by omega)
  have e5 := hcx 5 (by omega)
  have e6 := hcx 6 (by omega)
  have e7 := hcx 7 (by omega)
  have e8 := hcx 8 (by omega)
  have e9 := hcx 9 (by omega)
  simp only [PV.cells, List.getElem?_cons_zero, List.getElem?_cons_succ, Nat.add_zero] at e0 e1 e2 e3 e4 e5 e6 e7 e8 e9
  have hI0 : Hid (SpI w (.slice (some ⟨go, 0, none⟩) PS.length co) PS.length X y1.heap.size [.int .i64 params, .bool vararg, .int .i64 regs, .slice o3 code.n c3, .slice o4 consts.n c4, .slice o5 ups'.n c5, .int .i64 kids', .string name, .slice o8 lines.n c8, .slice o9 upNames.n c9] ((y1.alloc (.cells #[.slice (some ⟨go, 0, none⟩) PS.length co] 25)).alloc (.cells #[.int .i64 params, .bool vararg, .int .i64 regs, .slice o3 code.n c3, .slice o4 consts.n c4, .slice o5 ups'.n c5, .int .i64 kids', .string name, .slice o8 lines.n c8, .slice o9 upNames.n c9] 35))) := by
    have R2 := (RowL.new y1 [.slice (some ⟨go, 0, none⟩) PS.length co] 25).alloc (.cells #[.int .i64 params, .bool vararg, .int .i64 regs, .slice o3 code.n c3, .slice o4 consts.n c4, .slice o5 ups'.n c5, .int .i64 kids', .string name, .slice o8 lines.n c8, .slice o9 upNames.n c9] 35)
    have R3 := RowL.new (y1.alloc (.cells #[.slice (some ⟨go, 0, none⟩) PS.length co] 25)) [.int .i64 params, .bool vararg, .int .i64 regs, .slice o3 code.n c3, .slice o4 consts.n c4, .slice o5 ups'.n c5, .int .i64 kids', .string name, .slice o8 lines.n c8, .slice o9 upNames.n c9] 35
    rw [World.size_alloc] at R3
    have hb : Below y1.heap.size y1 ((y1.alloc (.cells #[.slice (some ⟨go, 0, none⟩) PS.length co] 25)).alloc (.cells #[.int .i64 params, .bool vararg, .int .i64 regs, .slice o3 code.n c3, .slice o4 consts.n c4, .slice o5 ups'.n c5, .int .i64 kids', .string name, .slice o8 lines.n c8, .slice o9 upNames.n c9] 35)) := by go_grown
    exact ⟨(hR.out.call b1).call hb, R2, R3, own_below (own_mono row1 (by rw [hs2]; omega)) hb, b1'.trans (hb.mono (by omega)), by omega, fun k hk => by simp [Value.ownBlock] at hk; omega⟩
  replace hpx : Hid _ := hpx
  clear hcx row1 b1 hR hxv hq hC2 hu2 ha hi hx
  go_wp2_with fail
  refine (specPack_in 23 0 0 0 (-131072) _ (by omega) (by omega) (by omega) (by omega) (by omega) (by omega) (by omega) (by omega) (by decide)).mono ?_
  rintro e y2 ⟨rfl, b2⟩
  have hs3 : y1.heap.size + 1 < y2.heap.size := by
    have := b2.size
    rw [World.size_alloc, World.size_alloc] at this
    omega
  go_wp2_with (refine wp_gen 51 rfl (fun y => SpI w (.slice (some ⟨go, 0, none⟩) PS.length co) PS.length X y1.heap.size [.int .i64 params, .bool vararg, .int .i64 regs, .slice o3 code.n c3, .slice o4 consts.n c4, .slice o5 ups'.n c5, .int .i64 kids', .string name, .slice o8 lines.n c8, .slice o9 upNames.n c9] y ∧ RowL y y2.heap.size 51 [.int .u32 23] ∧ RowL y (y2.heap.size + 1) 35 [.int .i64 0, .bool false, .int .i64 1, .slice (some ⟨y2.heap.size, 0, none⟩) 1 1, .slice none 0 0, .slice none 0 0, .int .i64 0, .string ⟨#[]⟩, .slice none 0 0, .slice none 0 0] ∧ y2.heap.size + 2 ≤ y.heap.size) ?hG ?_)
  case hG =>
    have R3 := RowL.new (y2.alloc (.cells #[.int .u32 23] 51)) [.int .i64 0, .bool false, .int .i64 1, .slice (some ⟨y2.heap.size, 0, none⟩) 1 1, .slice none 0 0, .slice none 0 0, .int .i64 0, .string ⟨#[]⟩, .slice none 0 0, .slice none 0 0] 35
    rw [World.size_alloc] at R3
    refine ⟨((hI0.out.later b2).alloc _).alloc _, (RowL.new y2 [.int .u32 23] 51).alloc _, R3, by rw [World.size_alloc, World.size_alloc]; omega⟩
  intro y hy
  obtain ⟨hI, hlf1, hlf2, hys⟩ := hy
  replace hI : Hid (SpI w (.slice (some ⟨go, 0, none⟩) PS.length co) PS.length X y1.heap.size [.int .i64 params, .bool vararg, .int .i64 regs, .slice o3 code.n c3, .slice o4 consts.n c4, .slice o5 ups'.n c5, .int .i64 kids', .string name, .slice o8 lines.n c8, .slice o9 upNames.n c9] y) := hI
  replace hlf1 : Hid (RowL y y2.heap.size 51 [.int .u32 23]) := hlf1
  replace hlf2 : Hid (RowL y (y2.heap.size + 1) 35 [.int .i64 0, .bool false, .int .i64 1, .slice (some ⟨y2.heap.size, 0, none⟩) 1 1, .slice none 0 0, .slice none 0 0, .int .i64 0, .string ⟨#[]⟩, .slice none 0 0, .slice none 0 0]) := hlf2
  have hW := hI.out.bel
  clear e0 e1 e2 e3 e4 e5 e6 e7 e8 e9 hI0 b2
  have hbn : consts.n ≤ 1000 := hqs.k1
  have hw1 : IntKind.i64.wrap (1 - x) = 1 - x := by simp [IntKind.wrap, IntKind.bits, IntKind.signed]; omega
  have hw2 : IntKind.i64.wrap (1000 * x) = 1000 * x := by simp [IntKind.wrap, IntKind.bits, IntKind.signed]; omega
  have hw3 : IntKind.i64.wrap (1000 * x + x) = 1000 * x + x := by simp [IntKind.wrap, IntKind.bits, IntKind.signed]; omega
  have hL := l1Long_in 116 (1000 * x + x).toNat (by omega) y.drew
  rw [Int.toNat_of_nonneg (by omega)] at hL
  replace hL : Hid _ := hL
  obtain ⟨i0, hi, hz0, hz1, hz2⟩ := info_parts (show (Try.prog.info? 57).map (fun i => (i.zero, i.size, i.bytes)) = some (some (.agg #[.int .i64 0, .int .i64 0, .string ⟨#[]⟩]), 3, 32) by kernel_rfl)
  have hI2 : SpI w (.slice (some ⟨go, 0, none⟩) PS.length co) PS.length X y1.heap.size [.int .i64 params, .bool vararg, .int .i64 regs, .slice o3 code.n c3, .slice o4 consts.n c4, .slice o5 ups'.n c5, .int .i64 kids', .string name, .slice o8 lines.n c8, .slice o9 upNames.n c9] (y.drew.alloc (.cells #[.int .i64 3, .int .i64 (1 - x), .string (rep 116 (1000 * x + x).toNat)] 57)) := (hI.out.later (Below.refl _ _).drew).alloc _
  have hys2 : (y.drew.alloc (.cells #[.int .i64 3, .int .i64 (1 - x), .string (rep 116 (1000 * x + x).toNat)] 57)).heap.size = y.heap.size + 1 := World.size_alloc _ _
  have hlit : (y.drew.alloc (.cells #[.int .i64 3, .int .i64 (1 - x), .string (rep 116 (1000 * x + x).toNat)] 57)).ownsRow y.heap.size 57 3 (.slice (some ⟨y.heap.size, 0, none⟩) 1 1) 1 [.int .i64 3, .int .i64 (1 - x), .string (rep 116 (1000 * x + x).toNat)] := World.ownsRow_lit y.drew #[.int .i64 3, .int .i64 (1 - x), .string (rep 116 (1000 * x + x).toNat)] 1 (Nat.le_refl _) (by simp only [maxLen]; omega) rfl
  have hsrc : IsArr av (y.drew.alloc (.cells #[.int .i64 3, .int .i64 (1 - x), .string (rep 116 (1000 * x + x).toNat)] 57)) (.slice o4 consts.n c4) 3 consts.n (vC consts.f) := IsArr.keep hpx.out.consts.1 fun b hb => hI2.bel.block b (hav.out b hb)
  have hone : ∀ i j, (vC consts.f i j).oneCell' = true := fun i j => by show (match j with | 0 => _ | 1 => _ | _ => _ : Value).oneCell' = true; match j with | 0 => rfl | 1 => rfl | (_ + 2) => rfl
  have h63 : 1 + consts.n ≤ maxLen := by simp only [maxLen]; omega
  have hbb : (1 + consts.n) * 32 ≤ 140737488355328 := by omega
  have hba : y.heap.size ≤ (y.drew.alloc (.cells #[.int .i64 3, .int .i64 (1 - x), .string (rep 116 (1000 * x + x).toNat)] 57)).heap.size := by rw [hys2]; omega
  replace hI2 : Hid (SpI w (.slice (some ⟨go, 0, none⟩) PS.length co) PS.length X y1.heap.size [.int .i64 params, .bool vararg, .int .i64 regs, .slice o3 code.n c3, .slice o4 consts.n c4, .slice o5 ups'.n c5, .int .i64 kids', .string name, .slice o8 lines.n c8, .slice o9 upNames.n c9] (y.drew.alloc (.cells #[.int .i64 3, .int .i64 (1 - x), .string (rep 116 (1000 * x + x).toNat)] 57))) := hI2
  replace hlit : Hid ((y.drew.alloc (.cells #[.int .i64 3, .int .i64 (1 - x), .string (rep 116 (1000 * x + x).toNat)] 57)).ownsRow y.heap.size 57 3 (.slice (some ⟨y.heap.size, 0, none⟩) 1 1) 1 [.int .i64 3, .int .i64 (1 - x), .string (rep 116 (1000 * x + x).toNat)]) := hlit
  replace hsrc : Hid (IsArr av (y.drew.alloc (.cells #[.int .i64 3, .int .i64 (1 - x), .string (rep 116 (1000 * x + x).toNat)] 57)) (.slice o4 consts.n c4) 3 consts.n (vC consts.f)) := hsrc
  replace hone : Hid _ := hone
  replace hys2 : Hid _ := hys2
  replace hba : Hid ((y.drew.alloc (.cells #[.int .i64 3, .int .i64 (1 - x), .string (rep 116 (1000 * x + x).toNat)] 57)).heap.size ≥ y.heap.size) := hba
  go_wp2_with fail
  refine wp_region_held_drew (S := fun _ => True) (by kernel_rfl) trivial (fun hH => ?_)
  refine take_dst 0 83 (.int .i64 x) rfl (by kernel_rfl) (by kernel_rfl) (by kernel_rfl) (fun _ _ _ h => h) (Or.inl ⟨by rfl, by intro wv hSv; (try dsimp only at hSv); go_simp⟩) trivial rfl ?_
  try simp only [Act.put, List.setIfInBounds_toArray, List.set_cons_zero, List.set_cons_succ]
  refine take_dst 1 84 (.int .i64 (1 - x)) rfl (by kernel_rfl) (by kernel_rfl) (by kernel_rfl) (fun _ _ _ h => h) (Or.inl ⟨by rfl, by intro wv hSv; (try dsimp only at hSv); go_simp⟩) trivial rfl ?_
  try simp only [Act.put, List.setIfInBounds_toArray, List.set_cons_zero, List.set_cons_succ]
  refine take_dst 2 85 (.int .i64 x) rfl (by kernel_rfl) (by kernel_rfl) (by kernel_rfl) (fun _ _ _ h => h) (Or.inl ⟨by rfl, by intro wv hSv; (try dsimp only at hSv); go_simp⟩) trivial rfl ?_
  try simp only [Act.put, List.setIfInBounds_toArray, List.set_cons_zero, List.set_cons_succ]
  refine take_dst 3 86 (.int .i64 (1000 * x)) rfl (by kernel_rfl) (by kernel_rfl) (by kernel_rfl) (fun _ _ _ h => h) (Or.inl ⟨by rfl, by intro wv hSv; (try dsimp only at hSv); go_simp⟩) trivial rfl ?_
  try simp only [Act.put, List.setIfInBounds_toArray, List.set_cons_zero, List.set_cons_succ]
  refine take_dst 4 87 (.int .i64 x) rfl (by kernel_rfl) (by kernel_rfl) (by kernel_rfl) (fun _ _ _ h => h) (Or.inl ⟨by rfl, by intro wv hSv; (try dsimp only at hSv); go_simp⟩) trivial rfl ?_
  try simp only [Act.put, List.setIfInBounds_toArray, List.set_cons_zero, List.set_cons_succ]
  refine take_dst 5 88 (.int .i64 (1000 * x + x)) rfl (by kernel_rfl) (by kernel_rfl) (by kernel_rfl) (fun _ _ _ h => h) (Or.inl ⟨by rfl, by intro wv hSv; (try dsimp only at hSv); go_simp⟩) trivial rfl ?_
  try simp only [Act.put, List.setIfInBounds_toArray, List.set_cons_zero, List.set_cons_succ]
  refine take_dst 9 92 (.pointer (some ⟨y1.heap.size + 1, 4, none⟩)) rfl (by kernel_rfl) (by kernel_rfl) (by kernel_rfl) (fun _ _ _ h => h) (Or.inl ⟨by rfl, by intro wv hSv; (try dsimp only at hSv); go_simp⟩) trivial rfl ?_
  try simp only [Act.put, List.setIfInBounds_toArray, List.set_cons_zero, List.set_cons_succ]
  refine wpAnyH_ready (rs := [6, 10]) (by kernel_rfl) (by simp) ?_
  refine AllReadyH.cons rfl (fun KK hKK => ?_) (AllReadyH.cons rfl (fun KK hKK => ?_) AllReadyH.nil)
  · go_simp
    refine Calls.mono hL.out ?_
    rintro e w' ⟨rfl, rfl⟩
    go_wp2_with fail
    refine hKK.out _ _ trivial (fun _ => ?_)
    clear hKK KK
    try simp only [Act.put, List.setIfInBounds_toArray, List.set_cons_zero, List.set_cons_succ]
    refine take_dst 7 90 (.agg #[.int .i64 3, .int .i64 (1 - x), .string (rep 116 (1000 * x + x).toNat)]) rfl (by kernel_rfl) (by kernel_rfl) (by kernel_rfl) (fun _ _ _ h => h) (Or.inl ⟨by rfl, by intro wv hSv; (try dsimp only at hSv); go_simp⟩) trivial rfl ?_
    try simp only [Act.put, List.setIfInBounds_toArray, List.set_cons_zero, List.set_cons_succ]
    refine wpAnyH_ready (rs := [8, 10]) (by kernel_rfl) (by simp) ?_
    refine AllReadyH.cons rfl (fun KK hKK => ?_) (AllReadyH.cons rfl (fun KK hKK => ?_) AllReadyH.nil)
    · go_simp
      refine hKK.out _ _ trivial (fun _ => ?_)
      clear hKK KK
      try simp only [Act.put, List.setIfInBounds_toArray, List.set_cons_zero, List.set_cons_succ]
      refine wpAnyH_ready (rs := [10]) (by kernel_rfl) (by simp) ?_
      refine AllReadyH.cons rfl (fun KK hKK => ?_) AllReadyH.nil
      have q := (hI.out.alloc (.cells #[.int .i64 3, .int .i64 (1 - x), .string (rep 116 (1000 * x + x).toNat)] 57)).bq.cell 4 rfl
      go_simp
      clear q
      refine hKK.out _ _ trivial (fun _ => ?_)
      clear hKK KK
      try simp only [Act.put, List.setIfInBounds_toArray, List.set_cons_zero, List.set_cons_succ]
      refine wpAnyH_ready (rs := [11]) (by kernel_rfl) (by simp) ?_
      refine AllReadyH.cons rfl (fun KK hKK => ?_) AllReadyH.nil
      refine step_app_list rfl (.tmp 91) (.tmp 93) 30 rfl y.heap.size 57 i0 (.agg #[.int .i64 0, .int .i64 0, .string ⟨#[]⟩]) 3 32 Try.underlying30 hi hz0 hz1 hz2 rfl (by decide) (.slice (some ⟨y.heap.size, 0, none⟩) 1 1) 1 [.int .i64 3, .int .i64 (1 - x), .string (rep 116 (1000 * x + x).toNat)] rfl hlit.out (.slice o4 consts.n c4) consts.n (vC consts.f) rfl hsrc.out hone.out h63 hbb hba.out ?_
      intro v' w' hown hg
      obtain ⟨g, cp, rfl, -, -⟩ := hown.form (by omega)
      have hgl := hown.lt g rfl
      have hJ : SpI w (.slice (some ⟨go, 0, none⟩) PS.length co) PS.length X y1.heap.size [.int .i64 params, .bool vararg, .int .i64 regs, .slice o3 code.n c3, .slice o4 consts.n c4, .slice o5 ups'.n c5, .int .i64 kids', .string name, .slice o8 lines.n c8, .slice o9 upNames.n c9] w' := hI2.out.grown hg fun k hk => by simp [Value.ownBlock] at hk; omega
      have p0 := hJ.bq.cell 4 rfl
      have pf0 := hJ.bq.frozen 4
      replace hown : Hid (w'.ownsRow y.heap.size 57 3 (.slice (some ⟨g, 0, none⟩) (1 + consts.n) cp) (1 + consts.n) ([.int .i64 3, .int .i64 (1 - x), .string (rep 116 (1000 * x + x).toNat)] ++ flatC (vC consts.f) 3 consts.n)) := hown
      clear hg
      refine hKK.out _ _ trivial (fun _ => ?_)
      clear hKK KK
      try simp only [Act.put, List.setIfInBounds_toArray, List.set_cons_zero, List.set_cons_succ]
      refine take_dst 12 95 (.pointer (some ⟨y1.heap.size + 1, 4, none⟩)) rfl (by kernel_rfl) (by kernel_rfl) (by kernel_rfl) (fun _ _ _ h => h) (Or.inl ⟨by rfl, by intro wv hSv; (try dsimp only at hSv); go_simp⟩) trivial rfl ?_
      try simp only [Act.put, List.setIfInBounds_toArray, List.set_cons_zero, List.set_cons_succ]
      refine wpAnyH_ready (rs := [13]) (by kernel_rfl) (by simp) ?_
      refine AllReadyH.cons rfl (fun KK hKK => ?_) AllReadyH.nil
      go_simp
      refine hKK.out _ _ trivial (fun _ => ?_)
      clear hKK KK
      try simp only [Act.put, List.setIfInBounds_toArray, List.set_cons_zero, List.set_cons_succ]
      refine wpAnyH_done (by kernel_rfl) ?_ _
      have hWn := (hJ.setQ 4 (.slice (some ⟨g, 0, none⟩) (1 + consts.n) cp)).bel
      go_wp2_with (refine wp_gen 182 rfl (fun yz => SpI w (.slice (some ⟨go, 0, none⟩) PS.length co) PS.length X y1.heap.size (PV.cells ⟨(⟨params, vararg, regs, code, (consS (⟨3, 1 - x, rep 116 (1000 * x + x).toNat⟩ : VD) consts), ups', kids', name, lines, upNames⟩ : PD), (.slice o3 code.n c3), ((.slice (some ⟨g, 0, none⟩) (1 + consts.n) cp)), (.slice o5 ups'.n c5), (.slice o8 lines.n c8), (.slice o9 upNames.n c9)⟩) yz ∧ IsProto (fun b => av b ∨ (y1.heap.size + 1 < b ∧ b < yz.heap.size)) yz (.slice o3 code.n c3) ((.slice (some ⟨g, 0, none⟩) (1 + consts.n) cp)) (.slice o5 ups'.n c5) (.slice o8 lines.n c8) (.slice o9 upNames.n c9) (⟨params, vararg, regs, code, (consS (⟨3, 1 - x, rep 116 (1000 * x + x).toNat⟩ : VD) consts), ups', kids', name, lines, upNames⟩ : PD)) ?hH2 ?_)
      case hH2 => exact ⟨(hJ.setQ 4 (.slice (some ⟨g, 0, none⟩) (1 + consts.n) cp)), ⟨IsArr.mono (IsArr.keep hpx.out.code fun b hb => hWn.block b (hav.out b hb)) fun b hb => .inl hb, ⟨IsArr.mono (IsArr.keep (cons_arr (xs := [.int .i64 3, .int .i64 (1 - x), .string (rep 116 (1000 * x + x).toNat)]) (C := vC consts.f) (lo := y.heap.size) (e := 57) (C' := vC (consS (⟨3, 1 - x, rep 116 (1000 * x + x).toNat⟩ : VD) consts).f) (by omega) hown.out rfl (C0 := fun j => vC (fun _ => (⟨3, 1 - x, rep 116 (1000 * x + x).toNat⟩ : VD)) 0 j) (fun j hj => by match j, hj with | 0, _ => rfl | 1, _ => rfl | 2, _ => rfl) (fun j hj => by match j, hj with | 0, _ => exact ⟨rfl, fun i => rfl⟩ | 1, _ => exact ⟨rfl, fun i => rfl⟩ | 2, _ => exact ⟨rfl, fun i => rfl⟩)) fun b hb => by (have hb' : b ≠ y1.heap.size + 1 := by omega); rw [Below.heap_setCell _ _ _ _ hb']) fun b hb => .inr ⟨by omega, by simp only [World.size_setCell]; omega⟩, fun i hi => by cases i with | zero => exact (by show (rep 116 (1000 * x + x).toNat).size ≤ _; rw [rep_size]; omega) | succ i => exact hpx.out.consts.2 i (by have : i + 1 < 1 + consts.n := hi; show i < consts.n; omega)⟩, IsArr.mono (IsArr.keep hpx.out.ups fun b hb => hWn.block b (hav.out b hb)) fun b hb => .inl hb, IsArr.mono (IsArr.keep hpx.out.lines fun b hb => hWn.block b (hav.out b hb)) fun b hb => .inl hb, ⟨IsArr.mono (IsArr.keep hpx.out.upNames.1 fun b hb => hWn.block b (hav.out b hb)) fun b hb => .inl hb, hpx.out.upNames.2⟩, hpx.out.name⟩⟩
      intro yz hyz
      obtain ⟨hI5, hx5⟩ := hyz
      have dbo := hI5.bo.cell 0 rfl
      have hrg : yz.rangeAt (y1.heap.size + 1) 0 [.int .i64 params, .bool vararg, .int .i64 regs, .slice o3 code.n c3, (.slice (some ⟨g, 0, none⟩) (1 + consts.n) cp), .slice o5 ups'.n c5, .int .i64 kids', .string name, .slice o8 lines.n c8, .slice o9 upNames.n c9] := fun j v hv => by rw [Nat.zero_add]; exact hI5.bq.cell j hv
      have hth : yz.there go (i * 10) 10 := fun j hj => by
        have := hI5.row.cellAt (i * 10 + j) (by omega)
        rw [List.getElem?_eq_getElem (by rw [pvCells_len]; omega)] at this
        exact ⟨by rw [this]; rfl, hI5.row.frozenAt _⟩
      have hG5 : RowL (yz.setCells go (i * 10) [.int .i64 params, .bool vararg, .int .i64 regs, .slice o3 code.n c3, (.slice (some ⟨g, 0, none⟩) (1 + consts.n) cp), .slice o5 ups'.n c5, .int .i64 kids', .string name, .slice o8 lines.n c8, .slice o9 upNames.n c9]) (w.heap.size + 1) 25 [.slice none 0 0] ∧ (yz.setCells go (i * 10) [.int .i64 params, .bool vararg, .int .i64 regs, .slice o3 code.n c3, (.slice (some ⟨g, 0, none⟩) (1 + consts.n) cp), .slice o5 ups'.n c5, .int .i64 kids', .string name, .slice o8 lines.n c8, .slice o9 upNames.n c9]).cell? ⟨y1.heap.size, 0, none⟩ = some (.slice (some ⟨go, 0, none⟩) PS.length co) ∧ Below w.heap.size w ((yz.setCells go (i * 10) [.int .i64 params, .bool vararg, .int .i64 regs, .slice o3 code.n c3, (.slice (some ⟨g, 0, none⟩) (1 + consts.n) cp), .slice o5 ups'.n c5, .int .i64 kids', .string name, .slice o8 lines.n c8, .slice o9 upNames.n c9]).setCell ⟨w.heap.size + 1, 0, none⟩ (.slice (some ⟨go, 0, none⟩) PS.length co)) ∧ IsProtos (fun b => av b ∨ (w.heap.size ≤ b ∧ b < ((yz.setCells go (i * 10) [.int .i64 params, .bool vararg, .int .i64 regs, .slice o3 code.n c3, (.slice (some ⟨g, 0, none⟩) (1 + consts.n) cp), .slice o5 ups'.n c5, .int .i64 kids', .string name, .slice o8 lines.n c8, .slice o9 upNames.n c9]).setCell ⟨w.heap.size + 1, 0, none⟩ (.slice (some ⟨go, 0, none⟩) PS.length co)).heap.size)) ((yz.setCells go (i * 10) [.int .i64 params, .bool vararg, .int .i64 regs, .slice o3 code.n c3, (.slice (some ⟨g, 0, none⟩) (1 + consts.n) cp), .slice o5 ups'.n c5, .int .i64 kids', .string name, .slice o8 lines.n c8, .slice o9 upNames.n c9]).setCell ⟨w.heap.size + 1, 0, none⟩ (.slice (some ⟨go, 0, none⟩) PS.length co)) (.slice (some ⟨go, 0, none⟩) PS.length co) (slOf (PS.set i (⟨params, vararg, regs, code, (consS (⟨3, 1 - x, rep 116 (1000 * x + x).toNat⟩ : VD) consts), ups', kids', name, lines, upNames⟩ : PD))) := by
        have hF := hI5.fin hav.out (x := ⟨(⟨params, vararg, regs, code, (consS (⟨3, 1 - x, rep 116 (1000 * x + x).toNat⟩ : VD) consts), ups', kids', name, lines, upNames⟩ : PD), (.slice o3 code.n c3), ((.slice (some ⟨g, 0, none⟩) (1 + consts.n) cp)), (.slice o5 ups'.n c5), (.slice o8 lines.n c8), (.slice o9 upNames.n c9)⟩) hXl hin hX.out hx5
        rw [setCs_eq, hXp] at hF
        exact ⟨World.rowIs.of_block hI5.br (by rw [← setCs_eq]; exact setCs_heap go [.int .i64 params, .bool vararg, .int .i64 regs, .slice o3 code.n c3, (.slice (some ⟨g, 0, none⟩) (1 + consts.n) cp), .slice o5 ups'.n c5, .int .i64 kids', .string name, .slice o8 lines.n c8, .slice o9 upNames.n c9] yz (i * 10) _ (by omega)), (World.cell?_of_block (w := yz) (by rw [← setCs_eq]; exact setCs_heap go [.int .i64 params, .bool vararg, .int .i64 regs, .slice o3 code.n c3, (.slice (some ⟨g, 0, none⟩) (1 + consts.n) cp), .slice o5 ups'.n c5, .int .i64 kids', .string name, .slice o8 lines.n c8, .slice o9 upNames.n c9] yz (i * 10) _ (by show y1.heap.size ≠ go; omega))).trans dbo, hF.1, hF.2⟩
      replace hG5 : Hid _ := hG5
      have hone : (#[.int .i64 params, .bool vararg, .int .i64 regs, .slice o3 code.n c3, (.slice (some ⟨g, 0, none⟩) (1 + consts.n) cp), .slice o5 ups'.n c5, .int .i64 kids', .string name, .slice o8 lines.n c8, .slice o9 upNames.n c9] : Array Value).all (·.oneCell') = true := all_oneCell_toArray (cs := [.int .i64 params, .bool vararg, .int .i64 regs, .slice o3 code.n c3, (.slice (some ⟨g, 0, none⟩) (1 + consts.n) cp), .slice o5 ups'.n c5, .int .i64 kids', .string name, .slice o8 lines.n c8, .slice o9 upNames.n c9]) (by intro v hv; simp only [List.mem_cons, List.not_mem_nil, or_false] at hv; rcases hv with rfl | rfl | rfl | rfl | rfl | rfl | rfl | rfl | rfl | rfl <;> rfl)
      have hsz1 : (Try.prog.info? 35).map (·.size) = some 10 := by kernel_rfl
      clear hI5 hx5
      go_wp2_with (refine wp_gen 184 rfl (fun y' => y' = yz) rfl ?_)
      intro y' hy'
      subst hy'
      refine wpList_load_mid rfl 35 (.tmp 11) rfl (y1.heap.size + 1) 0 rfl [.int .i64 params, .bool vararg, .int .i64 regs, .slice o3 code.n c3, (.slice (some ⟨g, 0, none⟩) (1 + consts.n) cp), .slice o5 ups'.n c5, .int .i64 kids', .string name, .slice o8 lines.n c8, .slice o9 upNames.n c9] _ hrg Try.underlying35 rfl hsz1 ?_
      go_wp2_with (refine wp_genS 35 (.tmp 185) (.tmp 184) rfl (fun y'' => y'' = y') rfl ?_)
      intro y'' hy''
      subst hy''
      refine wpList_store_mid rfl 35 (.tmp 185) (.tmp 184) rfl go (i * 10) #[.int .i64 params, .bool vararg, .int .i64 regs, .slice o3 code.n c3, (.slice (some ⟨g, 0, none⟩) (1 + consts.n) cp), .slice o5 ups'.n c5, .int .i64 kids', .string name, .slice o8 lines.n c8, .slice o9 upNames.n c9] rfl rfl hth hsz1 hone ?_
      refine wp_genA (fun y5 => RowL y5 (w.heap.size + 1) 25 [.slice none 0 0] ∧ y5.cell? ⟨y1.heap.size, 0, none⟩ = some (.slice (some ⟨go, 0, none⟩) PS.length co) ∧ Below w.heap.size w (y5.setCell ⟨w.heap.size + 1, 0, none⟩ (.slice (some ⟨go, 0, none⟩) PS.length co)) ∧ IsProtos (fun b => av b ∨ (w.heap.size ≤ b ∧ b < (y5.setCell ⟨w.heap.size + 1, 0, none⟩ (.slice (some ⟨go, 0, none⟩) PS.length co)).heap.size)) (y5.setCell ⟨w.heap.size + 1, 0, none⟩ (.slice (some ⟨go, 0, none⟩) PS.length co)) (.slice (some ⟨go, 0, none⟩) PS.length co) (slOf (PS.set i (⟨params, vararg, regs, code, (consS (⟨3, 1 - x, rep 116 (1000 * x + x).toNat⟩ : VD) consts), ups', kids', name, lines, upNames⟩ : PD)))) hG5.out ?_
      intro y5 hy5
      obtain ⟨hr5, dbo5, hF1, hF2⟩ := hy5
      have dr5 := hr5.cell 0 rfl
      have fr5 := hr5.frozen 0
      have hfin := (hr5.set 0 (.slice (some ⟨go, 0, none⟩) PS.length co)).cell 0 rfl
      replace hF2 : Hid _ := hF2
      clear hG5 hrg hth hone dbo hr5
      go_wp2_with fail
      refine bodyPost_ret (v := .agg #[.slice (some ⟨go, 0, none⟩) PS.length co]) (by simp [results, Try.results9, go_sem, hfin]) rfl ⟨_, rfl, hF1, hF2.out⟩
    · have q := hI.out.bq.cell 4 rfl
      go_simp
      clear q
      refine hKK.out _ _ trivial (fun _ => ?_)
      clear hKK KK
      try simp only [Act.put, List.setIfInBounds_toArray, List.set_cons_zero, List.set_cons_succ]
      refine wpAnyH_ready (rs := [8]) (by kernel_rfl) (by simp) ?_
      refine AllReadyH.cons rfl (fun KK hKK => ?_) AllReadyH.nil
      go_simp
      refine hKK.out _ _ trivial (fun _ => ?_)
      clear hKK KK
      try simp only [Act.put, List.setIfInBounds_toArray, List.set_cons_zero, List.set_cons_succ]
      refine wpAnyH_ready (rs := [11]) (by kernel_rfl) (by simp) ?_
      refine AllReadyH.cons rfl (fun KK hKK => ?_) AllReadyH.nil
      refine step_app_list rfl (.tmp 91) (.tmp 93) 30 rfl y.heap.size 57 i0 (.agg #[.int .i64 0, .int .i64 0, .string ⟨#[]⟩]) 3 32 Try.underlying30 hi hz0 hz1 hz2 rfl (by decide) (.slice (some ⟨y.heap.size, 0, none⟩) 1 1) 1 [.int .i64 3, .int .i64 (1 - x), .string (rep 116 (1000 * x + x).toNat)] rfl hlit.out (.slice o4 consts.n c4) consts.n (vC consts.f) rfl hsrc.out hone.out h63 hbb hba.out ?_
      intro v' w' hown hg
      obtain ⟨g, cp, rfl, -, -⟩ := hown.form (by omega)
      have hgl := hown.lt g rfl
      have hJ : SpI w (.slice (some ⟨go, 0, none⟩) PS.length co) PS.length X y1.heap.size [.int .i64 params, .bool vararg, .int .i64 regs, .slice o3 code.n c3, .slice o4 consts.n c4, .slice o5 ups'.n c5, .int .i64 kids', .string name, .slice o8 lines.n c8, .slice o9 upNames.n c9] w' := hI2.out.grown hg fun k hk => by simp [Value.ownBlock] at hk; omega
      have p0 := hJ.bq.cell 4 rfl
      have pf0 := hJ.bq.frozen 4
      replace hown : Hid (w'.ownsRow y.heap.size 57 3 (.slice (some ⟨g, 0, none⟩) (1 + consts.n) cp) (1 + consts.n) ([.int .i64 3, .int .i64 (1 - x), .string (rep 116 (1000 * x + x).toNat)] ++ flatC (vC consts.f) 3 consts.n)) := hown
      clear hg
      refine hKK.out _ _ trivial (fun _ => ?_)
      clear hKK KK
      try simp only [Act.put, List.setIfInBounds_toArray, List.set_cons_zero, List.set_cons_succ]
      refine take_dst 12 95 (.pointer (some ⟨y1.heap.size + 1, 4, none⟩)) rfl (by kernel_rfl) (by kernel_rfl) (by kernel_rfl) (fun _ _ _ h => h) (Or.inl ⟨by rfl, by intro wv hSv; (try dsimp only at hSv); go_simp⟩) trivial rfl ?_
      try simp only [Act.put, List.setIfInBounds_toArray, List.set_cons_zero, List.set_cons_succ]
      refine wpAnyH_ready (rs := [13]) (by kernel_rfl) (by simp) ?_
      refine AllReadyH.cons rfl (fun KK hKK => ?_) AllReadyH.nil
      go_simp
      refine hKK.out _ _ trivial (fun _ => ?_)
      clear hKK KK
      try simp only [Act.put, List.setIfInBounds_toArray, List.set_cons_zero, List.set_cons_succ]
      refine wpAnyH_done (by kernel_rfl) ?_ _
      have hWn := (hJ.setQ 4 (.slice (some ⟨g, 0, none⟩) (1 + consts.n) cp)).bel
      go_wp2_with (refine wp_gen 182 rfl (fun yz => SpI w (.slice (some ⟨go, 0, none⟩) PS.length co) PS.length X y1.heap.size (PV.cells ⟨(⟨params, vararg, regs, code, (consS (⟨3, 1 - x, rep 116 (1000 * x + x).toNat⟩ : VD) consts), ups', kids', name, lines, upNames⟩ : PD), (.slice o3 code.n c3), ((.slice (some ⟨g, 0, none⟩) (1 + consts.n) cp)), (.slice o5 ups'.n c5), (.slice o8 lines.n c8), (.slice o9 upNames.n c9)⟩) yz ∧ IsProto (fun b => av b ∨ (y1.heap.size + 1 < b ∧ b < yz.heap.size)) yz (.slice o3 code.n c3) ((.slice (some ⟨g, 0, none⟩) (1 + consts.n) cp)) (.slice o5 ups'.n c5) (.slice o8 lines.n c8) (.slice o9 upNames.n c9) (⟨params, vararg, regs, code, (consS (⟨3, 1 - x, rep 116 (1000 * x + x).toNat⟩ : VD) consts), ups', kids', name, lines, upNames⟩ : PD)) ?hH3 ?_)
      case hH3 => exact ⟨(hJ.setQ 4 (.slice (some ⟨g, 0, none⟩) (1 + consts.n) cp)), ⟨IsArr.mono (IsArr.keep hpx.out.code fun b hb => hWn.block b (hav.out b hb)) fun b hb => .inl hb, ⟨IsArr.mono (IsArr.keep (cons_arr (xs := [.int .i64 3, .int .i64 (1 - x), .string (rep 116 (1000 * x + x).toNat)]) (C := vC consts.f) (lo := y.heap.size) (e := 57) (C' := vC (consS (⟨3, 1 - x, rep 116 (1000 * x + x).toNat⟩ : VD) consts).f) (by omega) hown.out rfl (C0 := fun j => vC (fun _ => (⟨3, 1 - x, rep 116 (1000 * x + x).toNat⟩ : VD)) 0 j) (fun j hj => by match j, hj with | 0, _ => rfl | 1, _ => rfl | 2, _ => rfl) (fun j hj => by match j, hj with | 0, _ => exact ⟨rfl, fun i => rfl⟩ | 1, _ => exact ⟨rfl, fun i => rfl⟩ | 2, _ => exact ⟨rfl, fun i => rfl⟩)) fun b hb => by (have hb' : b ≠ y1.heap.size + 1 := by omega); rw [Below.heap_setCell _ _ _ _ hb']) fun b hb => .inr ⟨by omega, by simp only [World.size_setCell]; omega⟩, fun i hi => by cases i with | zero => exact (by show (rep 116 (1000 * x + x).toNat).size ≤ _; rw [rep_size]; omega) | succ i => exact hpx.out.consts.2 i (by have : i + 1 < 1 + consts.n := hi; show i < consts.n; omega)⟩, IsArr.mono (IsArr.keep hpx.out.ups fun b hb => hWn.block b (hav.out b hb)) fun b hb => .inl hb, IsArr.mono (IsArr.keep hpx.out.lines fun b hb => hWn.block b (hav.out b hb)) fun b hb => .inl hb, ⟨IsArr.mono (IsArr.keep hpx.out.upNames.1 fun b hb => hWn.block b (hav.out b hb)) fun b hb => .inl hb, hpx.out.upNames.2⟩, hpx.out.name⟩⟩
      intro yz hyz
      obtain ⟨hI5, hx5⟩ := hyz
      have dbo := hI5.bo.cell 0 rfl
      have hrg : yz.rangeAt (y1.heap.size + 1) 0 [.int .i64 params, .bool vararg, .int .i64 regs, .slice o3 code.n c3, (.slice (some ⟨g, 0, none⟩) (1 + consts.n) cp), .slice o5 ups'.n c5, .int .i64 kids', .string name, .slice o8 lines.n c8, .slice o9 upNames.n c9] := fun j v hv => by rw [Nat.zero_add]; exact hI5.bq.cell j hv
      have hth : yz.there go (i * 10) 10 := fun j hj => by
        have := hI5.row.cellAt (i * 10 + j) (by omega)
        rw [List.getElem?_eq_getElem (by rw [pvCells_len]; omega)] at this
        exact ⟨by rw [this]; rfl, hI5.row.frozenAt _⟩
      have hG5 : RowL (yz.setCells go (i * 10) [.int .i64 params, .bool vararg, .int .i64 regs, .slice o3 code.n c3, (.slice (some ⟨g, 0, none⟩) (1 + consts.n) cp), .slice o5 ups'.n c5, .int .i64 kids', .string name, .slice o8 lines.n c8, .slice o9 upNames.n c9]) (w.heap.size + 1) 25 [.slice none 0 0] ∧ (yz.setCells go (i * 10) [.int .i64 params, .bool vararg, .int .i64 regs, .slice o3 code.n c3, (.slice (some ⟨g, 0, none⟩) (1 + consts.n) cp), .slice o5 ups'.n c5, .int .i64 kids', .string name, .slice o8 lines.n c8, .slice o9 upNames.n c9]).cell? ⟨y1.heap.size, 0, none⟩ = some (.slice (some ⟨go, 0, none⟩) PS.length co) ∧ Below w.heap.size w ((yz.setCells go (i * 10) [.int .i64 params, .bool vararg, .int .i64 regs, .slice o3 code.n c3, (.slice (some ⟨g, 0, none⟩) (1 + consts.n) cp), .slice o5 ups'.n c5, .int .i64 kids', .string name, .slice o8 lines.n c8, .slice o9 upNames.n c9]).setCell ⟨w.heap.size + 1, 0, none⟩ (.slice (some ⟨go, 0, none⟩) PS.length co)) ∧ IsProtos (fun b => av b ∨ (w.heap.size ≤ b ∧ b < ((yz.setCells go (i * 10) [.int .i64 params, .bool vararg, .int .i64 regs, .slice o3 code.n c3, (.slice (some ⟨g, 0, none⟩) (1 + consts.n) cp), .slice o5 ups'.n c5, .int .i64 kids', .string name, .slice o8 lines.n c8, .slice o9 upNames.n c9]).setCell ⟨w.heap.size + 1, 0, none⟩ (.slice (some ⟨go, 0, none⟩) PS.length co)).heap.size)) ((yz.setCells go (i * 10) [.int .i64 params, .bool vararg, .int .i64 regs, .slice o3 code.n c3, (.slice (some ⟨g, 0, none⟩) (1 + consts.n) cp), .slice o5 ups'.n c5, .int .i64 kids', .string name, .slice o8 lines.n c8, .slice o9 upNames.n c9]).setCell ⟨w.heap.size + 1, 0, none⟩ (.slice (some ⟨go, 0, none⟩) PS.length co)) (.slice (some ⟨go, 0, none⟩) PS.length co) (slOf (PS.set i (⟨params, vararg, regs, code, (consS (⟨3, 1 - x, rep 116 (1000 * x + x).toNat⟩ : VD) consts), ups', kids', name, lines, upNames⟩ : PD))) := by
        have hF := hI5.fin hav.out (x := ⟨(⟨params, vararg, regs, code, (consS (⟨3, 1 - x, rep 116 (1000 * x + x).toNat⟩ : VD) consts), ups', kids', name, lines, upNames⟩ : PD), (.slice o3 code.n c3), ((.slice (some ⟨g, 0, none⟩) (1 + consts.n) cp)), (.slice o5 ups'.n c5), (.slice o8 lines.n c8), (.slice o9 upNames.n c9)⟩) hXl hin hX.out hx5
        rw [setCs_eq, hXp] at hF
        exact ⟨World.rowIs.of_block hI5.br (by rw [← setCs_eq]; exact setCs_heap go [.int .i64 params, .bool vararg, .int .i64 regs, .slice o3 code.n c3, (.slice (some ⟨g, 0, none⟩) (1 + consts.n) cp), .slice o5 ups'.n c5, .int .i64 kids', .string name, .slice o8 lines.n c8, .slice o9 upNames.n c9] yz (i * 10) _ (by omega)), (World.cell?_of_block (w := yz) (by rw [← setCs_eq]; exact setCs_heap go [.int .i64 params, .bool vararg, .int .i64 regs, .slice o3 code.n c3, (.slice (some ⟨g, 0, none⟩) (1 + consts.n) cp), .slice o5 ups'.n c5, .int .i64 kids', .string name, .slice o8 lines.n c8, .slice o9 upNames.n c9] yz (i * 10) _ (by show y1.heap.size ≠ go; omega))).trans dbo, hF.1, hF.2⟩
      replace hG5 : Hid _ := hG5
      have hone : (#[.int .i64 params, .bool vararg, .int .i64 regs, .slice o3 code.n c3, (.slice (some ⟨g, 0, none⟩) (1 + consts.n) cp), .slice o5 ups'.n c5, .int .i64 kids', .string name, .slice o8 lines.n c8, .slice o9 upNames.n c9] : Array Value).all (·.oneCell') = true := all_oneCell_toArray (cs := [.int .i64 params, .bool vararg, .int .i64 regs, .slice o3 code.n c3, (.slice (some ⟨g, 0, none⟩) (1 + consts.n) cp), .slice o5 ups'.n c5, .int .i64 kids', .string name, .slice o8 lines.n c8, .slice o9 upNames.n c9]) (by intro v hv; simp only [List.mem_cons, List.not_mem_nil, or_false] at hv; rcases hv with rfl | rfl | rfl | rfl | rfl | rfl | rfl | rfl | rfl | rfl <;> rfl)
      have hsz1 : (Try.prog.info? 35).map (·.size) = some 10 := by kernel_rfl
      clear hI5 hx5
      go_wp2_with (refine wp_gen 184 rfl (fun y' => y' = yz) rfl ?_)
      intro y' hy'
      subst hy'
      refine wpList_load_mid rfl 35 (.tmp 11) rfl (y1.heap.size + 1) 0 rfl [.int .i64 params, .bool vararg, .int .i64 regs, .slice o3 code.n c3, (.slice (some ⟨g, 0, none⟩) (1 + consts.n) cp), .slice o5 ups'.n c5, .int .i64 kids', .string name, .slice o8 lines.n c8, .slice o9 upNames.n c9] _ hrg Try.underlying35 rfl hsz1 ?_
      go_wp2_with (refine wp_genS 35 (.tmp 185) (.tmp 184) rfl (fun y'' => y'' = y') rfl ?_)
      intro y'' hy''
      subst hy''
      refine wpList_store_mid rfl 35 (.tmp 185) (.tmp 184) rfl go (i * 10) #[.int .i64 params, .bool vararg, .int .i64 regs, .slice o3 code.n c3, (.slice (some ⟨g, 0, none⟩) (1 + consts.n) cp), .slice o5 ups'.n c5, .int .i64 kids', .string name, .slice o8 lines.n c8, .slice o9 upNames.n c9] rfl rfl hth hsz1 hone ?_
      refine wp_genA (fun y5 => RowL y5 (w.heap.size + 1) 25 [.slice none 0 0] ∧ y5.cell? ⟨y1.heap.size, 0, none⟩ = some (.slice (some ⟨go, 0, none⟩) PS.length co) ∧ Below w.heap.size w (y5.setCell ⟨w.heap.size + 1, 0, none⟩ (.slice (some ⟨go, 0, none⟩) PS.length co)) ∧ IsProtos (fun b => av b ∨ (w.heap.size ≤ b ∧ b < (y5.setCell ⟨w.heap.size + 1, 0, none⟩ (.slice (some ⟨go, 0, none⟩) PS.length co)).heap.size)) (y5.setCell ⟨w.heap.size + 1, 0, none⟩ (.slice (some ⟨go, 0, none⟩) PS.length co)) (.slice (some ⟨go, 0, none⟩) PS.length co) (slOf (PS.set i (⟨params, vararg, regs, code, (consS (⟨3, 1 - x, rep 116 (1000 * x + x).toNat⟩ : VD) consts), ups', kids', name, lines, upNames⟩ : PD)))) hG5.out ?_
      intro y5 hy5
      obtain ⟨hr5, dbo5, hF1, hF2⟩ := hy5
      have dr5 := hr5.cell 0 rfl
      have fr5 := hr5.frozen 0
      have hfin := (hr5.set 0 (.slice (some ⟨go, 0, none⟩) PS.length co)).cell 0 rfl
      replace hF2 : Hid _ := hF2
      clear hG5 hrg hth hone dbo hr5
      go_wp2_with fail
      refine bodyPost_ret (v := .agg #[.slice (some ⟨go, 0, none⟩) PS.length co]) (by simp [results, Try.results9, go_sem, hfin]) rfl ⟨_, rfl, hF1, hF2.out⟩
  · have q := hI.out.bq.cell 4 rfl
    go_simp
    clear q
    refine hKK.out _ _ trivial (fun _ => ?_)
    clear hKK KK
    try simp only [Act.put, List.setIfInBounds_toArray, List.set_cons_zero, List.set_cons_succ]
    refine wpAnyH_ready (rs := [6]) (by kernel_rfl) (by simp) ?_
    refine AllReadyH.cons rfl (fun KK hKK => ?_) AllReadyH.nil
    go_simp
    refine Calls.mono hL.out ?_
    rintro e w' ⟨rfl, rfl⟩
    go_wp2_with fail
    refine hKK.out _ _ trivial (fun _ => ?_)
    clear hKK KK
    try simp only [Act.put, List.setIfInBounds_toArray, List.set_cons_zero, List.set_cons_succ]
    refine take_dst 7 90 (.agg #[.int .i64 3, .int .i64 (1 - x), .string (rep 116 (1000 * x + x).toNat)]) rfl (by kernel_rfl) (by kernel_rfl) (by kernel_rfl) (fun _ _ _ h => h) (Or.inl ⟨by rfl, by intro wv hSv; (try dsimp only at hSv); go_simp⟩) trivial rfl ?_
    try simp only [Act.put, List.setIfInBounds_toArray, List.set_cons_zero, List.set_cons_succ]
    refine wpAnyH_ready (rs := [8]) (by kernel_rfl) (by simp) ?_
    refine AllReadyH.cons rfl (fun KK hKK => ?_) AllReadyH.nil
    go_simp
    refine hKK.out _ _ trivial (fun _ => ?_)
    clear hKK KK
    try simp only [Act.put, List.setIfInBounds_toArray, List.set_cons_zero, List.set_cons_succ]
    refine wpAnyH_ready (rs := [11]) (by kernel_rfl) (by simp) ?_
    refine AllReadyH.cons rfl (fun KK hKK => ?_) AllReadyH.nil
    refine step_app_list rfl (.tmp 91) (.tmp 93) 30 rfl y.heap.size 57 i0 (.agg #[.int .i64 0, .int .i64 0, .string ⟨#[]⟩]) 3 32 Try.underlying30 hi hz0 hz1 hz2 rfl (by decide) (.slice (some ⟨y.heap.size, 0, none⟩) 1 1) 1 [.int .i64 3, .int .i64 (1 - x), .string (rep 116 (1000 * x + x).toNat)] rfl hlit.out (.slice o4 consts.n c4) consts.n (vC consts.f) rfl hsrc.out hone.out h63 hbb hba.out ?_
    intro v' w' hown hg
    obtain ⟨g, cp, rfl, -, -⟩ := hown.form (by omega)
    have hgl := hown.lt g rfl
    have hJ : SpI w (.slice (some ⟨go, 0, none⟩) PS.length co) PS.length X y1.heap.size [.int .i64 params, .bool vararg, .int .i64 regs, .slice o3 code.n c3, .slice o4 consts.n c4, .slice o5 ups'.n c5, .int .i64 kids', .string name, .slice o8 lines.n c8, .slice o9 upNames.n c9] w' := hI2.out.grown hg fun k hk => by simp [Value.ownBlock] at hk; omega
    have p0 := hJ.bq.cell 4 rfl
    have pf0 := hJ.bq.frozen 4
    replace hown : Hid (w'.ownsRow y.heap.size 57 3 (.slice (some ⟨g, 0, none⟩) (1 + consts.n) cp) (1 + consts.n) ([.int .i64 3, .int .i64 (1 - x), .string (rep 116 (1000 * x + x).toNat)] ++ flatC (vC consts.f) 3 consts.n)) := hown
    clear hg
    refine hKK.out _ _ trivial (fun _ => ?_)
    clear hKK KK
    try simp only [Act.put, List.setIfInBounds_toArray, List.set_cons_zero, List.set_cons_succ]
    refine take_dst 12 95 (.pointer (some ⟨y1.heap.size + 1, 4, none⟩)) rfl (by kernel_rfl) (by kernel_rfl) (by kernel_rfl) (fun _ _ _ h => h) (Or.inl ⟨by rfl, by intro wv hSv; (try dsimp only at hSv); go_simp⟩) trivial rfl ?_
    try simp only [Act.put, List.setIfInBounds_toArray, List.set_cons_zero, List.set_cons_succ]
    refine wpAnyH_ready (rs := [13]) (by kernel_rfl) (by simp) ?_
    refine AllReadyH.cons rfl (fun KK hKK => ?_) AllReadyH.nil
    go_simp
    refine hKK.out _ _ trivial (fun _ => ?_)
    clear hKK KK
    try simp only [Act.put, List.setIfInBounds_toArray, List.set_cons_zero, List.set_cons_succ]
    refine wpAnyH_done (by kernel_rfl) ?_ _
    have hWn := (hJ.setQ 4 (.slice (some ⟨g, 0, none⟩) (1 + consts.n) cp)).bel
    go_wp2_with (refine wp_gen 182 rfl (fun yz => SpI w (.slice (some ⟨go, 0, none⟩) PS.length co) PS.length X y1.heap.size (PV.cells ⟨(⟨params, vararg, regs, code, (consS (⟨3, 1 - x, rep 116 (1000 * x + x).toNat⟩ : VD) consts), ups', kids', name, lines, upNames⟩ : PD), (.slice o3 code.n c3), ((.slice (some ⟨g, 0, none⟩) (1 + consts.n) cp)), (.slice o5 ups'.n c5), (.slice o8 lines.n c8), (.slice o9 upNames.n c9)⟩) yz ∧ IsProto (fun b => av b ∨ (y1.heap.size + 1 < b ∧ b < yz.heap.size)) yz (.slice o3 code.n c3) ((.slice (some ⟨g, 0, none⟩) (1 + consts.n) cp)) (.slice o5 ups'.n c5) (.slice o8 lines.n c8) (.slice o9 upNames.n c9) (⟨params, vararg, regs, code, (consS (⟨3, 1 - x, rep 116 (1000 * x + x).toNat⟩ : VD) consts), ups', kids', name, lines, upNames⟩ : PD)) ?hH1 ?_)
    case hH1 => exact ⟨(hJ.setQ 4 (.slice (some ⟨g, 0, none⟩) (1 + consts.n) cp)), ⟨IsArr.mono (IsArr.keep hpx.out.code fun b hb => hWn.block b (hav.out b hb)) fun b hb => .inl hb, ⟨IsArr.mono (IsArr.keep (cons_arr (xs := [.int .i64 3, .int .i64 (1 - x), .string (rep 116 (1000 * x + x).toNat)]) (C := vC consts.f) (lo := y.heap.size) (e := 57) (C' := vC (consS (⟨3, 1 - x, rep 116 (1000 * x + x).toNat⟩ : VD) consts).f) (by omega) hown.out rfl (C0 := fun j => vC (fun _ => (⟨3, 1 - x, rep 116 (1000 * x + x).toNat⟩ : VD)) 0 j) (fun j hj => by match j, hj with | 0, _ => rfl | 1, _ => rfl | 2, _ => rfl) (fun j hj => by match j, hj with | 0, _ => exact ⟨rfl, fun i => rfl⟩ | 1, _ => exact ⟨rfl, fun i => rfl⟩ | 2, _ => exact ⟨rfl, fun i => rfl⟩)) fun b hb => by (have hb' : b ≠ y1.heap.size + 1 := by omega); rw [Below.heap_setCell _ _ _ _ hb']) fun b hb => .inr ⟨by omega, by simp only [World.size_setCell]; omega⟩, fun i hi => by cases i with | zero => exact (by show (rep 116 (1000 * x + x).toNat).size ≤ _; rw [rep_size]; omega) | succ i => exact hpx.out.consts.2 i (by have : i + 1 < 1 + consts.n := hi; show i < consts.n; omega)⟩, IsArr.mono (IsArr.keep hpx.out.ups fun b hb => hWn.block b (hav.out b hb)) fun b hb => .inl hb, IsArr.mono (IsArr.keep hpx.out.lines fun b hb => hWn.block b (hav.out b hb)) fun b hb => .inl hb, ⟨IsArr.mono (IsArr.keep hpx.out.upNames.1 fun b hb => hWn.block b (hav.out b hb)) fun b hb => .inl hb, hpx.out.upNames.2⟩, hpx.out.name⟩⟩
    intro yz hyz
    obtain ⟨hI5, hx5⟩ := hyz
    have dbo := hI5.bo.cell 0 rfl
    have hrg : yz.rangeAt (y1.heap.size + 1) 0 [.int .i64 params, .bool vararg, .int .i64 regs, .slice o3 code.n c3, (.slice (some ⟨g, 0, none⟩) (1 + consts.n) cp), .slice o5 ups'.n c5, .int .i64 kids', .string name, .slice o8 lines.n c8, .slice o9 upNames.n c9] := fun j v hv => by rw [Nat.zero_add]; exact hI5.bq.cell j hv
    have hth : yz.there go (i * 10) 10 := fun j hj => by
      have := hI5.row.cellAt (i * 10 + j) (by omega)
      rw [List.getElem?_eq_getElem (by rw [pvCells_len]; omega)] at this
      exact ⟨by rw [this]; rfl, hI5.row.frozenAt _⟩
    have hG5 : RowL (yz.setCells go (i * 10) [.int .i64 params, .bool vararg, .int .i64 regs, .slice o3 code.n c3, (.slice (some ⟨g, 0, none⟩) (1 + consts.n) cp), .slice o5 ups'.n c5, .int .i64 kids', .string name, .slice o8 lines.n c8, .slice o9 upNames.n c9]) (w.heap.size + 1) 25 [.slice none 0 0] ∧ (yz.setCells go (i * 10) [.int .i64 params, .bool vararg, .int .i64 regs, .slice o3 code.n c3, (.slice (some ⟨g, 0, none⟩) (1 + consts.n) cp), .slice o5 ups'.n c5, .int .i64 kids', .string name, .slice o8 lines.n c8, .slice o9 upNames.n c9]).cell? ⟨y1.heap.size, 0, none⟩ = some (.slice (some ⟨go, 0, none⟩) PS.length co) ∧ Below w.heap.size w ((yz.setCells go (i * 10) [.int .i64 params, .bool vararg, .int .i64 regs, .slice o3 code.n c3, (.slice (some ⟨g, 0, none⟩) (1 + consts.n) cp), .slice o5 ups'.n c5, .int .i64 kids', .string name, .slice o8 lines.n c8, .slice o9 upNames.n c9]).setCell ⟨w.heap.size + 1, 0, none⟩ (.slice (some ⟨go, 0, none⟩) PS.length co)) ∧ IsProtos (fun b => av b ∨ (w.heap.size ≤ b ∧ b < ((yz.setCells go (i * 10) [.int .i64 params, .bool vararg, .int .i64 regs, .slice o3 code.n c3, (.slice (some ⟨g, 0, none⟩) (1 + consts.n) cp), .slice o5 ups'.n c5, .int .i64 kids', .string name, .slice o8 lines.n c8, .slice o9 upNames.n c9]).setCell ⟨w.heap.size + 1, 0, none⟩ (.slice (some ⟨go, 0, none⟩) PS.length co)).heap.size)) ((yz.setCells go (i * 10) [.int .i64 params, .bool vararg, .int .i64 regs, .slice o3 code.n c3, (.slice (some ⟨g, 0, none⟩) (1 + consts.n) cp), .slice o5 ups'.n c5, .int .i64 kids', .string name, .slice o8 lines.n c8, .slice o9 upNames.n c9]).setCell ⟨w.heap.size + 1, 0, none⟩ (.slice (some ⟨go, 0, none⟩) PS.length co)) (.slice (some ⟨go, 0, none⟩) PS.length co) (slOf (PS.set i (⟨params, vararg, regs, code, (consS (⟨3, 1 - x, rep 116 (1000 * x + x).toNat⟩ : VD) consts), ups', kids', name, lines, upNames⟩ : PD))) := by
      have hF := hI5.fin hav.out (x := ⟨(⟨params, vararg, regs, code, (consS (⟨3, 1 - x, rep 116 (1000 * x + x).toNat⟩ : VD) consts), ups', kids', name, lines, upNames⟩ : PD), (.slice o3 code.n c3), ((.slice (some ⟨g, 0, none⟩) (1 + consts.n) cp)), (.slice o5 ups'.n c5), (.slice o8 lines.n c8), (.slice o9 upNames.n c9)⟩) hXl hin hX.out hx5
      rw [setCs_eq, hXp] at hF
      exact ⟨World.rowIs.of_block hI5.br (by rw [← setCs_eq]; exact setCs_heap go [.int .i64 params, .bool vararg, .int .i64 regs, .slice o3 code.n c3, (.slice (some ⟨g, 0, none⟩) (1 + consts.n) cp), .slice o5 ups'.n c5, .int .i64 kids', .string name, .slice o8 lines.n c8, .slice o9 upNames.n c9] yz (i * 10) _ (by omega)), (World.cell?_of_block (w := yz) (by rw [← setCs_eq]; exact setCs_heap go [.int .i64 params, .bool vararg, .int .i64 regs, .slice o3 code.n c3, (.slice (some ⟨g, 0, none⟩) (1 + consts.n) cp), .slice o5 ups'.n c5, .int .i64 kids', .string name, .slice o8 lines.n c8, .slice o9 upNames.n c9] yz (i * 10) _ (by show y1.heap.size ≠ go; omega))).trans dbo, hF.1, hF.2⟩
    replace hG5 : Hid _ := hG5
    have hone : (#[.int .i64 params, .bool vararg, .int .i64 regs, .slice o3 code.n c3, (.slice (some ⟨g, 0, none⟩) (1 + consts.n) cp), .slice o5 ups'.n c5, .int .i64 kids', .string name, .slice o8 lines.n c8, .slice o9 upNames.n c9] : Array Value).all (·.oneCell') = true := all_oneCell_toArray (cs := [.int .i64 params, .bool vararg, .int .i64 regs, .slice o3 code.n c3, (.slice (some ⟨g, 0, none⟩) (1 + consts.n) cp), .slice o5 ups'.n c5, .int .i64 kids', .string name, .slice o8 lines.n c8, .slice o9 upNames.n c9]) (by intro v hv; simp only [List.mem_cons, List.not_mem_nil, or_false] at hv; rcases hv with rfl | rfl | rfl | rfl | rfl | rfl | rfl | rfl | rfl | rfl <;> rfl)
    have hsz1 : (Try.prog.info? 35).map (·.size) = some 10 := by kernel_rfl
    clear hI5 hx5
    go_wp2_with (refine wp_gen 184 rfl (fun y' => y' = yz) rfl ?_)
    intro y' hy'
    subst hy'
    refine wpList_load_mid rfl 35 (.tmp 11) rfl (y1.heap.size + 1) 0 rfl [.int .i64 params, .bool vararg, .int .i64 regs, .slice o3 code.n c3, (.slice (some ⟨g, 0, none⟩) (1 + consts.n) cp), .slice o5 ups'.n c5, .int .i64 kids', .string name, .slice o8 lines.n c8, .slice o9 upNames.n c9] _ hrg Try.underlying35 rfl hsz1 ?_
    go_wp2_with (refine wp_genS 35 (.tmp 185) (.tmp 184) rfl (fun y'' => y'' = y') rfl ?_)
    intro y'' hy''
    subst hy''
    refine wpList_store_mid rfl 35 (.tmp 185) (.tmp 184) rfl go (i * 10) #[.int .i64 params, .bool vararg, .int .i64 regs, .slice o3 code.n c3, (.slice (some ⟨g, 0, none⟩) (1 + consts.n) cp), .slice o5 ups'.n c5, .int .i64 kids', .string name, .slice o8 lines.n c8, .slice o9 upNames.n c9] rfl rfl hth hsz1 hone ?_
    refine wp_genA (fun y5 => RowL y5 (w.heap.size + 1) 25 [.slice none 0 0] ∧ y5.cell? ⟨y1.heap.size, 0, none⟩ = some (.slice (some ⟨go, 0, none⟩) PS.length co) ∧ Below w.heap.size w (y5.setCell ⟨w.heap.size + 1, 0, none⟩ (.slice (some ⟨go, 0, none⟩) PS.length co)) ∧ IsProtos (fun b => av b ∨ (w.heap.size ≤ b ∧ b < (y5.setCell ⟨w.heap.size + 1, 0, none⟩ (.slice (some ⟨go, 0, none⟩) PS.length co)).heap.size)) (y5.setCell ⟨w.heap.size + 1, 0, none⟩ (.slice (some ⟨go, 0, none⟩) PS.length co)) (.slice (some ⟨go, 0, none⟩) PS.length co) (slOf (PS.set i (⟨params, vararg, regs, code, (consS (⟨3, 1 - x, rep 116 (1000 * x + x).toNat⟩ : VD) consts), ups', kids', name, lines, upNames⟩ : PD)))) hG5.out ?_
    intro y5 hy5
    obtain ⟨hr5, dbo5, hF1, hF2⟩ := hy5
    have dr5 := hr5.cell 0 rfl
    have fr5 := hr5.frozen 0
    have hfin := (hr5.set 0 (.slice (some ⟨go, 0, none⟩) PS.length co)).cell 0 rfl
    replace hF2 : Hid _ := hF2
    clear hG5 hrg hth hone dbo hr5
    go_wp2_with fail
    refine bodyPost_ret (v := .agg #[.slice (some ⟨go, 0, none⟩) PS.length co]) (by simp [results, Try.results9, go_sem, hfin]) rfl ⟨_, rfl, hF1, hF2.out⟩
end Go.Proofs.Ytlkmohhkhcbiaaa

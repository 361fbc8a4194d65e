import Derived.Test.YtlkmohhkhcbiaaaDrM
namespace Go.Proofs.Ytlkmohhkhcbiaaa
open Go.RowKit Go.Shelf
set_option linter.unusedVariables false
set_option linter.unusedSimpArgs false
attribute [local go_sem] Oper.semAt_some
/-- the prototypes of a list, with the values of their lists. -/
theorem protos_list {av : Nat → Prop} {w : World} {u : Value} {PS : List PD} (h : IsProtos av w u (slOf PS)) : ∃ X : List PV, X.map PV.p = PS ∧ (∀ x ∈ X, IsProto av w x.a3 x.a4 x.a5 x.a8 x.a9 x.p) ∧ ∃ ao cap, u = .slice ao PS.length cap ∧ (0 < PS.length → ∃ b o, ao = some ⟨b, o, none⟩ ∧ av b ∧ ∀ i x, X[i]? = some x → ∀ j, j < 10 → w.cell? ⟨b, o + i * 10 + j, none⟩ = x.cells[j]?) := by
  obtain ⟨a3, a4, a5, a8, a9, ⟨ao, cap, hu, -, hc⟩, hp⟩ := h
  have hg : ∀ i x, ((List.range PS.length).map fun i => (⟨(slOf PS).f i, a3 i, a4 i, a5 i, a8 i, a9 i⟩ : PV))[i]? = some x → i < PS.length ∧ x = ⟨(slOf PS).f i, a3 i, a4 i, a5 i, a8 i, a9 i⟩ := fun i x hx => by
    rw [List.getElem?_map] at hx
    by_cases hi : i < PS.length
    · rw [List.getElem?_range hi] at hx
      simp at hx
      exact ⟨hi, hx.symm⟩
    · rw [List.getElem?_eq_none (by simp; omega)] at hx
      simp at hx
  refine ⟨(List.range PS.length).map fun i => ⟨(slOf PS).f i, a3 i, a4 i, a5 i, a8 i, a9 i⟩, ?_, fun x hx => ?_, ao, cap, hu, fun h0 => ?_⟩
  · refine List.ext_getElem (by simp) fun i h1 h2 => ?_
    simp [slOf, h2]
  · obtain ⟨i, hi⟩ := List.getElem?_of_mem hx
    obtain ⟨h1, rfl⟩ := hg i x hi
    exact hp i h1
  · obtain ⟨b, o, e, hb, hcc⟩ := hc h0
    refine ⟨b, o, e, hb, fun i x hx j hj => ?_⟩
    obtain ⟨h1, rfl⟩ := hg i x hx
    rw [hcc i h1 j hj]
    match j, hj with
    | 0, _ => rfl
    | 1, _ => rfl
    | 2, _ => rfl
    | 3, _ => rfl
    | 4, _ => rfl
    | 5, _ => rfl
    | 6, _ => rfl
    | 7, _ => rfl
    | 8, _ => rfl
    | 9, _ => rfl
/-- while a chunk is copied. -/
structure CpI (w : World) (u : Value) (X : List PV) (k : Nat) (vo : Value) (y : World) : Prop where
  b0 : RowL y w.heap.size 25 [u]
  b1 : RowL y (w.heap.size + 1) 25 [.slice none 0 0]
  b2 : RowL y (w.heap.size + 2) 25 [vo]
  row : y.ownsRow w.heap.size 35 10 vo k (pvCells (X.take k))
  bel : Below w.heap.size w y
theorem CpI.later {w : World} {u : Value} {X : List PV} {k : Nat} {vo : Value} {y y' : World} (h : CpI w u X k vo y) (hb : Below y.heap.size y y') : CpI w u X k vo y' :=
  ⟨h.b0.call hb, h.b1.call hb, h.b2.call hb, own_below h.row hb, h.bel.trans (hb.mono h.bel.size)⟩
theorem CpI.app {w : World} {u : Value} {X : List PV} {k : Nat} {vo v' : Value} {y w' : World} (h : CpI w u X k vo y) {x : PV} (hx : X[k]? = some x) (hrow : w'.ownsRow w.heap.size 35 10 v' (k + 1) (pvCells (X.take k) ++ x.cells)) (hg : y.grownBy w' vo.ownBlock) :
    CpI w u X (k + 1) v' (w'.setCell ⟨w.heap.size + 2, 0, none⟩ v') ∧ RowL w' (w.heap.size + 2) 25 [vo] := by
  have n0 := own_ne_row h.row h.b0 (by decide)
  have n1 := own_ne_row h.row h.b1 (by decide)
  have n2 := own_ne_row h.row h.b2 (by decide)
  have c0 : RowL w' _ 25 _ := World.rowIs.of_block h.b0 (hg.block _ h.b0.lt fun e => n0 e.symm)
  have c1 : RowL w' _ 25 _ := World.rowIs.of_block h.b1 (hg.block _ h.b1.lt fun e => n1 e.symm)
  have c2 : RowL w' _ 25 _ := World.rowIs.of_block h.b2 (hg.block _ h.b2.lt fun e => n2 e.symm)
  have n4 := own_ne_row hrow c2 (by decide)
  have hlt : k < X.length := (List.getElem?_eq_some_iff.1 hx).1
  have htk : pvCells (X.take (k + 1)) = pvCells (X.take k) ++ x.cells := by
    rw [List.take_add_one, hx, pvCells_append]
    simp [pvCells]
  refine ⟨⟨c0.other (a := ⟨w.heap.size + 2, 0, none⟩) (by show w.heap.size ≠ w.heap.size + 2; omega) _, c1.other (a := ⟨w.heap.size + 2, 0, none⟩) (by show w.heap.size + 1 ≠ w.heap.size + 2; omega) _, c2.set 0 _, ?_, ?_⟩, c2⟩
  · rw [htk]
    exact own_keep hrow fun k hk => Below.heap_setCell _ _ _ _ (by rintro rfl; exact n4 hk)
  · exact (Below.grown h.bel hg h.bel.size (fun q hq => (h.row.lt q hq).1)).setCell (p := ⟨w.heap.size + 2, 0, none⟩) (by show w.heap.size ≤ w.heap.size + 2; omega) _
set_option maxRecDepth 100000 in
set_option maxHeartbeats 4000000 in
theorem l2Copy_in {av : Nat → Prop} (PS : List PD) (u : Value) (w : World) (hav : ∀ b, av b → b < w.heap.size) (hu : IsProtos av w u (slOf PS)) (hl : PS.length ≤ 1000) :
    Calls Try.prog 15 #[.agg #[u]] w fun e w' => ∃ v X, e = .returned (.agg #[v]) ∧ Below w.heap.size w w' ∧ w'.ownsRow w.heap.size 35 10 v PS.length (pvCells X) ∧ X.map PV.p = PS ∧ ∀ x ∈ X, IsProto av w x.a3 x.a4 x.a5 x.a8 x.a9 x.p := by
  obtain ⟨X, hXp, hX, ao, cap, rfl, hsrc⟩ := protos_list hu
  have hXl : X.length = PS.length := by rw [← hXp]; simp
  have I0 : Hid (CpI w (.slice ao PS.length cap) X 0 (.slice none 0 0) (((w.alloc (.cells #[.slice ao PS.length cap] 25)).alloc (.cells #[.slice none 0 0] 25)).alloc (.cells #[.slice none 0 0] 25))) := by
    have R0 := (RowL.new w [.slice ao PS.length cap] 25)
    have R1 := (RowL.new (w.alloc (.cells #[.slice ao PS.length cap] 25)) [.slice none 0 0] 25)
    have R2 := (RowL.new ((w.alloc (.cells #[.slice ao PS.length cap] 25)).alloc (.cells #[.slice none 0 0] 25)) [.slice none 0 0] 25)
    rw [World.size_alloc] at R1
    rw [World.size_alloc, World.size_alloc] at R2
    exact ⟨(R0.alloc _).alloc _, R1.alloc _, R2, World.ownsRow_nil _ _ _ _, by go_grown⟩
  replace hsrc : Hid _ := hsrc
  replace hX : Hid _ := hX
  clear hu
  go_enter Try.func15, Try.ntmps15
  go_wp2_with fail
  generalize ((w.alloc (.cells #[.slice ao PS.length cap] 25)).alloc (.cells #[.slice none 0 0] 25)).alloc (.cells #[.slice none 0 0] 25) = y0 at I0 ⊢
  go_loopw [4] (fun iv wr => ∃ k : Nat, iv = .int .i64 (k : Int) ∧ k ≤ PS.length ∧ Hid (∃ vo, CpI w (.slice ao PS.length cap) X k vo wr))
    (fun iv _ => PS.length - (intOf iv).toNat)
  case atStart => exact ⟨0, rfl, by omega, ⟨_, I0.out⟩⟩
  case round =>
    obtain ⟨k, rfl, hk, hT⟩ := hrel
    obtain ⟨wz, hwz⟩ : ∃ x, x = wr := ⟨_, rfl⟩
    subst hwz
    clear I0
    obtain ⟨vo, hI⟩ := hT.out
    have q0 := hI.b0.cell 0 rfl
    by_cases hlt : k < PS.length
    · have hkX : k < X.length := by omega
      have hkk : (k : Int) < (PS.length : Int) := by omega
      obtain ⟨b, o, rfl, hb, hcc⟩ := hsrc.out (by omega)
      replace hb := hav b hb
      obtain ⟨x, hx⟩ : ∃ x, X[k]? = some x := ⟨X[k], List.getElem?_eq_getElem hkX⟩
      have hpx := hX.out x (List.mem_of_getElem? hx)
      have hcx : ∀ j, j < 10 → wz.cell? ⟨b, o + k * 10 + j, none⟩ = x.cells[j]? := fun j hj => by
        rw [World.cell?_of_block (w := w) (hI.bel.block b hb)]
        exact hcc k x hx j hj
      replace hI : Hid (CpI w (.slice (some ⟨b, o, none⟩) PS.length cap) X k vo wz) := hI
      obtain ⟨⟨params, vararg, regs, code, consts, ups', kids', name, lines, upNames⟩, a3, a4, a5, a8, a9⟩ := x
      obtain ⟨o3, c3, rfl⟩ : ∃ o c, a3 = .slice o code.n c := IsArr.slice hpx.code
      obtain ⟨o4, c4, rfl⟩ : ∃ o c, a4 = .slice o consts.n c := IsArr.slice hpx.consts.1
      obtain ⟨o5, c5, rfl⟩ : ∃ o c, a5 = .slice o ups'.n c := IsArr.slice hpx.ups
      obtain ⟨o8, c8, rfl⟩ : ∃ o c, a8 = .slice o lines.n c := IsArr.slice hpx.lines
      obtain ⟨o9, c9, rfl⟩ : ∃ o c, a9 = .slice o upNames.n c := IsArr.slice hpx.upNames.1
      have e0 := hcx 0 (by omega)
      have e1 := hcx 1 (by omega)
      have e2 := hcx 2 (by omega)
      have e3 := hcx 3 (by omega)
      have e4 := hcx 4 (by omega)
      have e5 := hcx 5 (by omega)
      have e6 := hcx 6 (by omega)
      have e7 := hcx 7 (by omega)
      have e8 := hcx 8 (by omega)
      have e9 := hcx 9 (by omega)
      simp only [PV.cells, List.getElem?_cons_zero, List.getElem?_cons_succ, Nat.add_zero] at e0 e1 e2 e3 e4 e5 e6 e7 e8 e9
      replace hx : Hid _ := hx
      have hbl : Hid (b < w.heap.size) := hb
      clear hT hcx hpx hcc hb
      go_wp2_with fail
      obtain ⟨S, hS⟩ : ∃ S : World → Prop, S = fun y : World => y.cell? ⟨w.heap.size, 0, none⟩ = some (.slice (some ⟨b, o, none⟩) PS.length cap) ∧ y.cell? ⟨b, o + k * 10, none⟩ = some (.int .i64 params) ∧ y.cell? ⟨b, o + k * 10 + 1, none⟩ = some (.bool vararg) ∧ y.cell? ⟨b, o + k * 10 + 2, none⟩ = some (.int .i64 regs) ∧ y.cell? ⟨b, o + k * 10 + 3, none⟩ = some (.slice o3 code.n c3) ∧ y.cell? ⟨b, o + k * 10 + 4, none⟩ = some (.slice o4 consts.n c4) ∧ y.cell? ⟨b, o + k * 10 + 5, none⟩ = some (.slice o5 ups'.n c5) ∧ y.cell? ⟨b, o + k * 10 + 6, none⟩ = some (.int .i64 kids') ∧ y.cell? ⟨b, o + k * 10 + 7, none⟩ = some (.string name) ∧ y.cell? ⟨b, o + k * 10 + 8, none⟩ = some (.slice o8 lines.n c8) ∧ y.cell? ⟨b, o + k * 10 + 9, none⟩ = some (.slice o9 upNames.n c9) := ⟨_, rfl⟩
      have hSk : Hid (∀ y, Below w.heap.size w y → y.cell? ⟨w.heap.size, 0, none⟩ = some (.slice (some ⟨b, o, none⟩) PS.length cap) → S y) := fun y hy h0 => by
        have hq : ∀ j, y.cell? ⟨b, j, none⟩ = wz.cell? ⟨b, j, none⟩ := fun j => (World.cell?_of_block (w := w) (hy.block b hbl.out)).trans (World.cell?_of_block (w := w) (hI.out.bel.block b hbl.out)).symm
        rw [hS]
        exact ⟨h0, (hq _).trans e0, (hq _).trans e1, (hq _).trans e2, (hq _).trans e3, (hq _).trans e4, (hq _).trans e5, (hq _).trans e6, (hq _).trans e7, (hq _).trans e8, (hq _).trans e9⟩
      have hd : CpI w (.slice (some ⟨b, o, none⟩) PS.length cap) X k vo wz.drew := hI.out.later (Below.refl _ _).drew
      have hSd := hSk.out _ hd.bel (hd.b0.cell 0 rfl)
      refine wp_region_held_drew (S := S) (by kernel_rfl) hSd (fun hH => ?_)
      refine take_dst 0 13 (.pointer (some ⟨w.heap.size + 2, 0, none⟩)) rfl (by kernel_rfl) (by kernel_rfl) (by kernel_rfl) (fun _ _ _ h => h) (Or.inl ⟨by rfl, by intro wv hSv; (try dsimp only at hSv); go_simp⟩) hSd rfl ?_
      try simp only [Act.put, List.setIfInBounds_toArray, List.set_cons_zero, List.set_cons_succ]
      refine take_dst 2 15 (.pointer (some ⟨w.heap.size, 0, none⟩)) rfl (by kernel_rfl) (by kernel_rfl) (by kernel_rfl) (fun _ _ _ h => h) (Or.inl ⟨by rfl, by intro wv hSv; (try dsimp only at hSv); go_simp⟩) hSd rfl ?_
      try simp only [Act.put, List.setIfInBounds_toArray, List.set_cons_zero, List.set_cons_succ]
      refine take_dst 4 17 (.int .i64 (k : Int)) rfl (by kernel_rfl) (by kernel_rfl) (by kernel_rfl) (fun _ _ _ h => h) (Or.inl ⟨by rfl, by intro wv hSv; (try dsimp only at hSv); go_simp⟩) hSd rfl ?_
      try simp only [Act.put, List.setIfInBounds_toArray, List.set_cons_zero, List.set_cons_succ]
      refine take_dst 3 16 (.slice (some ⟨b, o, none⟩) PS.length cap) rfl (by kernel_rfl) (by kernel_rfl) (by kernel_rfl) (fun _ _ _ h => h) (Or.inl ⟨by rfl, by intro wv hSv; (try dsimp only at hSv); rw [hS] at hSv; obtain ⟨h0, h1, h2, h3, h4, h5, h6, h7, h8, h9, h10⟩ := hSv; go_simp⟩) hSd rfl ?_
      try simp only [Act.put, List.setIfInBounds_toArray, List.set_cons_zero, List.set_cons_succ]
      refine take_dst 5 18 (.pointer (some ⟨b, o + k * 10, none⟩)) rfl (by kernel_rfl) (by kernel_rfl) (by kernel_rfl) (fun _ _ _ h => h) (Or.inl ⟨by rfl, by intro wv hSv; (try dsimp only at hSv); go_simp⟩) hSd rfl ?_
      try simp only [Act.put, List.setIfInBounds_toArray, List.set_cons_zero, List.set_cons_succ]
      refine take_dst 6 19 (.agg #[.int .i64 params, .bool vararg, .int .i64 regs, .slice o3 code.n c3, .slice o4 consts.n c4, .slice o5 ups'.n c5, .int .i64 kids', .string name, .slice o8 lines.n c8, .slice o9 upNames.n c9]) rfl (by kernel_rfl) (by kernel_rfl) (by kernel_rfl) (fun _ _ _ h => h) (Or.inl ⟨by rfl, by intro wv hSv; (try dsimp only at hSv); rw [hS] at hSv; obtain ⟨h0, h1, h2, h3, h4, h5, h6, h7, h8, h9, h10⟩ := hSv; go_simp⟩) hSd rfl ?_
      try simp only [Act.put, List.setIfInBounds_toArray, List.set_cons_zero, List.set_cons_succ]
      have hda : CpI w (.slice (some ⟨b, o, none⟩) PS.length cap) X k vo (wz.drew.alloc (.cells #[.int .i64 params, .bool vararg, .int .i64 regs, .slice o3 code.n c3, .slice o4 consts.n c4, .slice o5 ups'.n c5, .int .i64 kids', .string name, .slice o8 lines.n c8, .slice o9 upNames.n c9] 35)) := hd.later ((Below.refl _ _).alloc (Nat.le_refl _) _)
      have hSa := hSk.out _ hda.bel (hda.b0.cell 0 rfl)
      refine wpAnyH_ready (rs := [1, 7]) (by kernel_rfl) (by simp) ?_
      refine AllReadyH.cons rfl (fun KK hKK => ?_) (AllReadyH.cons rfl (fun KK hKK => ?_) AllReadyH.nil)
      · have q := hd.b2.cell 0 rfl
        go_simp
        clear q
        refine hKK.out _ _ hSd (fun _ => ?_)
        clear hKK KK
        try simp only [Act.put, List.setIfInBounds_toArray, List.set_cons_zero, List.set_cons_succ]
        refine wpAnyH_ready (rs := [7]) (by kernel_rfl) (by simp) ?_
        refine AllReadyH.cons rfl (fun KK hKK => ?_) AllReadyH.nil
        go_simp
        refine hKK.out _ _ hSa (fun _ => ?_)
        clear hKK KK
        try simp only [Act.put, List.setIfInBounds_toArray, List.set_cons_zero, List.set_cons_succ]
        refine wpAnyH_ready (rs := [8]) (by kernel_rfl) (by simp) ?_
        refine AllReadyH.cons rfl (fun KK hKK => ?_) AllReadyH.nil
        obtain ⟨i0, hi, hz0, hz1, hz2⟩ := info_parts infoPro
        refine step_append_lies _ rfl (.tmp 14) (.tmp 20) 23 rfl w.heap.size 35 i0 (.agg #[.int .i64 0, .bool false, .int .i64 0, .slice none 0 0, .slice none 0 0, .slice none 0 0, .int .i64 0, .string ⟨#[]⟩, .slice none 0 0, .slice none 0 0]) 10 168 Try.underlying23 hi hz0 hz1 hz2 rfl (by decide) vo k (pvCells (X.take k)) rfl hda.row ⟨wz.drew.heap.size, 0, none⟩ 1 1 [.int .i64 params, .bool vararg, .int .i64 regs, .slice o3 code.n c3, .slice o4 consts.n c4, .slice o5 ups'.n c5, .int .i64 kids', .string name, .slice o8 lines.n c8, .slice o9 upNames.n c9] rfl rfl (World.news_of_block (heap_alloc_new _ _)) (by intro u hu; simp only [List.mem_cons, List.not_mem_nil, or_false] at hu; rcases hu with rfl | rfl | rfl | rfl | rfl | rfl | rfl | rfl | rfl | rfl <;> rfl) (by omega) (by simp only [maxLen]; omega) (by omega) hda.bel.size _ rfl ?_
        intro g cp w' hrow hg hat hlt'
        obtain ⟨hQ1, bx⟩ := hda.app (x := ⟨⟨params, vararg, regs, code, consts, ups', kids', name, lines, upNames⟩, .slice o3 code.n c3, .slice o4 consts.n c4, .slice o5 ups'.n c5, .slice o8 lines.n c8, .slice o9 upNames.n c9⟩) hx.out hrow hg
        have q2 := bx.cell 0 rfl
        have f2 := bx.frozen 0
        have hS8 : S w' := by
          have n0 := own_ne_row hda.row hda.b0 (by decide)
          refine hSk.out _ (Below.grown hda.bel hg hda.bel.size (fun q hq => (hda.row.lt q hq).1)) ?_
          exact RowL.cell (World.rowIs.of_block hda.b0 (hg.block _ hda.b0.lt fun e => n0 e.symm)) 0 rfl
        have hS10 : S (w'.setCell ⟨w.heap.size + 2, 0, none⟩ (.slice (some ⟨g, 0, none⟩) (k + 1) cp)) := hSk.out _ hQ1.bel (hQ1.b0.cell 0 rfl)
        replace hQ1 : Hid _ := hQ1
        clear hrow hg hat hi hz0 hz1 hz2 bx
        refine hKK.out _ _ hS8 (fun _ => ?_)
        clear hKK KK
        try simp only [Act.put, List.setIfInBounds_toArray, List.set_cons_zero, List.set_cons_succ]
        refine take_dst 9 22 (.pointer (some ⟨w.heap.size + 2, 0, none⟩)) rfl (by kernel_rfl) (by kernel_rfl) (by kernel_rfl) (fun _ _ _ h => h) (Or.inl ⟨by rfl, by intro wv hSv; (try dsimp only at hSv); go_simp⟩) hS8 rfl ?_
        try simp only [Act.put, List.setIfInBounds_toArray, List.set_cons_zero, List.set_cons_succ]
        refine wpAnyH_ready (rs := [10]) (by kernel_rfl) (by simp) ?_
        refine AllReadyH.cons rfl (fun KK hKK => ?_) AllReadyH.nil
        go_simp
        clear q2 f2
        refine hKK.out _ _ hS10 (fun _ => ?_)
        clear hKK KK
        try simp only [Act.put, List.setIfInBounds_toArray, List.set_cons_zero, List.set_cons_succ]
        refine wpAnyH_done (by kernel_rfl) ?_ _
        have hT1 : Hid (∃ vo, CpI w (.slice (some ⟨b, o, none⟩) PS.length cap) X (k + 1) vo (w'.setCell ⟨w.heap.size + 2, 0, none⟩ (.slice (some ⟨g, 0, none⟩) (k + 1) cp))) := ⟨_, hQ1.out⟩
        clear hQ1 hI hd hda hSd hSk hS8 hS10 hS hH e0 e1 e2 e3 e4 e5 e6 e7 e8 e9 q0 hSa
        go_wp2_with fail
        go_roundw
        case rel => exact ⟨k + 1, by go_num, by omega, hT1.out⟩
        case measure => simp [intOf]; omega
      · go_simp
        refine hKK.out _ _ hSa (fun _ => ?_)
        clear hKK KK
        try simp only [Act.put, List.setIfInBounds_toArray, List.set_cons_zero, List.set_cons_succ]
        refine wpAnyH_ready (rs := [1]) (by kernel_rfl) (by simp) ?_
        refine AllReadyH.cons rfl (fun KK hKK => ?_) AllReadyH.nil
        have q := (hI.out.b2.alloc (.cells #[.int .i64 params, .bool vararg, .int .i64 regs, .slice o3 code.n c3, .slice o4 consts.n c4, .slice o5 ups'.n c5, .int .i64 kids', .string name, .slice o8 lines.n c8, .slice o9 upNames.n c9] 35)).cell 0 rfl
        go_simp
        clear q
        refine hKK.out _ _ hSa (fun _ => ?_)
        clear hKK KK
        try simp only [Act.put, List.setIfInBounds_toArray, List.set_cons_zero, List.set_cons_succ]
        refine wpAnyH_ready (rs := [8]) (by kernel_rfl) (by simp) ?_
        refine AllReadyH.cons rfl (fun KK hKK => ?_) AllReadyH.nil
        obtain ⟨i0, hi, hz0, hz1, hz2⟩ := info_parts infoPro
        refine step_append_lies _ rfl (.tmp 14) (.tmp 20) 23 rfl w.heap.size 35 i0 (.agg #[.int .i64 0, .bool false, .int .i64 0, .slice none 0 0, .slice none 0 0, .slice none 0 0, .int .i64 0, .string ⟨#[]⟩, .slice none 0 0, .slice none 0 0]) 10 168 Try.underlying23 hi hz0 hz1 hz2 rfl (by decide) vo k (pvCells (X.take k)) rfl hda.row ⟨wz.drew.heap.size, 0, none⟩ 1 1 [.int .i64 params, .bool vararg, .int .i64 regs, .slice o3 code.n c3, .slice o4 consts.n c4, .slice o5 ups'.n c5, .int .i64 kids', .string name, .slice o8 lines.n c8, .slice o9 upNames.n c9] rfl rfl (World.news_of_block (heap_alloc_new _ _)) (by intro u hu; simp only [List.mem_cons, List.not_mem_nil, or_false] at hu; rcases hu with rfl | rfl | rfl | rfl | rfl | rfl | rfl | rfl | rfl | rfl <;> rfl) (by omega) (by simp only [maxLen]; omega) (by omega) hda.bel.size _ rfl ?_
        intro g cp w' hrow hg hat hlt'
        obtain ⟨hQ1, bx⟩ := hda.app (x := ⟨⟨params, vararg, regs, code, consts, ups', kids', name, lines, upNames⟩, .slice o3 code.n c3, .slice o4 consts.n c4, .slice o5 ups'.n c5, .slice o8 lines.n c8, .slice o9 upNames.n c9⟩) hx.out hrow hg
        have q2 := bx.cell 0 rfl
        have f2 := bx.frozen 0
        have hS8 : S w' := by
          have n0 := own_ne_row hda.row hda.b0 (by decide)
          refine hSk.out _ (Below.grown hda.bel hg hda.bel.size (fun q hq => (hda.row.lt q hq).1)) ?_
          exact RowL.cell (World.rowIs.of_block hda.b0 (hg.block _ hda.b0.lt fun e => n0 e.symm)) 0 rfl
        have hS10 : S (w'.setCell ⟨w.heap.size + 2, 0, none⟩ (.slice (some ⟨g, 0, none⟩) (k + 1) cp)) := hSk.out _ hQ1.bel (hQ1.b0.cell 0 rfl)
        replace hQ1 : Hid _ := hQ1
        clear hrow hg hat hi hz0 hz1 hz2 bx
        refine hKK.out _ _ hS8 (fun _ => ?_)
        clear hKK KK
        try simp only [Act.put, List.setIfInBounds_toArray, List.set_cons_zero, List.set_cons_succ]
        refine take_dst 9 22 (.pointer (some ⟨w.heap.size + 2, 0, none⟩)) rfl (by kernel_rfl) (by kernel_rfl) (by kernel_rfl) (fun _ _ _ h => h) (Or.inl ⟨by rfl, by intro wv hSv; (try dsimp only at hSv); go_simp⟩) hS8 rfl ?_
        try simp only [Act.put, List.setIfInBounds_toArray, List.set_cons_zero, List.set_cons_succ]
        refine wpAnyH_ready (rs := [10]) (by kernel_rfl) (by simp) ?_
        refine AllReadyH.cons rfl (fun KK hKK => ?_) AllReadyH.nil
        go_simp
        clear q2 f2
        refine hKK.out _ _ hS10 (fun _ => ?_)
        clear hKK KK
        try simp only [Act.put, List.setIfInBounds_toArray, List.set_cons_zero, List.set_cons_succ]
        refine wpAnyH_done (by kernel_rfl) ?_ _
        have hT1 : Hid (∃ vo, CpI w (.slice (some ⟨b, o, none⟩) PS.length cap) X (k + 1) vo (w'.setCell ⟨w.heap.size + 2, 0, none⟩ (.slice (some ⟨g, 0, none⟩) (k + 1) cp))) := ⟨_, hQ1.out⟩
        clear hQ1 hI hd hda hSd hSk hS8 hS10 hS hH e0 e1 e2 e3 e4 e5 e6 e7 e8 e9 q0 hSa
        go_wp2_with fail
        go_roundw
        case rel => exact ⟨k + 1, by go_num, by omega, hT1.out⟩
        case measure => simp [intOf]; omega
    · obtain rfl : k = PS.length := by omega
      have q1 := hI.b1.cell 0 rfl
      have f1 := hI.b1.frozen 0
      have q2 := hI.b2.cell 0 rfl
      have hfin := (hI.b1.set 0 vo).cell 0 rfl
      obtain ⟨av, cv, rfl⟩ := own_slice hI.row
      replace hI : Hid _ := hI
      clear hT
      go_wp2_with fail
      refine bodyPost_ret (v := .agg #[.slice av PS.length cv]) (by simp [results, Try.results15, go_sem, hfin]) rfl ⟨_, X, rfl, ?_, ?_, hXp, hX.out⟩
      · exact hI.out.bel.setCell (p := ⟨w.heap.size + 1, 0, none⟩) (by show w.heap.size ≤ w.heap.size + 1; omega) _
      · have n4 := own_ne_row hI.out.row hI.out.b1 (by decide)
        have hr := hI.out.row
        rw [List.take_of_length_le (by omega)] at hr
        exact own_keep hr fun k hk => Below.heap_setCell _ _ _ _ (by rintro rfl; exact n4 hk)
end Go.Proofs.Ytlkmohhkhcbiaaa

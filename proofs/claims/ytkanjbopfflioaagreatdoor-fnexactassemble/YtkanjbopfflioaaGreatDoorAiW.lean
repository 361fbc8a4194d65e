import Derived.Test.YtkanjbopfflioaaGreatDoorAiV
import Derived.Deep.AppendLies
namespace Go.Proofs.YtkanjbopfflioaaGreatDoor
open Go.RowKit Go.Shelf
set_option linter.unusedVariables false
set_option linter.unusedSimpArgs false
set_option maxRecDepth 100000
set_option maxHeartbeats 4000000
theorem sz_up : (Tryz.prog.info? 61).map (·.size) = some 2 := by kernel_rfl
theorem read_up (r : List ByteArray) (gw o c : Nat) (w : World) (hcap : r.length ≤ c) (ho : o + 1 ≤ 1000) (hN : r.length ≤ 100000) (hc : ∀ (j : Nat) x, r[j]? = some x → w.cell? ⟨gw, o + j, none⟩ = some (.string x)) (hg : gw < w.heap.size) (hz : ∀ x ∈ r, x.size ≤ 100000) (hv : Env w)
    (B mB xB pB : Nat) (sv : Value) (Q : List PV) (h : Mw w B mB xB pB sv Q) (hf : Few 60001 (Q.map (·.p))) :
    Calls Tryz.prog 31 #[.slice (some ⟨gw, o, none⟩) r.length c, .pointer (some ⟨pB, 0, none⟩)] w fun e w' => ReadEnds w B mB xB pB sv Q upB' r e w' := by
  have hcon := hidR (upIn_in r gw o c w hcap ho hN hc hg hz hv)
  have hp9 := h.p.cell 0 rfl
  have hpl := h.p.lt
  replace h := hidR h
  replace hf := hidR hf
  replace hc := hidR hc
  replace hz := hidR hz
  replace hv := hidR hv
  go_enter Tryz.func31, Tryz.ntmps31
  go_wp2_with fail
  refine Calls.mono hcon.out ?_
  rintro e y1 ⟨hC, b1⟩
  clear hcon
  rcases hC with ⟨ud, hd, rfl⟩ | ⟨hno, rfl⟩
  rotate_left
  · have hR : Hid (LStep (Q.map (·.p)) upB' r none) := by
      show LStep _ _ _ _
      rcases List.eq_nil_or_concat Q with rfl | ⟨K, q, rfl⟩
      · exact LStep.none (Ne.symm kw_ne.2.1)
      · have := LStep.up (K := K.map (·.p)) (p := q.p) (r := r)
        rw [hno, Option.map_none, ite_self] at this
        rw [List.concat_eq_append, List.map_append]
        exact this
    go_upto_region 2 with (refine wpList_store_row rfl 61 (.tmp 4) (.tmp 9) rfl y1.heap.size #[.bool false, .int .i64 0] rfl rfl 61 _ (heap_alloc_new _ _) (by simpa using sz_up) rfl (by simp [Value.oneCell']) ?_)
    try simp only [Act.put]
    have RV : RowL ((y1.alloc (.cells #[.bool false, .int .i64 0] 61)).setRow y1.heap.size #[.bool false, .int .i64 0]) y1.heap.size 61 [.bool false, .int .i64 0] := (RowL.new y1 [.bool false, .int .i64 0] 61).setRow [.bool false, .int .i64 0] rfl
    have b2 : Below y1.heap.size y1 ((y1.alloc (.cells #[.bool false, .int .i64 0] 61)).setRow y1.heap.size #[.bool false, .int .i64 0]) := below_row ((Below.refl _ _).alloc (Nat.le_refl _) _) (Nat.le_refl _) _
    generalize (y1.alloc (.cells #[.bool false, .int .i64 0] 61)).setRow y1.heap.size #[.bool false, .int .i64 0] = y2 at RV b2 ⊢
    have bw2 := b1.trans (b2.mono b1.size)

    go_wp2_with fail
    refine bodyPost_ret (v := .bool false) (by simp [results, Tryz.results31, go_sem]) rfl ⟨false, none, rfl, hR.out, (by simp), (fun _ => rfl), Chg.of_below bw2⟩

  go_upto_region 2 with (refine wpList_store_row rfl 61 (.tmp 4) (.tmp 9) rfl y1.heap.size #[.bool ud.stack, .int .i64 ud.index] rfl rfl 61 _ (heap_alloc_new _ _) (by simpa using sz_up) rfl (by simp [Value.oneCell']) ?_)
  try simp only [Act.put]
  have RV : RowL ((y1.alloc (.cells #[.bool false, .int .i64 0] 61)).setRow y1.heap.size #[.bool ud.stack, .int .i64 ud.index]) y1.heap.size 61 [.bool ud.stack, .int .i64 ud.index] := (RowL.new y1 [.bool false, .int .i64 0] 61).setRow [.bool ud.stack, .int .i64 ud.index] rfl
  have b2 : Below y1.heap.size y1 ((y1.alloc (.cells #[.bool false, .int .i64 0] 61)).setRow y1.heap.size #[.bool ud.stack, .int .i64 ud.index]) := below_row ((Below.refl _ _).alloc (Nat.le_refl _) _) (Nat.le_refl _) _
  generalize (y1.alloc (.cells #[.bool false, .int .i64 0] 61)).setRow y1.heap.size #[.bool ud.stack, .int .i64 ud.index] = y2 at RV b2 ⊢
  have bw2 := b1.trans (b2.mono b1.size)

  have hy1 := b1.size
  have hvl : Hid (w.heap.size ≤ y1.heap.size) := hy1
  replace RV := hidR RV
  have hy2 := b2.size
  clear b1 b2
  obtain ⟨vB, hvB⟩ : ∃ vB, y1.heap.size = vB := ⟨_, rfl⟩
  rw [hvB] at RV hvl hy2 hy1 ⊢
  clear hvB
  have hp2 := (bw2.cell (p := ⟨pB, 0, none⟩) hpl).trans hp9
  clear hp9
  rcases List.eq_nil_or_concat Q with rfl | ⟨K, q, hQ⟩
  · have hR : Hid (LStep (([] : List PV).map (·.p)) upB' r none) := LStep.none (Ne.symm kw_ne.2.1)
    have hpn : lastP sv ([] : List PV).length = .pointer none := rfl
    rw [hpn] at hp2
    go_wp2_with fail
    refine bodyPost_ret (v := .bool false) (by simp [results, Tryz.results31, go_sem]) rfl ⟨false, none, rfl, hR.out, (by simp), (fun _ => rfl), Chg.of_below bw2⟩

  rw [List.concat_eq_append] at hQ
  subst hQ
  obtain ⟨g, cap, rfl, hgl, hBg, hcap9⟩ := h.out.mem.form
  have hqok := h.out.mem.each q (by simp)
  have hfq := hf.out.2 q.p (by simp)
  have hfk := hf.out.1
  simp only [List.length_map, List.length_append, List.length_cons, List.length_nil] at hfk
  have hlp : lastP (.slice (some ⟨g, 0, none⟩) (K.length + 1) cap) (K ++ [q]).length = .pointer (some ⟨g, K.length * 10, none⟩) := by simp [lastP]
  rw [hlp] at hp2
  clear hlp
  have hin := h.out.mem.lastRange
  have t3 := (bw2.cell (p := ⟨g, K.length * 10 + 3, none⟩) hgl).trans (hin 3 q.a3 rfl)
  obtain ⟨o3, c3, e3⟩ : ∃ oa ca, q.a3 = .slice oa q.p.code.n ca := own_slice' hqok.code
  rw [e3] at t3
  replace e3 := hidR e3
  by_cases z3 : q.p.code.n = 0
  rotate_left
  · have hR : Hid (LStep ((K ++ [q]).map (·.p)) upB' r none) := by
      show LStep _ _ _ _
      have := LStep.up (K := K.map (·.p)) (p := q.p) (r := r)
      rw [if_neg (fun hz9 => z3 hz9)] at this
      rw [List.map_append]
      exact this
    have hI3 : (0 : Int) < (q.p.code.n : Int) := by omega
    obtain ⟨m3, hm3⟩ : ∃ m, q.p.code.n = m := ⟨_, rfl⟩
    rw [hm3] at t3 hI3
    obtain ⟨N, hN9⟩ : ∃ N, K.length = N := ⟨_, rfl⟩
    rw [hN9] at hp2 t3
    clear hN9 hm3 z3 hin hcap9 hfk hfq hqok
    go_wp2_with fail
    refine bodyPost_ret (v := .bool false) (by simp [results, Tryz.results31, go_sem]) rfl ⟨false, none, rfl, hR.out, (by simp), (fun _ => rfl), Chg.of_below bw2⟩

  rw [z3] at t3
  have hend := hidR h.out
  have hq := hqok
  have hB : B ≤ w.heap.size := h.out.rg.shut.choose_spec.base
  have hpB := h.out.l3
  have hr0 : w.cell? ⟨g, K.length * 10 + 5, none⟩ = some q.a5 := hin 5 q.a5 rfl
  have hfz : ∀ j, w.frozen? ⟨g, j, none⟩ = false := fun j => by
    have hr := h.out.mem.row
    have e : (K ++ [q]).length = K.length + 1 := by simp
    rw [e] at hr
    exact hr.frozenAt j
  have hne : q.a5.ownBlock ≠ some g := fun e => by
    have ha := h.out.mem.apart
    rw [List.pairwise_cons] at ha
    rcases ha.1 (some g) (by rw [List.flatMap_append]; exact List.mem_append_right _ (by simp [PV.blks, e])) with e1 | e1
    · cases e1
    · exact e1 rfl
  have hch : ∀ k, q.a5.ownBlock = some k → k < w.heap.size ∧ B ≤ k := fun k hk => hq.lt k (by simp [PV.blks, hk])
  obtain ⟨i0, hi, hz0, hz1, hz2⟩ := info_parts infUp2
  obtain ⟨N, hN9⟩ : ∃ N, K.length = N := ⟨_, rfl⟩
  rw [hN9] at hp2 hr0 t3
  have hp1 := hp2
  have hr1 := (bw2.cell (p := ⟨g, N * 10 + 5, none⟩) hgl).trans hr0
  have hbw := hidR bw2
  have hvb := RV
  have hSk : Hid (∀ y : World, Below y2.heap.size y2 y → (y.cell? ⟨pB, 0, none⟩ = some (.pointer (some ⟨g, N * 10, none⟩)) ∧ RowL y vB 61 [.bool ud.stack, .int .i64 ud.index])) := fun y hy => ⟨(hy.cell (p := ⟨pB, 0, none⟩) (show pB < y2.heap.size by omega)).trans hp1, hvb.out.call hy⟩
  have hLk : Hid (∀ y : World, Below y2.heap.size y2 y → y.cell? ⟨g, N * 10 + 5, none⟩ = some q.a5) := fun y hy => (hy.cell (p := ⟨g, N * 10 + 5, none⟩) (show g < y2.heap.size by omega)).trans hr1
  have hOk : Hid (∀ y : World, Below y2.heap.size y2 y → y.ownsRow B 61 2 q.a5 q.p.ups.n (upC q.p.ups)) := fun y hy => ownsRow_keep hq.ups fun k hk => (hy.block k (by have := (hch k hk).1; have := hbw.out.size; omega)).trans (hbw.out.block k (hch k hk).1)
  have hSf : Hid (∀ y w1 : World, Below y2.heap.size y2 y → y.grownBy w1 q.a5.ownBlock → (w1.cell? ⟨pB, 0, none⟩ = some (.pointer (some ⟨g, N * 10, none⟩)) ∧ RowL w1 vB 61 [.bool ud.stack, .int .i64 ud.index])) := fun y w1 hy hg => ⟨hg.cell (a := ⟨pB, 0, none⟩) (hSk.out y hy).1 (fun e => by have := hch pB e.symm; omega), World.rowIs.of_block (hSk.out y hy).2 (hg.block _ (hSk.out y hy).2.lt (fun e => by have := hch _ e.symm; have := hvl.out; omega))⟩
  have hCf : Hid (∀ y w1 : World, Below y2.heap.size y2 y → y.grownBy w1 q.a5.ownBlock → (w1.cell? ⟨g, N * 10 + 5, none⟩ = some q.a5 ∧ w1.frozen? ⟨g, N * 10 + 5, none⟩ = false)) := fun y w1 hy hg => by
    have hb : w1.heap[g]? = w.heap[g]? := (hg.block g (by have := hy.size; omega) (fun e => hne e.symm)).trans ((hy.block g (by omega)).trans (hbw.out.block g hgl))
    exact ⟨(World.cell?_of_block (a := ⟨g, N * 10 + 5, none⟩) hb).trans hr0, (World.frozen?_of_block (a := ⟨g, N * 10 + 5, none⟩) hb).trans (hfz _)⟩
  have hSg : Hid (∀ (y w1 : World) (u : Value), Below y2.heap.size y2 y → y.grownBy w1 q.a5.ownBlock → ((w1.setCell ⟨g, N * 10 + 5, none⟩ u).cell? ⟨pB, 0, none⟩ = some (.pointer (some ⟨g, N * 10, none⟩)) ∧ RowL (w1.setCell ⟨g, N * 10 + 5, none⟩ u) vB 61 [.bool ud.stack, .int .i64 ud.index])) := fun y w1 u hy hg => ⟨(World.cell?_of_block (a := ⟨pB, 0, none⟩) (heap_setCell_other w1 ⟨g, N * 10 + 5, none⟩ pB u (show pB ≠ g by omega))).trans (hSf.out y w1 hy hg).1, World.rowIs.of_block (hSf.out y w1 hy hg).2 (heap_setCell_other w1 ⟨g, N * 10 + 5, none⟩ vB u (show vB ≠ g by have := hvl.out; omega))⟩
  have hNl : N ≤ 100000 := by omega
  have hn : q.p.ups.n ≤ 100000 := by omega
  have hB2 : B ≤ y2.heap.size := by omega
  replace hN9 := hidR hN9
  have hR : Hid (LStep ((K ++ [q]).map (·.p)) upB' r (some (K.map (·.p) ++ [q.p.addUp ud]))) := by
    show LStep _ _ _ _
    have := LStep.up (K := K.map (·.p)) (p := q.p) (r := r)
    rw [if_pos z3, hd] at this
    rw [List.map_append]
    exact this
  clear hin hr0 hfz hne hqok hd z3 hcap9
  go_upto_region 4 with fail
  clear hp2 hr1 t3
  have bY0 : Below y2.heap.size y2 y2.drew := (Below.refl _ _).drew
  have hS0 := hSk.out _ bY0
  refine wp_region_held_drew (S := fun y => y.cell? ⟨pB, 0, none⟩ = some (.pointer (some ⟨g, N * 10, none⟩)) ∧ RowL y vB 61 [.bool ud.stack, .int .i64 ud.index]) (by kernel_rfl) hS0 (fun hH => ?_)
  clear hH
  generalize y2.drew = yd at bY0 hS0 ⊢
  refine take_dst 0 25 (.pointer (some ⟨g, N * 10, none⟩)) rfl (by kernel_rfl) (by kernel_rfl) (by kernel_rfl) (fun _ _ _ h => h) (Or.inl ⟨by rfl, by intro wv hSv; have k9 := hSv.1; clear hSv; go_simp⟩) hS0 rfl ?_
  try simp only [Act.put, List.setIfInBounds_toArray, List.set_cons_zero, List.set_cons_succ]
  refine take_dst 1 26 (.pointer (some ⟨g, N * 10, none⟩)) rfl (by kernel_rfl) (by kernel_rfl) (by kernel_rfl) (fun _ _ _ h => h) (Or.inl ⟨by rfl, by intro wv hSv; have k9 := hSv.1; clear hSv; go_simp⟩) hS0 rfl ?_
  try simp only [Act.put, List.setIfInBounds_toArray, List.set_cons_zero, List.set_cons_succ]
  refine take_dst 2 27 (.pointer (some ⟨g, N * 10, none⟩)) rfl (by kernel_rfl) (by kernel_rfl) (by kernel_rfl) (fun _ _ _ h => h) (Or.inl ⟨by rfl, by intro wv hSv; have k9 := hSv.1; clear hSv; go_simp⟩) hS0 rfl ?_
  try simp only [Act.put, List.setIfInBounds_toArray, List.set_cons_zero, List.set_cons_succ]
  refine take_dst 3 28 (.pointer (some ⟨g, N * 10 + 5, none⟩)) rfl (by kernel_rfl) (by kernel_rfl) (by kernel_rfl) (fun _ _ _ h => h) (Or.inl ⟨by rfl, by intro wv hSv; have k9 := hSv.1; clear hSv; go_simp⟩) hS0 rfl ?_
  try simp only [Act.put, List.setIfInBounds_toArray, List.set_cons_zero, List.set_cons_succ]
  refine take_dst 5 30 (.agg #[.bool ud.stack, .int .i64 ud.index]) rfl (by kernel_rfl) (by kernel_rfl) (by kernel_rfl) (fun _ _ _ h => h) (Or.inl ⟨by rfl, by intro wv hSv; have k9 := hSv.1; have k0 := hSv.2.cell 0 rfl; have k1 := hSv.2.cell 1 rfl; clear hSv; go_simp⟩) hS0 rfl ?_
  try simp only [Act.put, List.setIfInBounds_toArray, List.set_cons_zero, List.set_cons_succ]
  have hL0 := hLk.out _ bY0
  have bA : Below yd.heap.size yd (yd.alloc (.cells #[.bool ud.stack, .int .i64 ud.index] 61)) := (Below.refl _ _).alloc (Nat.le_refl _) _
  have bY1 := bY0.trans (bA.mono bY0.size)
  have hS1 := hSk.out _ bY1
  have hL1 := hLk.out _ bY1
  have hO1 := hOk.out _ bY1
  have hY1 := bY1.size
  refine wpAnyH_ready (rs := [4, 6]) (by kernel_rfl) (by simp) ?_
  refine (AllReadyH.cons rfl (fun K9 hK => ?_) (AllReadyH.cons rfl (fun K9 hK => ?_) AllReadyH.nil))
  ·
    go_simp
    refine hK.out _ _ hS0 (fun _ => ?_)
    clear hK K9
    try simp only [Act.put, List.setIfInBounds_toArray, List.set_cons_zero, List.set_cons_succ]
    refine wpAnyH_ready (rs := [6]) (by kernel_rfl) (by simp) ?_
    refine AllReadyH.cons rfl (fun K9 hK => ?_) AllReadyH.nil
    go_simp
    refine hK.out _ _ hS1 (fun _ => ?_)
    clear hK K9
    try simp only [Act.put, List.setIfInBounds_toArray, List.set_cons_zero, List.set_cons_succ]
    refine wpAnyH_ready (rs := [7]) (by kernel_rfl) (by simp) ?_
    refine AllReadyH.cons rfl (fun K9 hK => ?_) AllReadyH.nil
    refine step_append_lies _ rfl (.tmp 29) (.tmp 31) 50 rfl B 61 i0 (.agg #[.bool false, .int .i64 0]) 2 16 Tryz.underlying50 hi hz0 hz1 hz2 rfl (by decide) (q.a5) (q.p.ups.n) (upC q.p.ups) rfl hO1 ⟨yd.heap.size, 0, none⟩ 1 1 [.bool ud.stack, .int .i64 ud.index] rfl rfl (World.news_of_block (heap_alloc_new _ _)) (by intro u hu; simp only [List.mem_cons, List.not_mem_nil, or_false] at hu; rcases hu with rfl | rfl <;> rfl) (by omega) (by simp only [maxLen]; omega) (by omega) (Nat.le_trans hB2 hY1) _ rfl ?_
    intro g9 c9 w1 hrow hg hat hlt
    have hfin := hidR (hend.out.up (hbw.out.trans (bY1.mono hbw.out.size)) hg hrow hat hlt)
    have hS2 := hSf.out _ w1 bY1 hg
    have cz := hCf.out _ w1 bY1 hg
    have hS3 := hSg.out _ w1 (.slice (some ⟨g9, 0, none⟩) (q.p.ups.n + 1) c9) bY1 hg
    clear hrow hg hat hlt hi hz0 hz1 hz2 hO1
    refine hK.out _ _ hS2 (fun _ => ?_)
    clear hK K9
    try simp only [Act.put, List.setIfInBounds_toArray, List.set_cons_zero, List.set_cons_succ]
    refine take_dst 8 33 (.pointer (some ⟨g, N * 10, none⟩)) rfl (by kernel_rfl) (by kernel_rfl) (by kernel_rfl) (fun _ _ _ h => h) (Or.inl ⟨by rfl, by intro wv hSv; have k9 := hSv.1; clear hSv; go_simp⟩) hS2 rfl ?_
    try simp only [Act.put, List.setIfInBounds_toArray, List.set_cons_zero, List.set_cons_succ]
    refine take_dst 9 34 (.pointer (some ⟨g, N * 10 + 5, none⟩)) rfl (by kernel_rfl) (by kernel_rfl) (by kernel_rfl) (fun _ _ _ h => h) (Or.inl ⟨by rfl, by intro wv hSv; have k9 := hSv.1; clear hSv; go_simp⟩) hS2 rfl ?_
    try simp only [Act.put, List.setIfInBounds_toArray, List.set_cons_zero, List.set_cons_succ]
    refine wpAnyH_ready (rs := [10]) (by kernel_rfl) (by simp) ?_
    refine AllReadyH.cons rfl (fun K9 hK => ?_) AllReadyH.nil
    obtain ⟨cz1, cz2⟩ := cz
    go_simp
    refine hK.out _ _ hS3 (fun _ => ?_)
    clear hK K9
    try simp only [Act.put, List.setIfInBounds_toArray, List.set_cons_zero, List.set_cons_succ]
    refine wpAnyH_done (by kernel_rfl) ?_ _
    go_wp2_with fail
    rw [← hN9.out]
    refine bodyPost_ret (v := .bool true) (by simp [results, Tryz.results31, go_sem]) rfl ⟨true, _, rfl, hR.out, fun _ => ⟨_, _, ?_, hfin.out.1, hfin.out.2.2⟩, (by simp), hfin.out.2.1⟩
    simp
  ·
    go_simp
    refine hK.out _ _ hS1 (fun _ => ?_)
    clear hK K9
    try simp only [Act.put, List.setIfInBounds_toArray, List.set_cons_zero, List.set_cons_succ]
    refine wpAnyH_ready (rs := [4]) (by kernel_rfl) (by simp) ?_
    refine AllReadyH.cons rfl (fun K9 hK => ?_) AllReadyH.nil
    go_simp
    refine hK.out _ _ hS1 (fun _ => ?_)
    clear hK K9
    try simp only [Act.put, List.setIfInBounds_toArray, List.set_cons_zero, List.set_cons_succ]
    refine wpAnyH_ready (rs := [7]) (by kernel_rfl) (by simp) ?_
    refine AllReadyH.cons rfl (fun K9 hK => ?_) AllReadyH.nil
    refine step_append_lies _ rfl (.tmp 29) (.tmp 31) 50 rfl B 61 i0 (.agg #[.bool false, .int .i64 0]) 2 16 Tryz.underlying50 hi hz0 hz1 hz2 rfl (by decide) (q.a5) (q.p.ups.n) (upC q.p.ups) rfl hO1 ⟨yd.heap.size, 0, none⟩ 1 1 [.bool ud.stack, .int .i64 ud.index] rfl rfl (World.news_of_block (heap_alloc_new _ _)) (by intro u hu; simp only [List.mem_cons, List.not_mem_nil, or_false] at hu; rcases hu with rfl | rfl <;> rfl) (by omega) (by simp only [maxLen]; omega) (by omega) (Nat.le_trans hB2 hY1) _ rfl ?_
    intro g9 c9 w1 hrow hg hat hlt
    have hfin := hidR (hend.out.up (hbw.out.trans (bY1.mono hbw.out.size)) hg hrow hat hlt)
    have hS2 := hSf.out _ w1 bY1 hg
    have cz := hCf.out _ w1 bY1 hg
    have hS3 := hSg.out _ w1 (.slice (some ⟨g9, 0, none⟩) (q.p.ups.n + 1) c9) bY1 hg
    clear hrow hg hat hlt hi hz0 hz1 hz2 hO1
    refine hK.out _ _ hS2 (fun _ => ?_)
    clear hK K9
    try simp only [Act.put, List.setIfInBounds_toArray, List.set_cons_zero, List.set_cons_succ]
    refine take_dst 8 33 (.pointer (some ⟨g, N * 10, none⟩)) rfl (by kernel_rfl) (by kernel_rfl) (by kernel_rfl) (fun _ _ _ h => h) (Or.inl ⟨by rfl, by intro wv hSv; have k9 := hSv.1; clear hSv; go_simp⟩) hS2 rfl ?_
    try simp only [Act.put, List.setIfInBounds_toArray, List.set_cons_zero, List.set_cons_succ]
    refine take_dst 9 34 (.pointer (some ⟨g, N * 10 + 5, none⟩)) rfl (by kernel_rfl) (by kernel_rfl) (by kernel_rfl) (fun _ _ _ h => h) (Or.inl ⟨by rfl, by intro wv hSv; have k9 := hSv.1; clear hSv; go_simp⟩) hS2 rfl ?_
    try simp only [Act.put, List.setIfInBounds_toArray, List.set_cons_zero, List.set_cons_succ]
    refine wpAnyH_ready (rs := [10]) (by kernel_rfl) (by simp) ?_
    refine AllReadyH.cons rfl (fun K9 hK => ?_) AllReadyH.nil
    obtain ⟨cz1, cz2⟩ := cz
    go_simp
    refine hK.out _ _ hS3 (fun _ => ?_)
    clear hK K9
    try simp only [Act.put, List.setIfInBounds_toArray, List.set_cons_zero, List.set_cons_succ]
    refine wpAnyH_done (by kernel_rfl) ?_ _
    go_wp2_with fail
    rw [← hN9.out]
    refine bodyPost_ret (v := .bool true) (by simp [results, Tryz.results31, go_sem]) rfl ⟨true, _, rfl, hR.out, fun _ => ⟨_, _, ?_, hfin.out.1, hfin.out.2.2⟩, (by simp), hfin.out.2.1⟩
    simp
end Go.Proofs.YtkanjbopfflioaaGreatDoor

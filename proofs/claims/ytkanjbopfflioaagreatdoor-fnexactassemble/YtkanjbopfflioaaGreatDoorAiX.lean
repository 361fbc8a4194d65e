import Derived.Test.YtkanjbopfflioaaGreatDoorAiV
import Derived.Deep.AppendLies
namespace Go.Proofs.YtkanjbopfflioaaGreatDoor
open Go.RowKit Go.Shelf
set_option linter.unusedVariables false
set_option linter.unusedSimpArgs false
set_option maxRecDepth 100000
set_option maxHeartbeats 4000000
theorem Chg.drew {w w' : World} {mB pB : Nat} {sv : Value} {Q : List PV} (h : Chg w w' mB pB sv Q) : Chg w w'.drew mB pB sv Q := ⟨h.os, h.tape, h.output, h.size, h.block⟩
theorem infPr : (Tryz.prog.info? 53).map (fun i => (i.zero, i.size, i.bytes)) = some (some (.agg #[.int .i64 0, .bool false, .int .i64 0, .slice none 0 0, .slice none 0 0, .slice none 0 0, .int .i64 0, .string ⟨#[]⟩, .slice none 0 0, .slice none 0 0]), 10, 168) := by kernel_rfl
theorem rowL_ne {w : World} {x y : Nat} {t t' : TypeId} {L L' : List Value} (hx : RowL w x t L) (hy : RowL w y t' L') (ht : t ≠ t') : x ≠ y := fun e => by
  subst e
  obtain ⟨c, hc, _⟩ := hx
  obtain ⟨c', hc', _⟩ := hy
  rw [hc] at hc'
  simp only [Option.some.injEq, Obj.cells.injEq] at hc'
  exact ht hc'.2.1
theorem headIn_any {R : Option PD} {e : Ending} (h : HeadIn R e) : ∃ (a b d : Int) (v bo : Bool), e = .returned (.tuple #[.agg #[.int .i64 a, .bool v, .int .i64 b, .slice none 0 0, .slice none 0 0, .slice none 0 0, .int .i64 d, .string ⟨#[]⟩, .slice none 0 0, .slice none 0 0], .bool bo]) ∧ (bo = true → R = some (bareP a b d v)) ∧ (bo = false → R = none) := by
  rcases h with ⟨a, b, d, v, h1, h2⟩ | ⟨h1, h2⟩
  · exact ⟨a, b, d, v, true, h2, fun _ => h1, by simp⟩
  · exact ⟨0, 0, 0, false, false, h2, by simp, fun _ => h1⟩
theorem read_proto (r : List ByteArray) (gw o c : Nat) (w : World) (hcap : r.length ≤ c) (ho : o ≤ 1000) (hN : r.length ≤ 100000) (hc : ∀ (j : Nat) x, r[j]? = some x → w.cell? ⟨gw, o + j, none⟩ = some (.string x)) (hg : gw < w.heap.size) (hz : ∀ x ∈ r, x.size ≤ 100000) (hv : Env w)
    (B mB xB pB : Nat) (sv : Value) (Q : List PV) (h : Mw w B mB xB pB sv Q) (hf : Few 60001 (Q.map (·.p))) :
    Calls Tryz.prog 27 #[.slice (some ⟨gw, o, none⟩) r.length c, .pointer (some ⟨xB, 0, none⟩), .pointer (some ⟨pB, 0, none⟩)] w fun e w' => ReadEnds w B mB xB pB sv Q protoB' r e w' := by
  have hcon := hidR (headIn_in r gw o c w hcap ho hN hc hg hz hv)
  have hx9 := h.mp.cell 0 rfl
  have hxl := h.mp.lt
  have hm9 := h.made.cell 0 rfl
  have hml := h.made.lt
  have hmf := h.made.frozen 0
  have hp9 := h.p.cell 0 rfl
  have hpf := h.p.frozen 0
  have hpl := h.p.lt
  have hxm : xB ≠ mB := rowL_ne h.mp h.made (by decide)
  have hxp : xB ≠ pB := rowL_ne h.mp h.p (by decide)
  have hmp := h.n1
  have hB : B ≤ w.heap.size := h.rg.shut.choose_spec.base
  have hlB := h.l1
  have hlB2 := h.l2
  have hlB3 := h.l3
  have hfk := hf.1
  rw [List.length_map] at hfk
  have hch : ∀ k, sv.ownBlock = some k → k < w.heap.size ∧ B ≤ k := fun k hk => ownsRow_lt h.mem.row k hk
  have hrow0 := hidR h.mem.row
  obtain ⟨so, sc, hse⟩ := own_slice' h.mem.row
  replace h := hidR h
  replace hc := hidR hc
  replace hz := hidR hz
  replace hv := hidR hv
  replace hf := hidR hf
  replace hse := hidR hse
  replace hch := hidR hch
  go_enter Tryz.func27, Tryz.ntmps27
  go_wp2_with fail
  refine Calls.mono hcon.out ?_
  rintro e y1 ⟨hC, b1⟩
  clear hcon
  obtain ⟨a, b, d, v, bo, rfl, hyes, hno⟩ := headIn_any hC
  clear hC
  replace hyes := hidR hyes
  replace hno := hidR hno
  obtain ⟨i0, hi, hz0, hz1, hz2⟩ := info_parts infPr
  go_upto_region 2 with (refine wpList_store_row rfl 53 (.tmp 5) (.tmp 10) rfl y1.heap.size #[.int .i64 a, .bool v, .int .i64 b, .slice none 0 0, .slice none 0 0, .slice none 0 0, .int .i64 d, .string ⟨#[]⟩, .slice none 0 0, .slice none 0 0] rfl rfl 53 _ (heap_alloc_new _ _) (by simpa using infP1) rfl (by simp [Value.oneCell']) ?_)
  try simp only [Act.put]
  have RV : RowL ((y1.alloc (.cells #[.int .i64 0, .bool false, .int .i64 0, .slice none 0 0, .slice none 0 0, .slice none 0 0, .int .i64 0, .string ⟨#[]⟩, .slice none 0 0, .slice none 0 0] 53)).setRow y1.heap.size #[.int .i64 a, .bool v, .int .i64 b, .slice none 0 0, .slice none 0 0, .slice none 0 0, .int .i64 d, .string ⟨#[]⟩, .slice none 0 0, .slice none 0 0]) y1.heap.size 53 [.int .i64 a, .bool v, .int .i64 b, .slice none 0 0, .slice none 0 0, .slice none 0 0, .int .i64 d, .string ⟨#[]⟩, .slice none 0 0, .slice none 0 0] := (RowL.new y1 [.int .i64 0, .bool false, .int .i64 0, .slice none 0 0, .slice none 0 0, .slice none 0 0, .int .i64 0, .string ⟨#[]⟩, .slice none 0 0, .slice none 0 0] 53).setRow [.int .i64 a, .bool v, .int .i64 b, .slice none 0 0, .slice none 0 0, .slice none 0 0, .int .i64 d, .string ⟨#[]⟩, .slice none 0 0, .slice none 0 0] rfl
  have b2 : Below y1.heap.size y1 ((y1.alloc (.cells #[.int .i64 0, .bool false, .int .i64 0, .slice none 0 0, .slice none 0 0, .slice none 0 0, .int .i64 0, .string ⟨#[]⟩, .slice none 0 0, .slice none 0 0] 53)).setRow y1.heap.size #[.int .i64 a, .bool v, .int .i64 b, .slice none 0 0, .slice none 0 0, .slice none 0 0, .int .i64 d, .string ⟨#[]⟩, .slice none 0 0, .slice none 0 0]) := below_row ((Below.refl _ _).alloc (Nat.le_refl _) _) (Nat.le_refl _) _
  generalize (y1.alloc (.cells #[.int .i64 0, .bool false, .int .i64 0, .slice none 0 0, .slice none 0 0, .slice none 0 0, .int .i64 0, .string ⟨#[]⟩, .slice none 0 0, .slice none 0 0] 53)).setRow y1.heap.size #[.int .i64 a, .bool v, .int .i64 b, .slice none 0 0, .slice none 0 0, .slice none 0 0, .int .i64 d, .string ⟨#[]⟩, .slice none 0 0, .slice none 0 0] = y2 at RV b2 ⊢
  have bw2 := b1.trans (b2.mono b1.size)
  have hvl : Hid (w.heap.size ≤ y1.heap.size) := b1.size
  have hvb := hidR RV
  have hy2 := b2.size
  have hy1 := b1.size
  clear b1 b2 RV
  obtain ⟨vB, hvB⟩ : ∃ vB, y1.heap.size = vB := ⟨_, rfl⟩
  rw [hvB] at hvb hvl hy2 hy1 ⊢
  clear hvB
  have hbw := hidR bw2
  have hB2 : B ≤ y2.heap.size := by omega
  have hSk : Hid (∀ y : World, Below y2.heap.size y2 y → (y.cell? ⟨xB, 0, none⟩ = some (.pointer (some ⟨mB, 0, none⟩)) ∧ RowL y vB 53 [.int .i64 a, .bool v, .int .i64 b, .slice none 0 0, .slice none 0 0, .slice none 0 0, .int .i64 d, .string ⟨#[]⟩, .slice none 0 0, .slice none 0 0])) := fun y hy => ⟨(hy.cell (p := ⟨xB, 0, none⟩) (show xB < y2.heap.size by omega)).trans ((bw2.cell (p := ⟨xB, 0, none⟩) hxl).trans hx9), hvb.out.call hy⟩
  have hLk : Hid (∀ y : World, Below y2.heap.size y2 y → y.cell? ⟨mB, 0, none⟩ = some sv) := fun y hy => (hy.cell (p := ⟨mB, 0, none⟩) (show mB < y2.heap.size by omega)).trans ((bw2.cell (p := ⟨mB, 0, none⟩) hml).trans hm9)
  have hOk : Hid (∀ y : World, Below y2.heap.size y2 y → y.ownsRow B 53 10 sv Q.length (Q.flatMap PV.cells)) := fun y hy => ownsRow_keep hrow0.out fun k hk => (hy.block k (by have := (hch.out k hk).1; omega)).trans (hbw.out.block k (hch.out k hk).1)
  have hSf : Hid (∀ y w1 : World, Below y2.heap.size y2 y → y.grownBy w1 sv.ownBlock → (w1.cell? ⟨xB, 0, none⟩ = some (.pointer (some ⟨mB, 0, none⟩)) ∧ RowL w1 vB 53 [.int .i64 a, .bool v, .int .i64 b, .slice none 0 0, .slice none 0 0, .slice none 0 0, .int .i64 d, .string ⟨#[]⟩, .slice none 0 0, .slice none 0 0])) := fun y w1 hy hg => ⟨hg.cell (a := ⟨xB, 0, none⟩) (hSk.out y hy).1 (fun e => by have := hch.out xB e.symm; omega), World.rowIs.of_block (hSk.out y hy).2 (hg.block _ (hSk.out y hy).2.lt (fun e => by have := hch.out _ e.symm; have := hvl.out; omega))⟩
  have hCf : Hid (∀ y w1 : World, Below y2.heap.size y2 y → y.grownBy w1 sv.ownBlock → ((w1.cell? ⟨mB, 0, none⟩ = some sv ∧ w1.frozen? ⟨mB, 0, none⟩ = false) ∧ (w1.cell? ⟨pB, 0, none⟩ = some (lastP sv Q.length) ∧ w1.frozen? ⟨pB, 0, none⟩ = false))) := fun y w1 hy hg => by
    have hb : ∀ k, k < B → k < w.heap.size → w1.heap[k]? = w.heap[k]? := fun k hk hk2 => (hg.block k (by have := hy.size; omega) (fun e => by have := hch.out _ e.symm; omega)).trans ((hy.block k (by omega)).trans (hbw.out.block k hk2))
    have hb1 := hb mB hlB hml
    have hb2 := hb pB hlB3 hpl
    exact ⟨⟨(World.cell?_of_block (a := ⟨mB, 0, none⟩) hb1).trans hm9, (World.frozen?_of_block (a := ⟨mB, 0, none⟩) hb1).trans hmf⟩, (World.cell?_of_block (a := ⟨pB, 0, none⟩) hb2).trans hp9, (World.frozen?_of_block (a := ⟨pB, 0, none⟩) hb2).trans hpf⟩
  have hSg : Hid (∀ (y w1 : World) (u : Value), Below y2.heap.size y2 y → y.grownBy w1 sv.ownBlock → ((w1.setCell ⟨mB, 0, none⟩ u).cell? ⟨xB, 0, none⟩ = some (.pointer (some ⟨mB, 0, none⟩)) ∧ RowL (w1.setCell ⟨mB, 0, none⟩ u) vB 53 [.int .i64 a, .bool v, .int .i64 b, .slice none 0 0, .slice none 0 0, .slice none 0 0, .int .i64 d, .string ⟨#[]⟩, .slice none 0 0, .slice none 0 0])) := fun y w1 u hy hg => ⟨(World.cell?_of_block (a := ⟨xB, 0, none⟩) (heap_setCell_other w1 ⟨mB, 0, none⟩ xB u hxm)).trans (hSf.out y w1 hy hg).1, World.rowIs.of_block (hSf.out y w1 hy hg).2 (heap_setCell_other w1 ⟨mB, 0, none⟩ vB u (show vB ≠ mB by have := hvl.out; omega))⟩
  have hend := hidR h.out
  clear hx9 hm9 hmf hp9 hpf bw2
  have hpub : Hid (mB ≠ pB ∧ xB ≠ pB ∧ xB ≠ mB ∧ vB ≠ pB) := ⟨hmp, hxp, hxm, by have := hvl.out; omega⟩
  clear hmp hxp hxm
  have bY0 : Below y2.heap.size y2 y2.drew := (Below.refl _ _).drew
  have hS0 := hSk.out _ bY0
  refine wp_region_held_drew (S := fun y => y.cell? ⟨xB, 0, none⟩ = some (.pointer (some ⟨mB, 0, none⟩)) ∧ RowL y vB 53 [.int .i64 a, .bool v, .int .i64 b, .slice none 0 0, .slice none 0 0, .slice none 0 0, .int .i64 d, .string ⟨#[]⟩, .slice none 0 0, .slice none 0 0]) (by kernel_rfl) hS0 (fun hH => ?_)
  clear hH
  generalize y2.drew = yd at bY0 hS0 ⊢
  refine take_dst 0 12 (.pointer (some ⟨mB, 0, none⟩)) rfl (by kernel_rfl) (by kernel_rfl) (by kernel_rfl) (fun _ _ _ h => h) (Or.inl ⟨by rfl, by intro wv hSv; have k19 := hSv.1; clear hSv; go_simp⟩) hS0 rfl ?_
  try simp only [Act.put, List.setIfInBounds_toArray, List.set_cons_zero, List.set_cons_succ]
  refine take_dst 1 13 (.pointer (some ⟨mB, 0, none⟩)) rfl (by kernel_rfl) (by kernel_rfl) (by kernel_rfl) (fun _ _ _ h => h) (Or.inl ⟨by rfl, by intro wv hSv; have k19 := hSv.1; clear hSv; go_simp⟩) hS0 rfl ?_
  try simp only [Act.put, List.setIfInBounds_toArray, List.set_cons_zero, List.set_cons_succ]
  refine take_dst 2 14 (.pointer (some ⟨mB, 0, none⟩)) rfl (by kernel_rfl) (by kernel_rfl) (by kernel_rfl) (fun _ _ _ h => h) (Or.inl ⟨by rfl, by intro wv hSv; have k19 := hSv.1; clear hSv; go_simp⟩) hS0 rfl ?_
  try simp only [Act.put, List.setIfInBounds_toArray, List.set_cons_zero, List.set_cons_succ]
  refine take_dst 3 15 (.pointer (some ⟨mB, 0, none⟩)) rfl (by kernel_rfl) (by kernel_rfl) (by kernel_rfl) (fun _ _ _ h => h) (Or.inl ⟨by rfl, by intro wv hSv; have k19 := hSv.1; clear hSv; go_simp⟩) hS0 rfl ?_
  try simp only [Act.put, List.setIfInBounds_toArray, List.set_cons_zero, List.set_cons_succ]
  refine take_dst 5 17 (.agg #[.int .i64 a, .bool v, .int .i64 b, .slice none 0 0, .slice none 0 0, .slice none 0 0, .int .i64 d, .string ⟨#[]⟩, .slice none 0 0, .slice none 0 0]) rfl (by kernel_rfl) (by kernel_rfl) (by kernel_rfl) (fun _ _ _ h => h) (Or.inl ⟨by rfl, by intro wv hSv; have k19 := hSv.1; have k0 := hSv.2.cell 0 rfl; have k1 := hSv.2.cell 1 rfl; have k2 := hSv.2.cell 2 rfl; have k3 := hSv.2.cell 3 rfl; have k4 := hSv.2.cell 4 rfl; have k5 := hSv.2.cell 5 rfl; have k6 := hSv.2.cell 6 rfl; have k7 := hSv.2.cell 7 rfl; have k8 := hSv.2.cell 8 rfl; have k9 := hSv.2.cell 9 rfl; clear hSv; go_simp⟩) hS0 rfl ?_
  try simp only [Act.put, List.setIfInBounds_toArray, List.set_cons_zero, List.set_cons_succ]
  have hL0 := hLk.out _ bY0
  have bA : Below yd.heap.size yd (yd.alloc (.cells #[.int .i64 a, .bool v, .int .i64 b, .slice none 0 0, .slice none 0 0, .slice none 0 0, .int .i64 d, .string ⟨#[]⟩, .slice none 0 0, .slice none 0 0] 53)) := (Below.refl _ _).alloc (Nat.le_refl _) _
  have bY1 := bY0.trans (bA.mono bY0.size)
  have hS1 := hSk.out _ bY1
  have hL1 := hLk.out _ bY1
  have hO1 := hOk.out _ bY1
  have hY1 := bY1.size
  refine wpAnyH_ready (rs := [4, 6]) (by kernel_rfl) (by simp) ?_
  refine (AllReadyH.cons rfl (fun K9 hK => ?_) (AllReadyH.cons rfl (fun K9 hK => ?_) AllReadyH.nil))
  ·
    go_simp
    refine hK.out _ _ hS0 (fun _ => ?_)
    clear hK K9
    try simp only [Act.put, List.setIfInBounds_toArray, List.set_cons_zero, List.set_cons_succ]
    refine wpAnyH_ready (rs := [6]) (by kernel_rfl) (by simp) ?_
    refine AllReadyH.cons rfl (fun K9 hK => ?_) AllReadyH.nil
    go_simp
    refine hK.out _ _ hS1 (fun _ => ?_)
    clear hK K9
    try simp only [Act.put, List.setIfInBounds_toArray, List.set_cons_zero, List.set_cons_succ]
    refine wpAnyH_ready (rs := [7]) (by kernel_rfl) (by simp) ?_
    refine AllReadyH.cons rfl (fun K9 hK => ?_) AllReadyH.nil
    refine step_append_lies _ rfl (.tmp 16) (.tmp 18) 22 rfl B 53 i0 (.agg #[.int .i64 0, .bool false, .int .i64 0, .slice none 0 0, .slice none 0 0, .slice none 0 0, .int .i64 0, .string ⟨#[]⟩, .slice none 0 0, .slice none 0 0]) 10 168 Tryz.underlying22 hi hz0 hz1 hz2 rfl (by decide) (sv) (Q.length) (Q.flatMap PV.cells) rfl hO1 ⟨yd.heap.size, 0, none⟩ 1 1 [.int .i64 a, .bool v, .int .i64 b, .slice none 0 0, .slice none 0 0, .slice none 0 0, .int .i64 d, .string ⟨#[]⟩, .slice none 0 0, .slice none 0 0] rfl rfl (World.news_of_block (heap_alloc_new _ _)) (by intro u hu; simp only [List.mem_cons, List.not_mem_nil, or_false] at hu; rcases hu with rfl | rfl | rfl | rfl | rfl | rfl | rfl | rfl | rfl | rfl <;> rfl) (by omega) (by simp only [maxLen]; omega) (by omega) (Nat.le_trans hB2 hY1) _ rfl ?_
    intro g9 c9 w1 hrow hg hat hlt
    have hfin := hidR (hend.out.head (hbw.out.trans (bY1.mono hbw.out.size)) hg hrow hat hlt)
    have hS2 := hSf.out _ w1 bY1 hg
    obtain ⟨cz, cp9⟩ := hCf.out _ w1 bY1 hg
    have cp9 := hidR cp9
    have hS3 := hSg.out _ w1 (.slice (some ⟨g9, 0, none⟩) (Q.length + 1) c9) bY1 hg
    clear hrow hg hat hlt hi hz0 hz1 hz2 hO1
    refine hK.out _ _ hS2 (fun _ => ?_)
    clear hK K9
    try simp only [Act.put, List.setIfInBounds_toArray, List.set_cons_zero, List.set_cons_succ]
    refine take_dst 8 20 (.pointer (some ⟨mB, 0, none⟩)) rfl (by kernel_rfl) (by kernel_rfl) (by kernel_rfl) (fun _ _ _ h => h) (Or.inl ⟨by rfl, by intro wv hSv; have k19 := hSv.1; clear hSv; go_simp⟩) hS2 rfl ?_
    try simp only [Act.put, List.setIfInBounds_toArray, List.set_cons_zero, List.set_cons_succ]
    refine take_dst 9 21 (.pointer (some ⟨mB, 0, none⟩)) rfl (by kernel_rfl) (by kernel_rfl) (by kernel_rfl) (fun _ _ _ h => h) (Or.inl ⟨by rfl, by intro wv hSv; have k19 := hSv.1; clear hSv; go_simp⟩) hS2 rfl ?_
    try simp only [Act.put, List.setIfInBounds_toArray, List.set_cons_zero, List.set_cons_succ]
    refine wpAnyH_ready (rs := [10]) (by kernel_rfl) (by simp) ?_
    refine AllReadyH.cons rfl (fun K9 hK => ?_) AllReadyH.nil
    have cm9 : Hid ((w1.setCell ⟨mB, 0, none⟩ (.slice (some ⟨g9, 0, none⟩) (Q.length + 1) c9)).cell? ⟨mB, 0, none⟩ = some (.slice (some ⟨g9, 0, none⟩) (Q.length + 1) c9)) := World.cell?_setCell_same _ _ _ cz.1
    obtain ⟨cz1, cz2⟩ := cz
    go_simp
    refine hK.out _ _ hS3 (fun _ => ?_)
    clear hK K9
    try simp only [Act.put, List.setIfInBounds_toArray, List.set_cons_zero, List.set_cons_succ]
    refine wpAnyH_done (by kernel_rfl) ?_ _
    have hQw : IntKind.i64.wrap (Q.length : Int) = (Q.length : Int) := by
      rw [IntKind.wrap_i64]; omega
    have hT0 : (w1.setCell ⟨mB, 0, none⟩ (.slice (some ⟨g9, 0, none⟩) (Q.length + 1) c9)).drew.cell? ⟨xB, 0, none⟩ = some (.pointer (some ⟨mB, 0, none⟩)) ∧ (w1.setCell ⟨mB, 0, none⟩ (.slice (some ⟨g9, 0, none⟩) (Q.length + 1) c9)).drew.cell? ⟨mB, 0, none⟩ = some (.slice (some ⟨g9, 0, none⟩) (Q.length + 1) c9) := ⟨hS3.1, cm9.out⟩
    have hpc : (w1.setCell ⟨mB, 0, none⟩ (.slice (some ⟨g9, 0, none⟩) (Q.length + 1) c9)).drew.cell? ⟨pB, 0, none⟩ = some (lastP sv Q.length) := (World.cell?_of_block (a := ⟨pB, 0, none⟩) (heap_setCell_other w1 ⟨mB, 0, none⟩ pB _ (Ne.symm hpub.out.1))).trans cp9.out.1
    have hpz : (w1.setCell ⟨mB, 0, none⟩ (.slice (some ⟨g9, 0, none⟩) (Q.length + 1) c9)).drew.frozen? ⟨pB, 0, none⟩ = false := (World.frozen?_of_block (a := ⟨pB, 0, none⟩) (heap_setCell_other w1 ⟨mB, 0, none⟩ pB _ (Ne.symm hpub.out.1))).trans cp9.out.2
    have hT1 : ((w1.setCell ⟨mB, 0, none⟩ (.slice (some ⟨g9, 0, none⟩) (Q.length + 1) c9)).drew.setCell ⟨pB, 0, none⟩ (.pointer (some ⟨g9, Q.length * 10, none⟩))).cell? ⟨xB, 0, none⟩ = some (.pointer (some ⟨mB, 0, none⟩)) ∧ ((w1.setCell ⟨mB, 0, none⟩ (.slice (some ⟨g9, 0, none⟩) (Q.length + 1) c9)).drew.setCell ⟨pB, 0, none⟩ (.pointer (some ⟨g9, Q.length * 10, none⟩))).cell? ⟨mB, 0, none⟩ = some (.slice (some ⟨g9, 0, none⟩) (Q.length + 1) c9) := ⟨(World.cell?_of_block (a := ⟨xB, 0, none⟩) (heap_setCell_other _ ⟨pB, 0, none⟩ xB _ hpub.out.2.1)).trans hT0.1, (World.cell?_of_block (a := ⟨mB, 0, none⟩) (heap_setCell_other _ ⟨pB, 0, none⟩ mB _ hpub.out.1)).trans hT0.2⟩
    replace hT1 := hidR hT1
    go_upto_region 3 with fail
    obtain ⟨w2, hw2⟩ : ∃ w2, (w1.setCell ⟨mB, 0, none⟩ (.slice (some ⟨g9, 0, none⟩) (Q.length + 1) c9)).drew = w2 := ⟨_, rfl⟩
    rw [hw2] at hT0 hpc hpz hT1
    replace hw2 := hidR hw2
    refine wp_region_held_drew (S := fun y => y.cell? ⟨xB, 0, none⟩ = some (.pointer (some ⟨mB, 0, none⟩)) ∧ y.cell? ⟨mB, 0, none⟩ = some (.slice (some ⟨g9, 0, none⟩) (Q.length + 1) c9)) (by kernel_rfl) (by rw [hw2.out]; exact hT0) (fun hH => ?_)
    clear hH
    rw [hw2.out]
    refine take_dst 0 22 (.pointer (some ⟨mB, 0, none⟩)) rfl (by kernel_rfl) (by kernel_rfl) (by kernel_rfl) (fun _ _ _ h => h) (Or.inl ⟨by rfl, by intro wv hSv; obtain ⟨k8, k9⟩ := hSv; go_simp⟩) hT0 rfl ?_
    try simp only [Act.put, List.setIfInBounds_toArray, List.set_cons_zero, List.set_cons_succ]
    refine take_dst 1 23 (.pointer (some ⟨mB, 0, none⟩)) rfl (by kernel_rfl) (by kernel_rfl) (by kernel_rfl) (fun _ _ _ h => h) (Or.inl ⟨by rfl, by intro wv hSv; obtain ⟨k8, k9⟩ := hSv; go_simp⟩) hT0 rfl ?_
    try simp only [Act.put, List.setIfInBounds_toArray, List.set_cons_zero, List.set_cons_succ]
    refine take_dst 2 24 (.pointer (some ⟨mB, 0, none⟩)) rfl (by kernel_rfl) (by kernel_rfl) (by kernel_rfl) (fun _ _ _ h => h) (Or.inl ⟨by rfl, by intro wv hSv; obtain ⟨k8, k9⟩ := hSv; go_simp⟩) hT0 rfl ?_
    try simp only [Act.put, List.setIfInBounds_toArray, List.set_cons_zero, List.set_cons_succ]
    refine take_dst 3 25 (.slice (some ⟨g9, 0, none⟩) (Q.length + 1) c9) rfl (by kernel_rfl) (by kernel_rfl) (by kernel_rfl) (fun _ _ _ h => h) (Or.inl ⟨by rfl, by intro wv hSv; obtain ⟨k8, k9⟩ := hSv; go_simp⟩) hT0 rfl ?_
    try simp only [Act.put, List.setIfInBounds_toArray, List.set_cons_zero, List.set_cons_succ]
    refine take_dst 4 26 (.pointer (some ⟨mB, 0, none⟩)) rfl (by kernel_rfl) (by kernel_rfl) (by kernel_rfl) (fun _ _ _ h => h) (Or.inl ⟨by rfl, by intro wv hSv; obtain ⟨k8, k9⟩ := hSv; go_simp⟩) hT0 rfl ?_
    try simp only [Act.put, List.setIfInBounds_toArray, List.set_cons_zero, List.set_cons_succ]
    refine take_dst 5 27 (.pointer (some ⟨mB, 0, none⟩)) rfl (by kernel_rfl) (by kernel_rfl) (by kernel_rfl) (fun _ _ _ h => h) (Or.inl ⟨by rfl, by intro wv hSv; obtain ⟨k8, k9⟩ := hSv; go_simp⟩) hT0 rfl ?_
    try simp only [Act.put, List.setIfInBounds_toArray, List.set_cons_zero, List.set_cons_succ]
    refine take_dst 6 28 (.pointer (some ⟨mB, 0, none⟩)) rfl (by kernel_rfl) (by kernel_rfl) (by kernel_rfl) (fun _ _ _ h => h) (Or.inl ⟨by rfl, by intro wv hSv; obtain ⟨k8, k9⟩ := hSv; go_simp⟩) hT0 rfl ?_
    try simp only [Act.put, List.setIfInBounds_toArray, List.set_cons_zero, List.set_cons_succ]
    refine take_dst 7 29 (.slice (some ⟨g9, 0, none⟩) (Q.length + 1) c9) rfl (by kernel_rfl) (by kernel_rfl) (by kernel_rfl) (fun _ _ _ h => h) (Or.inl ⟨by rfl, by intro wv hSv; obtain ⟨k8, k9⟩ := hSv; go_simp⟩) hT0 rfl ?_
    try simp only [Act.put, List.setIfInBounds_toArray, List.set_cons_zero, List.set_cons_succ]
    refine take_dst 8 30 (.int .i64 ((Q.length + 1 : Nat) : Int)) rfl (by kernel_rfl) (by kernel_rfl) (by kernel_rfl) (fun _ _ _ h => h) (Or.inl ⟨by rfl, by intro wv hSv; obtain ⟨k8, k9⟩ := hSv; go_simp⟩) hT0 rfl ?_
    try simp only [Act.put, List.setIfInBounds_toArray, List.set_cons_zero, List.set_cons_succ]
    refine take_dst 9 31 (.int .i64 (Q.length : Int)) rfl (by kernel_rfl) (by kernel_rfl) (by kernel_rfl) (fun _ _ _ h => h) (Or.inl ⟨by rfl, by intro wv hSv; obtain ⟨k8, k9⟩ := hSv; go_simp <;> exact hQw⟩) hT0 rfl ?_
    try simp only [Act.put, List.setIfInBounds_toArray, List.set_cons_zero, List.set_cons_succ]
    refine take_dst 10 32 (.pointer (some ⟨g9, Q.length * 10, none⟩)) rfl (by kernel_rfl) (by kernel_rfl) (by kernel_rfl) (fun _ _ _ h => h) (Or.inl ⟨by rfl, by intro wv hSv; obtain ⟨k8, k9⟩ := hSv; go_simp <;> (intro h9; exfalso; omega)⟩) hT0 rfl ?_
    try simp only [Act.put, List.setIfInBounds_toArray, List.set_cons_zero, List.set_cons_succ]
    refine wpAnyH_ready (rs := [11]) (by kernel_rfl) (by simp) ?_
    refine AllReadyH.cons rfl (fun K9 hK => ?_) AllReadyH.nil
    go_simp
    refine hK.out _ _ hT1.out (fun _ => ?_)
    clear hK K9
    try simp only [Act.put, List.setIfInBounds_toArray, List.set_cons_zero, List.set_cons_succ]
    refine wpAnyH_done (by kernel_rfl) ?_ _
    go_wp2_with fail
    refine bodyPost_ret (v := .bool bo) (by simp [results, Tryz.results27, go_sem]) rfl ⟨bo, _, rfl, LStep.proto, fun hb => ⟨_, _, ?_, ?_, hfin.out.2.2⟩, fun hb => by rw [hno.out hb]; rfl, ?_⟩
    · rw [hyes.out hb]; simp
    · rw [← hw2.out]; exact hfin.out.1.later (Below.refl _ _).drew
    · rw [← hw2.out]; exact hfin.out.2.1.drew
    
  ·
    go_simp
    refine hK.out _ _ hS1 (fun _ => ?_)
    clear hK K9
    try simp only [Act.put, List.setIfInBounds_toArray, List.set_cons_zero, List.set_cons_succ]
    refine wpAnyH_ready (rs := [4]) (by kernel_rfl) (by simp) ?_
    refine AllReadyH.cons rfl (fun K9 hK => ?_) AllReadyH.nil
    go_simp
    refine hK.out _ _ hS1 (fun _ => ?_)
    clear hK K9
    try simp only [Act.put, List.setIfInBounds_toArray, List.set_cons_zero, List.set_cons_succ]
    refine wpAnyH_ready (rs := [7]) (by kernel_rfl) (by simp) ?_
    refine AllReadyH.cons rfl (fun K9 hK => ?_) AllReadyH.nil
    refine step_append_lies _ rfl (.tmp 16) (.tmp 18) 22 rfl B 53 i0 (.agg #[.int .i64 0, .bool false, .int .i64 0, .slice none 0 0, .slice none 0 0, .slice none 0 0, .int .i64 0, .string ⟨#[]⟩, .slice none 0 0, .slice none 0 0]) 10 168 Tryz.underlying22 hi hz0 hz1 hz2 rfl (by decide) (sv) (Q.length) (Q.flatMap PV.cells) rfl hO1 ⟨yd.heap.size, 0, none⟩ 1 1 [.int .i64 a, .bool v, .int .i64 b, .slice none 0 0, .slice none 0 0, .slice none 0 0, .int .i64 d, .string ⟨#[]⟩, .slice none 0 0, .slice none 0 0] rfl rfl (World.news_of_block (heap_alloc_new _ _)) (by intro u hu; simp only [List.mem_cons, List.not_mem_nil, or_false] at hu; rcases hu with rfl | rfl | rfl | rfl | rfl | rfl | rfl | rfl | rfl | rfl <;> rfl) (by omega) (by simp only [maxLen]; omega) (by omega) (Nat.le_trans hB2 hY1) _ rfl ?_
    intro g9 c9 w1 hrow hg hat hlt
    have hfin := hidR (hend.out.head (hbw.out.trans (bY1.mono hbw.out.size)) hg hrow hat hlt)
    have hS2 := hSf.out _ w1 bY1 hg
    obtain ⟨cz, cp9⟩ := hCf.out _ w1 bY1 hg
    have cp9 := hidR cp9
    have hS3 := hSg.out _ w1 (.slice (some ⟨g9, 0, none⟩) (Q.length + 1) c9) bY1 hg
    clear hrow hg hat hlt hi hz0 hz1 hz2 hO1
    refine hK.out _ _ hS2 (fun _ => ?_)
    clear hK K9
    try simp only [Act.put, List.setIfInBounds_toArray, List.set_cons_zero, List.set_cons_succ]
    refine take_dst 8 20 (.pointer (some ⟨mB, 0, none⟩)) rfl (by kernel_rfl) (by kernel_rfl) (by kernel_rfl) (fun _ _ _ h => h) (Or.inl ⟨by rfl, by intro wv hSv; have k19 := hSv.1; clear hSv; go_simp⟩) hS2 rfl ?_
    try simp only [Act.put, List.setIfInBounds_toArray, List.set_cons_zero, List.set_cons_succ]
    refine take_dst 9 21 (.pointer (some ⟨mB, 0, none⟩)) rfl (by kernel_rfl) (by kernel_rfl) (by kernel_rfl) (fun _ _ _ h => h) (Or.inl ⟨by rfl, by intro wv hSv; have k19 := hSv.1; clear hSv; go_simp⟩) hS2 rfl ?_
    try simp only [Act.put, List.setIfInBounds_toArray, List.set_cons_zero, List.set_cons_succ]
    refine wpAnyH_ready (rs := [10]) (by kernel_rfl) (by simp) ?_
    refine AllReadyH.cons rfl (fun K9 hK => ?_) AllReadyH.nil
    have cm9 : Hid ((w1.setCell ⟨mB, 0, none⟩ (.slice (some ⟨g9, 0, none⟩) (Q.length + 1) c9)).cell? ⟨mB, 0, none⟩ = some (.slice (some ⟨g9, 0, none⟩) (Q.length + 1) c9)) := World.cell?_setCell_same _ _ _ cz.1
    obtain ⟨cz1, cz2⟩ := cz
    go_simp
    refine hK.out _ _ hS3 (fun _ => ?_)
    clear hK K9
    try simp only [Act.put, List.setIfInBounds_toArray, List.set_cons_zero, List.set_cons_succ]
    refine wpAnyH_done (by kernel_rfl) ?_ _
    have hQw : IntKind.i64.wrap (Q.length : Int) = (Q.length : Int) := by
      rw [IntKind.wrap_i64]; omega
    have hT0 : (w1.setCell ⟨mB, 0, none⟩ (.slice (some ⟨g9, 0, none⟩) (Q.length + 1) c9)).drew.cell? ⟨xB, 0, none⟩ = some (.pointer (some ⟨mB, 0, none⟩)) ∧ (w1.setCell ⟨mB, 0, none⟩ (.slice (some ⟨g9, 0, none⟩) (Q.length + 1) c9)).drew.cell? ⟨mB, 0, none⟩ = some (.slice (some ⟨g9, 0, none⟩) (Q.length + 1) c9) := ⟨hS3.1, cm9.out⟩
    have hpc : (w1.setCell ⟨mB, 0, none⟩ (.slice (some ⟨g9, 0, none⟩) (Q.length + 1) c9)).drew.cell? ⟨pB, 0, none⟩ = some (lastP sv Q.length) := (World.cell?_of_block (a := ⟨pB, 0, none⟩) (heap_setCell_other w1 ⟨mB, 0, none⟩ pB _ (Ne.symm hpub.out.1))).trans cp9.out.1
    have hpz : (w1.setCell ⟨mB, 0, none⟩ (.slice (some ⟨g9, 0, none⟩) (Q.length + 1) c9)).drew.frozen? ⟨pB, 0, none⟩ = false := (World.frozen?_of_block (a := ⟨pB, 0, none⟩) (heap_setCell_other w1 ⟨mB, 0, none⟩ pB _ (Ne.symm hpub.out.1))).trans cp9.out.2
    have hT1 : ((w1.setCell ⟨mB, 0, none⟩ (.slice (some ⟨g9, 0, none⟩) (Q.length + 1) c9)).drew.setCell ⟨pB, 0, none⟩ (.pointer (some ⟨g9, Q.length * 10, none⟩))).cell? ⟨xB, 0, none⟩ = some (.pointer (some ⟨mB, 0, none⟩)) ∧ ((w1.setCell ⟨mB, 0, none⟩ (.slice (some ⟨g9, 0, none⟩) (Q.length + 1) c9)).drew.setCell ⟨pB, 0, none⟩ (.pointer (some ⟨g9, Q.length * 10, none⟩))).cell? ⟨mB, 0, none⟩ = some (.slice (some ⟨g9, 0, none⟩) (Q.length + 1) c9) := ⟨(World.cell?_of_block (a := ⟨xB, 0, none⟩) (heap_setCell_other _ ⟨pB, 0, none⟩ xB _ hpub.out.2.1)).trans hT0.1, (World.cell?_of_block (a := ⟨mB, 0, none⟩) (heap_setCell_other _ ⟨pB, 0, none⟩ mB _ hpub.out.1)).trans hT0.2⟩
    replace hT1 := hidR hT1
    go_upto_region 3 with fail
    obtain ⟨w2, hw2⟩ : ∃ w2, (w1.setCell ⟨mB, 0, none⟩ (.slice (some ⟨g9, 0, none⟩) (Q.length + 1) c9)).drew = w2 := ⟨_, rfl⟩
    rw [hw2] at hT0 hpc hpz hT1
    replace hw2 := hidR hw2
    refine wp_region_held_drew (S := fun y => y.cell? ⟨xB, 0, none⟩ = some (.pointer (some ⟨mB, 0, none⟩)) ∧ y.cell? ⟨mB, 0, none⟩ = some (.slice (some ⟨g9, 0, none⟩) (Q.length + 1) c9)) (by kernel_rfl) (by rw [hw2.out]; exact hT0) (fun hH => ?_)
    clear hH
    rw [hw2.out]
    refine take_dst 0 22 (.pointer (some ⟨mB, 0, none⟩)) rfl (by kernel_rfl) (by kernel_rfl) (by kernel_rfl) (fun _ _ _ h => h) (Or.inl ⟨by rfl, by intro wv hSv; obtain ⟨k8, k9⟩ := hSv; go_simp⟩) hT0 rfl ?_
    try simp only [Act.put, List.setIfInBounds_toArray, List.set_cons_zero, List.set_cons_succ]
    refine take_dst 1 23 (.pointer (some ⟨mB, 0, none⟩)) rfl (by kernel_rfl) (by kernel_rfl) (by kernel_rfl) (fun _ _ _ h => h) (Or.inl ⟨by rfl, by intro wv hSv; obtain ⟨k8, k9⟩ := hSv; go_simp⟩) hT0 rfl ?_
    try simp only [Act.put, List.setIfInBounds_toArray, List.set_cons_zero, List.set_cons_succ]
    refine take_dst 2 24 (.pointer (some ⟨mB, 0, none⟩)) rfl (by kernel_rfl) (by kernel_rfl) (by kernel_rfl) (fun _ _ _ h => h) (Or.inl ⟨by rfl, by intro wv hSv; obtain ⟨k8, k9⟩ := hSv; go_simp⟩) hT0 rfl ?_
    try simp only [Act.put, List.setIfInBounds_toArray, List.set_cons_zero, List.set_cons_succ]
    refine take_dst 3 25 (.slice (some ⟨g9, 0, none⟩) (Q.length + 1) c9) rfl (by kernel_rfl) (by kernel_rfl) (by kernel_rfl) (fun _ _ _ h => h) (Or.inl ⟨by rfl, by intro wv hSv; obtain ⟨k8, k9⟩ := hSv; go_simp⟩) hT0 rfl ?_
    try simp only [Act.put, List.setIfInBounds_toArray, List.set_cons_zero, List.set_cons_succ]
    refine take_dst 4 26 (.pointer (some ⟨mB, 0, none⟩)) rfl (by kernel_rfl) (by kernel_rfl) (by kernel_rfl) (fun _ _ _ h => h) (Or.inl ⟨by rfl, by intro wv hSv; obtain ⟨k8, k9⟩ := hSv; go_simp⟩) hT0 rfl ?_
    try simp only [Act.put, List.setIfInBounds_toArray, List.set_cons_zero, List.set_cons_succ]
    refine take_dst 5 27 (.pointer (some ⟨mB, 0, none⟩)) rfl (by kernel_rfl) (by kernel_rfl) (by kernel_rfl) (fun _ _ _ h => h) (Or.inl ⟨by rfl, by intro wv hSv; obtain ⟨k8, k9⟩ := hSv; go_simp⟩) hT0 rfl ?_
    try simp only [Act.put, List.setIfInBounds_toArray, List.set_cons_zero, List.set_cons_succ]
    refine take_dst 6 28 (.pointer (some ⟨mB, 0, none⟩)) rfl (by kernel_rfl) (by kernel_rfl) (by kernel_rfl) (fun _ _ _ h => h) (Or.inl ⟨by rfl, by intro wv hSv; obtain ⟨k8, k9⟩ := hSv; go_simp⟩) hT0 rfl ?_
    try simp only [Act.put, List.setIfInBounds_toArray, List.set_cons_zero, List.set_cons_succ]
    refine take_dst 7 29 (.slice (some ⟨g9, 0, none⟩) (Q.length + 1) c9) rfl (by kernel_rfl) (by kernel_rfl) (by kernel_rfl) (fun _ _ _ h => h) (Or.inl ⟨by rfl, by intro wv hSv; obtain ⟨k8, k9⟩ := hSv; go_simp⟩) hT0 rfl ?_
    try simp only [Act.put, List.setIfInBounds_toArray, List.set_cons_zero, List.set_cons_succ]
    refine take_dst 8 30 (.int .i64 ((Q.length + 1 : Nat) : Int)) rfl (by kernel_rfl) (by kernel_rfl) (by kernel_rfl) (fun _ _ _ h => h) (Or.inl ⟨by rfl, by intro wv hSv; obtain ⟨k8, k9⟩ := hSv; go_simp⟩) hT0 rfl ?_
    try simp only [Act.put, List.setIfInBounds_toArray, List.set_cons_zero, List.set_cons_succ]
    refine take_dst 9 31 (.int .i64 (Q.length : Int)) rfl (by kernel_rfl) (by kernel_rfl) (by kernel_rfl) (fun _ _ _ h => h) (Or.inl ⟨by rfl, by intro wv hSv; obtain ⟨k8, k9⟩ := hSv; go_simp <;> exact hQw⟩) hT0 rfl ?_
    try simp only [Act.put, List.setIfInBounds_toArray, List.set_cons_zero, List.set_cons_succ]
    refine take_dst 10 32 (.pointer (some ⟨g9, Q.length * 10, none⟩)) rfl (by kernel_rfl) (by kernel_rfl) (by kernel_rfl) (fun _ _ _ h => h) (Or.inl ⟨by rfl, by intro wv hSv; obtain ⟨k8, k9⟩ := hSv; go_simp <;> (intro h9; exfalso; omega)⟩) hT0 rfl ?_
    try simp only [Act.put, List.setIfInBounds_toArray, List.set_cons_zero, List.set_cons_succ]
    refine wpAnyH_ready (rs := [11]) (by kernel_rfl) (by simp) ?_
    refine AllReadyH.cons rfl (fun K9 hK => ?_) AllReadyH.nil
    go_simp
    refine hK.out _ _ hT1.out (fun _ => ?_)
    clear hK K9
    try simp only [Act.put, List.setIfInBounds_toArray, List.set_cons_zero, List.set_cons_succ]
    refine wpAnyH_done (by kernel_rfl) ?_ _
    go_wp2_with fail
    refine bodyPost_ret (v := .bool bo) (by simp [results, Tryz.results27, go_sem]) rfl ⟨bo, _, rfl, LStep.proto, fun hb => ⟨_, _, ?_, ?_, hfin.out.2.2⟩, fun hb => by rw [hno.out hb]; rfl, ?_⟩
    · rw [hyes.out hb]; simp
    · rw [← hw2.out]; exact hfin.out.1.later (Below.refl _ _).drew
    · rw [← hw2.out]; exact hfin.out.2.1.drew
    
end Go.Proofs.YtkanjbopfflioaaGreatDoor

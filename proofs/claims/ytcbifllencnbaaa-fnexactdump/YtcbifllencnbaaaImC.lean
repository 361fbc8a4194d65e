import Derived.Test.YtcbifllencnbaaaImB
namespace Go.Proofs.Ytcbifllencnbaaa
open Go.RowKit Go.Lib Go.Shelf
set_option linter.unusedVariables false
set_option linter.unusedSimpArgs false
attribute [local go_sem] Oper.semAt_some
def tag (d : VD) : Int := if d.kind = 0 then 0 else if d.kind = 1 then 1 + d.num else if d.kind = 2 then 3 else 4
theorem tag_bd {d : VD} (h : Cst d) : 0 ≤ tag d ∧ tag d ≤ 255 := by
  have := h.kind
  unfold tag
  split
  · omega
  · split
    · omega
    · split <;> omega
theorem by1_cells {t : Int} (h : 0 ≤ t ∧ t ≤ 255) : strCells (by1 t) = [.int .u8 t] := by
  unfold by1
  rw [strCells_nums]
  · rfl
  · intro x hx
    simp only [List.mem_singleton] at hx
    subst hx
    exact h
set_option maxRecDepth 100000 in
set_option maxHeartbeats 1000000 in
theorem tagOf_in (d : VD) (w : World) (h : Cst d) :
    Calls Try.prog 69 #[.agg #[.int .i64 d.kind, .int .i64 d.num, .string d.text]] w fun e w' => e = .returned (.int .u8 (tag d)) ∧ Below w.heap.size w w' := by
  obtain ⟨hk, -, -⟩ := h
  rcases hk with hk | ⟨hk, hn1, hn2⟩ | hk | ⟨hk, ht⟩
  · have hc : tag d = 0 := by simp [tag, hk]
    rw [hc]
    go_enter Try.func69, Try.ntmps69
    go_wp2_with fail
    go_ret
    exact ⟨rfl, by go_grown⟩
  · by_cases h0 : d.num = 0
    · have hc : tag d = 1 := by simp [tag, hk, h0]
      rw [hc]
      go_enter Try.func69, Try.ntmps69
      go_wp2_with fail
      go_ret
      exact ⟨rfl, by go_grown⟩
    · have h1 : d.num = 1 := by omega
      have hc : tag d = 2 := by simp [tag, hk, h1]
      rw [hc]
      go_enter Try.func69, Try.ntmps69
      go_wp2_with fail
      go_ret
      exact ⟨rfl, by go_grown⟩
  · have hc : tag d = 3 := by simp [tag, hk]
    rw [hc]
    go_enter Try.func69, Try.ntmps69
    go_wp2_with fail
    go_ret
    exact ⟨rfl, by go_grown⟩
  · have hc : tag d = 4 := by simp [tag, hk]
    rw [hc]
    go_enter Try.func69, Try.ntmps69
    go_wp2_with fail
    go_ret
    exact ⟨rfl, by go_grown⟩
theorem implI8 (z : Int) (w : World) (h0 : -9223372036854775808 ≤ z) (h1 : z ≤ 9223372036854775807) :
    Calls Try.prog 70 #[.int .i64 z] w fun e w' => e = .returned (.string (i8 z)) ∧ Below w.heap.size w w' := WPut.implPutInt z w h0 h1
/-- what a constant's bytes are. -/
theorem constB_tag (d : VD) (h : Cst d) : constB d = if d.kind = 2 then by1 (tag d) ++ i8 d.num else if d.kind = 3 then by1 (tag d) ++ sizedB d.text else by1 (tag d) := by
  have hk := h.kind
  unfold constB tag
  rcases hk with hk | ⟨hk, _⟩ | hk | ⟨hk, _⟩ <;> simp [hk]
set_option maxRecDepth 100000 in
set_option maxHeartbeats 4000000 in
theorem wValue_in (P : Nat) (d : VD) (w0 : World) (v0 : Value) (y : World) (v : Value) (X : ByteArray) (h : Wt P w0 v0 y v X) (hc : Cst d) (hs : X.size + (constB d).size ≤ 70368744177664) :
    Calls Try.prog 36 #[.pointer (some ⟨P, 0, none⟩), .agg #[.int .i64 d.kind, .int .i64 d.num, .string d.text]] y fun e w' => (∃ v', e = .returned (.tuple #[]) ∧ Wt P w0 v0 w' v' (X ++ constB d)) := by
  obtain ⟨a0, c0, rfl⟩ := h.buf.form
  obtain ⟨i0, hi, hz0, hz1, hz2⟩ := info_parts info8
  replace hs : Hid (X.size + (constB d).size ≤ 70368744177664) := hs
  have hct : Hid (constB d = if d.kind = 2 then by1 (tag d) ++ i8 d.num else if d.kind = 3 then by1 (tag d) ++ sizedB d.text else by1 (tag d)) := constB_tag d hc
  have hsz : Hid (X.size + (by1 (tag d)).size ≤ 140737488355328) := by
    show _ ≤ _
    have h1 := hs.out
    rw [hct.out] at h1
    rw [by1_size]
    split at h1
    · rw [ByteArray.size_append, by1_size] at h1; omega
    · split at h1
      · rw [ByteArray.size_append, by1_size] at h1; omega
      · rw [by1_size] at h1; omega
  have hP := h.box.lt
  have hol : Hid (∀ k, Value.ownBlock (.slice a0 X.size c0) = some k → k < y.heap.size) := h.buf.lt
  go_enter Try.func36, Try.ntmps36
  go_wp2_with fail
  have RP := RowL.new y [.int .i64 d.kind, .int .i64 d.num, .string d.text] 69
  have bw : Below y.heap.size y (y.alloc (.cells #[.int .i64 d.kind, .int .i64 d.num, .string d.text] 69)) := by go_grown
  have sz0 : (y.alloc (.cells #[.int .i64 d.kind, .int .i64 d.num, .string d.text] 69)).heap.size = y.heap.size + 1 := by simp
  generalize y.alloc (.cells #[.int .i64 d.kind, .int .i64 d.num, .string d.text] 69) = wx at RP bw sz0 ⊢
  have hWx : Hid (Wt P w0 v0 wx (.slice a0 X.size c0) X) := h.later bw
  have hF := hWx.out.fresh
  have hR : Hid (∀ z v', Fr (fun k => k = P) wx (.slice a0 X.size c0) z v' → RowL z y.heap.size 69 [.int .i64 d.kind, .int .i64 d.num, .string d.text]) := fun z v' hf =>
    World.rowIs.of_block RP (hf.block _ (by omega) (by omega) fun e => by have := hol.out _ e; omega)
  have hS : Hid (∀ z v', Fr (fun k => k = P) wx (.slice a0 X.size c0) z v' → (z.cell? ⟨y.heap.size, 0, none⟩ = some (.int .i64 d.kind) ∧ z.cell? ⟨y.heap.size, 1, none⟩ = some (.int .i64 d.num) ∧ z.cell? ⟨y.heap.size, 2, none⟩ = some (.string d.text))) := fun z v' hf =>
    ⟨(hR.out z v' hf).cell 0 rfl, (hR.out z v' hf).cell 1 rfl, (hR.out z v' hf).cell 2 rfl⟩
  clear RP bw h hR
  have hd := hF.drew
  obtain ⟨yd, hyd⟩ : ∃ x, x = wx.drew := ⟨_, rfl⟩
  refine wp_region_held_drew (S := fun z => z.cell? ⟨y.heap.size, 0, none⟩ = some (.int .i64 d.kind) ∧ z.cell? ⟨y.heap.size, 1, none⟩ = some (.int .i64 d.num) ∧ z.cell? ⟨y.heap.size, 2, none⟩ = some (.string d.text)) (by kernel_rfl) (hS.out _ _ hd.fr) (fun hH => ?_)
  rw [← hyd] at hd hH ⊢
  clear hyd hF
  have htb := tag_bd hc
  refine take_dst 0 4 (.pointer (some ⟨P, 0, none⟩)) rfl (by kernel_rfl) (by kernel_rfl) (by kernel_rfl) (fun _ _ _ h => h) (Or.inl ⟨by rfl, by intro wv hSv; (try dsimp only at hSv); go_simp⟩) hH rfl ?_
  try simp only [Act.put, List.setIfInBounds_toArray, List.set_cons_zero, List.set_cons_succ]
  refine take_dst 1 5 (.pointer (some ⟨P, 0, none⟩)) rfl (by kernel_rfl) (by kernel_rfl) (by kernel_rfl) (fun _ _ _ h => h) (Or.inl ⟨by rfl, by intro wv hSv; (try dsimp only at hSv); go_simp⟩) hH rfl ?_
  try simp only [Act.put, List.setIfInBounds_toArray, List.set_cons_zero, List.set_cons_succ]
  refine take_dst 2 6 (.pointer (some ⟨P, 0, none⟩)) rfl (by kernel_rfl) (by kernel_rfl) (by kernel_rfl) (fun _ _ _ h => h) (Or.inl ⟨by rfl, by intro wv hSv; (try dsimp only at hSv); go_simp⟩) hH rfl ?_
  try simp only [Act.put, List.setIfInBounds_toArray, List.set_cons_zero, List.set_cons_succ]
  refine take_dst 3 7 (.pointer (some ⟨P, 0, none⟩)) rfl (by kernel_rfl) (by kernel_rfl) (by kernel_rfl) (fun _ _ _ h => h) (Or.inl ⟨by rfl, by intro wv hSv; (try dsimp only at hSv); go_simp⟩) hH rfl ?_
  try simp only [Act.put, List.setIfInBounds_toArray, List.set_cons_zero, List.set_cons_succ]
  refine take_dst 5 9 (.agg #[.int .i64 d.kind, .int .i64 d.num, .string d.text]) rfl (by kernel_rfl) (by kernel_rfl) (by kernel_rfl) (fun _ _ _ h => h) (Or.inl ⟨by rfl, by intro wv hSv; (try dsimp only at hSv); go_simp⟩) hH rfl ?_
  try simp only [Act.put, List.setIfInBounds_toArray, List.set_cons_zero, List.set_cons_succ]
  refine wpAnyH_ready (rs := [4, 6]) (by kernel_rfl) (by simp) ?_
  refine AllReadyH.cons rfl (fun K hK => ?_) (AllReadyH.cons rfl (fun K hK => ?_) AllReadyH.nil)
  · have q := hd.box.cell 0 rfl
    go_simp
    clear q
    refine hK.out _ _ (hS.out _ _ hd.fr) (fun _ => ?_)
    clear hK K
    try simp only [Act.put, List.setIfInBounds_toArray, List.set_cons_zero, List.set_cons_succ]
    refine wpAnyH_ready (rs := [6]) (by kernel_rfl) (by simp) ?_
    refine AllReadyH.cons rfl (fun K hK => ?_) AllReadyH.nil
    go_simp
    refine (tagOf_in d _ hc).mono ?_
    rintro e y1 ⟨rfl, b1⟩
    have hd1 := hd.later b1
    clear b1
    go_wp2_with fail
    refine hK.out _ _ (hS.out _ _ hd1.fr) (fun _ => ?_)
    clear hK K
    try simp only [Act.put, List.setIfInBounds_toArray, List.set_cons_zero, List.set_cons_succ]
    refine wpAnyH_ready (rs := [7]) (by kernel_rfl) (by simp) ?_
    refine AllReadyH.cons rfl (fun K hK => ?_) AllReadyH.nil
    have hd2 := hd1.later (show Below y1.heap.size y1 (y1.alloc (.cells #[.int .u8 (tag d)] 5)) by go_grown)
    go_simp
    refine hK.out _ _ (hS.out _ _ hd2.fr) (fun _ => ?_)
    clear hK K
    try simp only [Act.put, List.setIfInBounds_toArray, List.set_cons_zero, List.set_cons_succ]
    refine wpAnyH_ready (rs := [8]) (by kernel_rfl) (by simp) ?_
    refine AllReadyH.cons rfl (fun K hK => ?_) AllReadyH.nil
    refine step_append_buf_news _ rfl (.tmp 8) (.tmp 11) 36 rfl 5 i0 Try.underlying36 hi hz0 hz1 hz2 _ X rfl hd2.buf (by1 (tag d)) ⟨y1.heap.size, 0, none⟩ 1 1 rfl (by1_size _) (by omega) (by rw [by1_cells htb]; exact cell_one_new _ _ _) hsz.out ?_
    intro v' w1 hB1 hg ho
    obtain ⟨a1, c1, rfl⟩ := hB1.form
    have hW1 : Hid (Wt P wx (.slice a0 X.size c0) (w1.setCell ⟨P, 0, none⟩ (.slice a1 (X ++ by1 (tag d)).size c1)) (.slice a1 (X ++ by1 (tag d)).size c1) (X ++ by1 (tag d))) := hd2.store hB1 hg ho
    have hbx : RowL w1 P 49 _ := World.rowIs.of_block hd2.box (hg.block P hd2.box.lt fun e => hd2.ne e.symm)
    have q2 := hbx.cell 0 rfl
    have f2 := hbx.frozen 0
    have hSw := hS.out _ _ (hd2.fr.trans (Fr.of_grown _ hg ho))
    clear hB1 hg ho hbx
    generalize (X ++ by1 (tag d)).size = nn at hW1 ⊢
    refine hK.out _ _ hSw (fun _ => ?_)
    clear hK K
    try simp only [Act.put, List.setIfInBounds_toArray, List.set_cons_zero, List.set_cons_succ]
    refine take_dst 9 13 (.pointer (some ⟨P, 0, none⟩)) rfl (by kernel_rfl) (by kernel_rfl) (by kernel_rfl) (fun _ _ _ h => h) (Or.inl ⟨by rfl, by intro wv hSv; (try dsimp only at hSv); go_simp⟩) hSw rfl ?_
    try simp only [Act.put, List.setIfInBounds_toArray, List.set_cons_zero, List.set_cons_succ]
    refine take_dst 10 14 (.pointer (some ⟨P, 0, none⟩)) rfl (by kernel_rfl) (by kernel_rfl) (by kernel_rfl) (fun _ _ _ h => h) (Or.inl ⟨by rfl, by intro wv hSv; (try dsimp only at hSv); go_simp⟩) hSw rfl ?_
    try simp only [Act.put, List.setIfInBounds_toArray, List.set_cons_zero, List.set_cons_succ]
    refine wpAnyH_ready (rs := [11]) (by kernel_rfl) (by simp) ?_
    refine AllReadyH.cons rfl (fun K hK => ?_) AllReadyH.nil
    go_simp
    clear q2 f2
    refine hK.out _ _ (hS.out _ _ hW1.out.fr) (fun _ => ?_)
    clear hK K
    try simp only [Act.put, List.setIfInBounds_toArray, List.set_cons_zero, List.set_cons_succ]
    refine wpAnyH_done (by kernel_rfl) ?_ _
    obtain ⟨k0, k1, k2⟩ := hS.out _ _ hW1.out.fr
    clear hd hd1 hd2 hSw hH
    by_cases hk2 : d.kind = 2
    · have hXi : Hid (X ++ by1 (tag d) ++ i8 d.num = X ++ constB d) := by
        show _ = _
        rw [hct.out, if_pos hk2, ByteArray.append_assoc]
      have hsi : Hid ((X ++ by1 (tag d)).size + (i8 d.num).size ≤ 140737488355328) := by
        have h1 := hs.out
        rw [hct.out, if_pos hk2] at h1
        show _ ≤ _
        simp only [ByteArray.size_append] at h1 ⊢
        omega
      clear hct hs hsz
      go_wp2_with fail
      have hw4 := hW1.out.drew
      obtain ⟨yd4, hyd4⟩ : ∃ x, x = (w1.setCell ⟨P, 0, none⟩ (.slice a1 nn c1)).drew := ⟨_, rfl⟩
      refine wp_region_held_drew (S := fun z => z.cell? ⟨y.heap.size, 0, none⟩ = some (.int .i64 d.kind) ∧ z.cell? ⟨y.heap.size, 1, none⟩ = some (.int .i64 d.num) ∧ z.cell? ⟨y.heap.size, 2, none⟩ = some (.string d.text)) (by kernel_rfl) (hS.out _ _ hw4.fr) (fun hH4 => ?_)
      rw [← hyd4] at hw4 hH4 ⊢
      clear hyd4
      refine take_dst 0 19 (.pointer (some ⟨P, 0, none⟩)) rfl (by kernel_rfl) (by kernel_rfl) (by kernel_rfl) (fun _ _ _ h => h) (Or.inl ⟨by rfl, by intro wv hSv; (try dsimp only at hSv); go_simp⟩) hH4 rfl ?_
      try simp only [Act.put, List.setIfInBounds_toArray, List.set_cons_zero, List.set_cons_succ]
      refine take_dst 1 20 (.pointer (some ⟨P, 0, none⟩)) rfl (by kernel_rfl) (by kernel_rfl) (by kernel_rfl) (fun _ _ _ h => h) (Or.inl ⟨by rfl, by intro wv hSv; (try dsimp only at hSv); go_simp⟩) hH4 rfl ?_
      try simp only [Act.put, List.setIfInBounds_toArray, List.set_cons_zero, List.set_cons_succ]
      refine take_dst 2 21 (.pointer (some ⟨P, 0, none⟩)) rfl (by kernel_rfl) (by kernel_rfl) (by kernel_rfl) (fun _ _ _ h => h) (Or.inl ⟨by rfl, by intro wv hSv; (try dsimp only at hSv); go_simp⟩) hH4 rfl ?_
      try simp only [Act.put, List.setIfInBounds_toArray, List.set_cons_zero, List.set_cons_succ]
      refine take_dst 3 22 (.pointer (some ⟨P, 0, none⟩)) rfl (by kernel_rfl) (by kernel_rfl) (by kernel_rfl) (fun _ _ _ h => h) (Or.inl ⟨by rfl, by intro wv hSv; (try dsimp only at hSv); go_simp⟩) hH4 rfl ?_
      try simp only [Act.put, List.setIfInBounds_toArray, List.set_cons_zero, List.set_cons_succ]
      refine take_dst 5 24 (.pointer (some ⟨y.heap.size, 1, none⟩)) rfl (by kernel_rfl) (by kernel_rfl) (by kernel_rfl) (fun _ _ _ h => h) (Or.inl ⟨by rfl, by intro wv hSv; (try dsimp only at hSv); go_simp⟩) hH4 rfl ?_
      try simp only [Act.put, List.setIfInBounds_toArray, List.set_cons_zero, List.set_cons_succ]
      refine take_dst 6 25 (.int .i64 d.num) rfl (by kernel_rfl) (by kernel_rfl) (by kernel_rfl) (fun _ _ _ h => h) (Or.inl ⟨by rfl, by intro wv hSv; (try dsimp only at hSv); go_simp⟩) hH4 rfl ?_
      try simp only [Act.put, List.setIfInBounds_toArray, List.set_cons_zero, List.set_cons_succ]
      refine wpAnyH_ready (rs := [4, 7]) (by kernel_rfl) (by simp) ?_
      refine AllReadyH.cons rfl (fun K hK => ?_) (AllReadyH.cons rfl (fun K hK => ?_) AllReadyH.nil)
      · have q := hw4.box.cell 0 rfl
        go_simp
        clear q
        refine hK.out _ _ (hS.out _ _ hw4.fr) (fun _ => ?_)
        clear hK K
        try simp only [Act.put, List.setIfInBounds_toArray, List.set_cons_zero, List.set_cons_succ]
        refine wpAnyH_ready (rs := [7]) (by kernel_rfl) (by simp) ?_
        refine AllReadyH.cons rfl (fun K hK => ?_) AllReadyH.nil
        go_simp
        refine (implI8 d.num _ hc.low hc.high).mono ?_
        rintro e y5 ⟨rfl, b5⟩
        have hw5 := hw4.later b5
        clear b5
        go_wp2_with fail
        refine hK.out _ _ (hS.out _ _ hw5.fr) (fun _ => ?_)
        clear hK K
        try simp only [Act.put, List.setIfInBounds_toArray, List.set_cons_zero, List.set_cons_succ]
        refine wpAnyH_ready (rs := [8]) (by kernel_rfl) (by simp) ?_
        refine AllReadyH.cons rfl (fun K hK => ?_) AllReadyH.nil
        refine step_append_buf_str _ rfl (.tmp 23) (.tmp 26) 36 9 rfl 5 i0 Try.underlying36 Try.underlying9 hi hz0 hz1 hz2 _ (X ++ by1 (tag d)) rfl hw5.buf (i8 d.num) rfl hsi.out ?_
        intro v' w6 hB1 hg ho
        rw [hXi.out] at hB1
        obtain ⟨a6, c6, rfl⟩ := hB1.form
        have hW6 : Hid (Wt P wx (.slice a0 X.size c0) (w6.setCell ⟨P, 0, none⟩ (.slice a6 (X ++ constB d).size c6)) (.slice a6 (X ++ constB d).size c6) (X ++ constB d)) := hw5.store hB1 hg ho
        have hbx : RowL w6 P 49 _ := World.rowIs.of_block hw5.box (hg.block P hw5.box.lt fun e => hw5.ne e.symm)
        have q2 := hbx.cell 0 rfl
        have f2 := hbx.frozen 0
        have hSw := hS.out _ _ (hw5.fr.trans (Fr.of_grown _ hg ho))
        clear hB1 hg ho hbx
        generalize (X ++ constB d).size = n6 at hW6 ⊢
        refine hK.out _ _ hSw (fun _ => ?_)
        clear hK K
        try simp only [Act.put, List.setIfInBounds_toArray, List.set_cons_zero, List.set_cons_succ]
        refine take_dst 9 28 (.pointer (some ⟨P, 0, none⟩)) rfl (by kernel_rfl) (by kernel_rfl) (by kernel_rfl) (fun _ _ _ h => h) (Or.inl ⟨by rfl, by intro wv hSv; (try dsimp only at hSv); go_simp⟩) hSw rfl ?_
        try simp only [Act.put, List.setIfInBounds_toArray, List.set_cons_zero, List.set_cons_succ]
        refine take_dst 10 29 (.pointer (some ⟨P, 0, none⟩)) rfl (by kernel_rfl) (by kernel_rfl) (by kernel_rfl) (fun _ _ _ h => h) (Or.inl ⟨by rfl, by intro wv hSv; (try dsimp only at hSv); go_simp⟩) hSw rfl ?_
        try simp only [Act.put, List.setIfInBounds_toArray, List.set_cons_zero, List.set_cons_succ]
        refine wpAnyH_ready (rs := [11]) (by kernel_rfl) (by simp) ?_
        refine AllReadyH.cons rfl (fun K hK => ?_) AllReadyH.nil
        go_simp
        clear q2 f2
        refine hK.out _ _ (hS.out _ _ hW6.out.fr) (fun _ => ?_)
        clear hK K
        try simp only [Act.put, List.setIfInBounds_toArray, List.set_cons_zero, List.set_cons_succ]
        refine wpAnyH_done (by kernel_rfl) ?_ _
        clear hS
        go_wp2_with fail
        exact bodyPost_end (results_none rfl _ _ _) rfl ⟨_, rfl, hWx.out.trans hW6.out⟩
      · go_simp
        refine (implI8 d.num _ hc.low hc.high).mono ?_
        rintro e y5 ⟨rfl, b5⟩
        have hw5 := hw4.later b5
        clear b5
        go_wp2_with fail
        refine hK.out _ _ (hS.out _ _ hw5.fr) (fun _ => ?_)
        clear hK K
        try simp only [Act.put, List.setIfInBounds_toArray, List.set_cons_zero, List.set_cons_succ]
        refine wpAnyH_ready (rs := [4]) (by kernel_rfl) (by simp) ?_
        refine AllReadyH.cons rfl (fun K hK => ?_) AllReadyH.nil
        have q := hw5.box.cell 0 rfl
        go_simp
        clear q
        refine hK.out _ _ (hS.out _ _ hw5.fr) (fun _ => ?_)
        clear hK K
        try simp only [Act.put, List.setIfInBounds_toArray, List.set_cons_zero, List.set_cons_succ]
        refine wpAnyH_ready (rs := [8]) (by kernel_rfl) (by simp) ?_
        refine AllReadyH.cons rfl (fun K hK => ?_) AllReadyH.nil
        refine step_append_buf_str _ rfl (.tmp 23) (.tmp 26) 36 9 rfl 5 i0 Try.underlying36 Try.underlying9 hi hz0 hz1 hz2 _ (X ++ by1 (tag d)) rfl hw5.buf (i8 d.num) rfl hsi.out ?_
        intro v' w6 hB1 hg ho
        rw [hXi.out] at hB1
        obtain ⟨a6, c6, rfl⟩ := hB1.form
        have hW6 : Hid (Wt P wx (.slice a0 X.size c0) (w6.setCell ⟨P, 0, none⟩ (.slice a6 (X ++ constB d).size c6)) (.slice a6 (X ++ constB d).size c6) (X ++ constB d)) := hw5.store hB1 hg ho
        have hbx : RowL w6 P 49 _ := World.rowIs.of_block hw5.box (hg.block P hw5.box.lt fun e => hw5.ne e.symm)
        have q2 := hbx.cell 0 rfl
        have f2 := hbx.frozen 0
        have hSw := hS.out _ _ (hw5.fr.trans (Fr.of_grown _ hg ho))
        clear hB1 hg ho hbx
        generalize (X ++ constB d).size = n6 at hW6 ⊢
        refine hK.out _ _ hSw (fun _ => ?_)
        clear hK K
        try simp only [Act.put, List.setIfInBounds_toArray, List.set_cons_zero, List.set_cons_succ]
        refine take_dst 9 28 (.pointer (some ⟨P, 0, none⟩)) rfl (by kernel_rfl) (by kernel_rfl) (by kernel_rfl) (fun _ _ _ h => h) (Or.inl ⟨by rfl, by intro wv hSv; (try dsimp only at hSv); go_simp⟩) hSw rfl ?_
        try simp only [Act.put, List.setIfInBounds_toArray, List.set_cons_zero, List.set_cons_succ]
        refine take_dst 10 29 (.pointer (some ⟨P, 0, none⟩)) rfl (by kernel_rfl) (by kernel_rfl) (by kernel_rfl) (fun _ _ _ h => h) (Or.inl ⟨by rfl, by intro wv hSv; (try dsimp only at hSv); go_simp⟩) hSw rfl ?_
        try simp only [Act.put, List.setIfInBounds_toArray, List.set_cons_zero, List.set_cons_succ]
        refine wpAnyH_ready (rs := [11]) (by kernel_rfl) (by simp) ?_
        refine AllReadyH.cons rfl (fun K hK => ?_) AllReadyH.nil
        go_simp
        clear q2 f2
        refine hK.out _ _ (hS.out _ _ hW6.out.fr) (fun _ => ?_)
        clear hK K
        try simp only [Act.put, List.setIfInBounds_toArray, List.set_cons_zero, List.set_cons_succ]
        refine wpAnyH_done (by kernel_rfl) ?_ _
        clear hS
        go_wp2_with fail
        exact bodyPost_end (results_none rfl _ _ _) rfl ⟨_, rfl, hWx.out.trans hW6.out⟩
    · by_cases hk3 : d.kind = 3
      · have hXi : Hid (X ++ by1 (tag d) ++ sizedB d.text = X ++ constB d) := by
          show _ = _
          rw [hct.out, if_neg hk2, if_pos hk3, ByteArray.append_assoc]
        have hsi : Hid ((X ++ by1 (tag d)).size + (sizedB d.text).size ≤ 70368744177664) := by
          have h1 := hs.out
          rw [hct.out, if_neg hk2, if_pos hk3] at h1
          show _ ≤ _
          simp only [ByteArray.size_append] at h1 ⊢
          omega
        have htx : d.text.size ≤ 1000 := by have := hc.kind; omega
        clear hct hs hsz
        go_wp2_with fail
        refine (wText_in P d.text wx (.slice a0 X.size c0) _ _ _ hW1.out (by omega) hsi.out).mono ?_
        rintro e y6 ⟨v6, rfl, h6⟩
        rw [hXi.out] at h6
        replace h6 : Hid (Wt P wx (.slice a0 X.size c0) y6 v6 (X ++ constB d)) := h6
        clear k0 k1 k2
        go_wp2_with fail
        exact bodyPost_end (results_none rfl _ _ _) rfl ⟨_, rfl, hWx.out.trans h6.out⟩
      · have hXi : Hid (by1 (tag d) = constB d) := by
          show _ = _
          rw [hct.out, if_neg hk2, if_neg hk3]
        clear hct hs hsz
        go_wp2_with fail
        refine bodyPost_end (results_none rfl _ _ _) rfl ⟨.slice a1 nn c1, rfl, ?_⟩
        rw [← hXi.out]
        exact hWx.out.trans hW1.out
  · go_simp
    refine (tagOf_in d _ hc).mono ?_
    rintro e y1 ⟨rfl, b1⟩
    have hd1 := hd.later b1
    clear b1
    go_wp2_with fail
    refine hK.out _ _ (hS.out _ _ hd1.fr) (fun _ => ?_)
    clear hK K
    try simp only [Act.put, List.setIfInBounds_toArray, List.set_cons_zero, List.set_cons_succ]
    refine wpAnyH_ready (rs := [4, 7]) (by kernel_rfl) (by simp) ?_
    refine AllReadyH.cons rfl (fun K hK => ?_) (AllReadyH.cons rfl (fun K hK => ?_) AllReadyH.nil)
    · have q := hd1.box.cell 0 rfl
      go_simp
      clear q
      refine hK.out _ _ (hS.out _ _ hd1.fr) (fun _ => ?_)
      clear hK K
      try simp only [Act.put, List.setIfInBounds_toArray, List.set_cons_zero, List.set_cons_succ]
      refine wpAnyH_ready (rs := [7]) (by kernel_rfl) (by simp) ?_
      refine AllReadyH.cons rfl (fun K hK => ?_) AllReadyH.nil
      have hd2 := hd1.later (show Below y1.heap.size y1 (y1.alloc (.cells #[.int .u8 (tag d)] 5)) by go_grown)
      go_simp
      refine hK.out _ _ (hS.out _ _ hd2.fr) (fun _ => ?_)
      clear hK K
      try simp only [Act.put, List.setIfInBounds_toArray, List.set_cons_zero, List.set_cons_succ]
      refine wpAnyH_ready (rs := [8]) (by kernel_rfl) (by simp) ?_
      refine AllReadyH.cons rfl (fun K hK => ?_) AllReadyH.nil
      refine step_append_buf_news _ rfl (.tmp 8) (.tmp 11) 36 rfl 5 i0 Try.underlying36 hi hz0 hz1 hz2 _ X rfl hd2.buf (by1 (tag d)) ⟨y1.heap.size, 0, none⟩ 1 1 rfl (by1_size _) (by omega) (by rw [by1_cells htb]; exact cell_one_new _ _ _) hsz.out ?_
      intro v' w1 hB1 hg ho
      obtain ⟨a1, c1, rfl⟩ := hB1.form
      have hW1 : Hid (Wt P wx (.slice a0 X.size c0) (w1.setCell ⟨P, 0, none⟩ (.slice a1 (X ++ by1 (tag d)).size c1)) (.slice a1 (X ++ by1 (tag d)).size c1) (X ++ by1 (tag d))) := hd2.store hB1 hg ho
      have hbx : RowL w1 P 49 _ := World.rowIs.of_block hd2.box (hg.block P hd2.box.lt fun e => hd2.ne e.symm)
      have q2 := hbx.cell 0 rfl
      have f2 := hbx.frozen 0
      have hSw := hS.out _ _ (hd2.fr.trans (Fr.of_grown _ hg ho))
      clear hB1 hg ho hbx
      generalize (X ++ by1 (tag d)).size = nn at hW1 ⊢
      refine hK.out _ _ hSw (fun _ => ?_)
      clear hK K
      try simp only [Act.put, List.setIfInBounds_toArray, List.set_cons_zero, List.set_cons_succ]
      refine take_dst 9 13 (.pointer (some ⟨P, 0, none⟩)) rfl (by kernel_rfl) (by kernel_rfl) (by kernel_rfl) (fun _ _ _ h => h) (Or.inl ⟨by rfl, by intro wv hSv; (try dsimp only at hSv); go_simp⟩) hSw rfl ?_
      try simp only [Act.put, List.setIfInBounds_toArray, List.set_cons_zero, List.set_cons_succ]
      refine take_dst 10 14 (.pointer (some ⟨P, 0, none⟩)) rfl (by kernel_rfl) (by kernel_rfl) (by kernel_rfl) (fun _ _ _ h => h) (Or.inl ⟨by rfl, by intro wv hSv; (try dsimp only at hSv); go_simp⟩) hSw rfl ?_
      try simp only [Act.put, List.setIfInBounds_toArray, List.set_cons_zero, List.set_cons_succ]
      refine wpAnyH_ready (rs := [11]) (by kernel_rfl) (by simp) ?_
      refine AllReadyH.cons rfl (fun K hK => ?_) AllReadyH.nil
      go_simp
      clear q2 f2
      refine hK.out _ _ (hS.out _ _ hW1.out.fr) (fun _ => ?_)
      clear hK K
      try simp only [Act.put, List.setIfInBounds_toArray, List.set_cons_zero, List.set_cons_succ]
      refine wpAnyH_done (by kernel_rfl) ?_ _
      obtain ⟨k0, k1, k2⟩ := hS.out _ _ hW1.out.fr
      clear hd hd1 hd2 hSw hH
      by_cases hk2 : d.kind = 2
      · have hXi : Hid (X ++ by1 (tag d) ++ i8 d.num = X ++ constB d) := by
          show _ = _
          rw [hct.out, if_pos hk2, ByteArray.append_assoc]
        have hsi : Hid ((X ++ by1 (tag d)).size + (i8 d.num).size ≤ 140737488355328) := by
          have h1 := hs.out
          rw [hct.out, if_pos hk2] at h1
          show _ ≤ _
          simp only [ByteArray.size_append] at h1 ⊢
          omega
        clear hct hs hsz
        go_wp2_with fail
        have hw4 := hW1.out.drew
        obtain ⟨yd4, hyd4⟩ : ∃ x, x = (w1.setCell ⟨P, 0, none⟩ (.slice a1 nn c1)).drew := ⟨_, rfl⟩
        refine wp_region_held_drew (S := fun z => z.cell? ⟨y.heap.size, 0, none⟩ = some (.int .i64 d.kind) ∧ z.cell? ⟨y.heap.size, 1, none⟩ = some (.int .i64 d.num) ∧ z.cell? ⟨y.heap.size, 2, none⟩ = some (.string d.text)) (by kernel_rfl) (hS.out _ _ hw4.fr) (fun hH4 => ?_)
        rw [← hyd4] at hw4 hH4 ⊢
        clear hyd4
        refine take_dst 0 19 (.pointer (some ⟨P, 0, none⟩)) rfl (by kernel_rfl) (by kernel_rfl) (by kernel_rfl) (fun _ _ _ h => h) (Or.inl ⟨by rfl, by intro wv hSv; (try dsimp only at hSv); go_simp⟩) hH4 rfl ?_
        try simp only [Act.put, List.setIfInBounds_toArray, List.set_cons_zero, List.set_cons_succ]
        refine take_dst 1 20 (.pointer (some ⟨P, 0, none⟩)) rfl (by kernel_rfl) (by kernel_rfl) (by kernel_rfl) (fun _ _ _ h => h) (Or.inl ⟨by rfl, by intro wv hSv; (try dsimp only at hSv); go_simp⟩) hH4 rfl ?_
        try simp only [Act.put, List.setIfInBounds_toArray, List.set_cons_zero, List.set_cons_succ]
        refine take_dst 2 21 (.pointer (some ⟨P, 0, none⟩)) rfl (by kernel_rfl) (by kernel_rfl) (by kernel_rfl) (fun _ _ _ h => h) (Or.inl ⟨by rfl, by intro wv hSv; (try dsimp only at hSv); go_simp⟩) hH4 rfl ?_
        try simp only [Act.put, List.setIfInBounds_toArray, List.set_cons_zero, List.set_cons_succ]
        refine take_dst 3 22 (.pointer (some ⟨P, 0, none⟩)) rfl (by kernel_rfl) (by kernel_rfl) (by kernel_rfl) (fun _ _ _ h => h) (Or.inl ⟨by rfl, by intro wv hSv; (try dsimp only at hSv); go_simp⟩) hH4 rfl ?_
        try simp only [Act.put, List.setIfInBounds_toArray, List.set_cons_zero, List.set_cons_succ]
        refine take_dst 5 24 (.pointer (some ⟨y.heap.size, 1, none⟩)) rfl (by kernel_rfl) (by kernel_rfl) (by kernel_rfl) (fun _ _ _ h => h) (Or.inl ⟨by rfl, by intro wv hSv; (try dsimp only at hSv); go_simp⟩) hH4 rfl ?_
        try simp only [Act.put, List.setIfInBounds_toArray, List.set_cons_zero, List.set_cons_succ]
        refine take_dst 6 25 (.int .i64 d.num) rfl (by kernel_rfl) (by kernel_rfl) (by kernel_rfl) (fun _ _ _ h => h) (Or.inl ⟨by rfl, by intro wv hSv; (try dsimp only at hSv); go_simp⟩) hH4 rfl ?_
        try simp only [Act.put, List.setIfInBounds_toArray, List.set_cons_zero, List.set_cons_succ]
        refine wpAnyH_ready (rs := [4, 7]) (by kernel_rfl) (by simp) ?_
        refine AllReadyH.cons rfl (fun K hK => ?_) (AllReadyH.cons rfl (fun K hK => ?_) AllReadyH.nil)
        · have q := hw4.box.cell 0 rfl
          go_simp
          clear q
          refine hK.out _ _ (hS.out _ _ hw4.fr) (fun _ => ?_)
          clear hK K
          try simp only [Act.put, List.setIfInBounds_toArray, List.set_cons_zero, List.set_cons_succ]
          refine wpAnyH_ready (rs := [7]) (by kernel_rfl) (by simp) ?_
          refine AllReadyH.cons rfl (fun K hK => ?_) AllReadyH.nil
          go_simp
          refine (implI8 d.num _ hc.low hc.high).mono ?_
          rintro e y5 ⟨rfl, b5⟩
          have hw5 := hw4.later b5
          clear b5
          go_wp2_with fail
          refine hK.out _ _ (hS.out _ _ hw5.fr) (fun _ => ?_)
          clear hK K
          try simp only [Act.put, List.setIfInBounds_toArray, List.set_cons_zero, List.set_cons_succ]
          refine wpAnyH_ready (rs := [8]) (by kernel_rfl) (by simp) ?_
          refine AllReadyH.cons rfl (fun K hK => ?_) AllReadyH.nil
          refine step_append_buf_str _ rfl (.tmp 23) (.tmp 26) 36 9 rfl 5 i0 Try.underlying36 Try.underlying9 hi hz0 hz1 hz2 _ (X ++ by1 (tag d)) rfl hw5.buf (i8 d.num) rfl hsi.out ?_
          intro v' w6 hB1 hg ho
          rw [hXi.out] at hB1
          obtain ⟨a6, c6, rfl⟩ := hB1.form
          have hW6 : Hid (Wt P wx (.slice a0 X.size c0) (w6.setCell ⟨P, 0, none⟩ (.slice a6 (X ++ constB d).size c6)) (.slice a6 (X ++ constB d).size c6) (X ++ constB d)) := hw5.store hB1 hg ho
          have hbx : RowL w6 P 49 _ := World.rowIs.of_block hw5.box (hg.block P hw5.box.lt fun e => hw5.ne e.symm)
          have q2 := hbx.cell 0 rfl
          have f2 := hbx.frozen 0
          have hSw := hS.out _ _ (hw5.fr.trans (Fr.of_grown _ hg ho))
          clear hB1 hg ho hbx
          generalize (X ++ constB d).size = n6 at hW6 ⊢
          refine hK.out _ _ hSw (fun _ => ?_)
          clear hK K
          try simp only [Act.put, List.setIfInBounds_toArray, List.set_cons_zero, List.set_cons_succ]
          refine take_dst 9 28 (.pointer (some ⟨P, 0, none⟩)) rfl (by kernel_rfl) (by kernel_rfl) (by kernel_rfl) (fun _ _ _ h => h) (Or.inl ⟨by rfl, by intro wv hSv; (try dsimp only at hSv); go_simp⟩) hSw rfl ?_
          try simp only [Act.put, List.setIfInBounds_toArray, List.set_cons_zero, List.set_cons_succ]
          refine take_dst 10 29 (.pointer (some ⟨P, 0, none⟩)) rfl (by kernel_rfl) (by kernel_rfl) (by kernel_rfl) (fun _ _ _ h => h) (Or.inl ⟨by rfl, by intro wv hSv; (try dsimp only at hSv); go_simp⟩) hSw rfl ?_
          try simp only [Act.put, List.setIfInBounds_toArray, List.set_cons_zero, List.set_cons_succ]
          refine wpAnyH_ready (rs := [11]) (by kernel_rfl) (by simp) ?_
          refine AllReadyH.cons rfl (fun K hK => ?_) AllReadyH.nil
          go_simp
          clear q2 f2
          refine hK.out _ _ (hS.out _ _ hW6.out.fr) (fun _ => ?_)
          clear hK K
          try simp only [Act.put, List.setIfInBounds_toArray, List.set_cons_zero, List.set_cons_succ]
          refine wpAnyH_done (by kernel_rfl) ?_ _
          clear hS
          go_wp2_with fail
          exact bodyPost_end (results_none rfl _ _ _) rfl ⟨_, rfl, hWx.out.trans hW6.out⟩
        · go_simp
          refine (implI8 d.num _ hc.low hc.high).mono ?_
          rintro e y5 ⟨rfl, b5⟩
          have hw5 := hw4.later b5
          clear b5
          go_wp2_with fail
          refine hK.out _ _ (hS.out _ _ hw5.fr) (fun _ => ?_)
          clear hK K
          try simp only [Act.put, List.setIfInBounds_toArray, List.set_cons_zero, List.set_cons_succ]
          refine wpAnyH_ready (rs := [4]) (by kernel_rfl) (by simp) ?_
          refine AllReadyH.cons rfl (fun K hK => ?_) AllReadyH.nil
          have q := hw5.box.cell 0 rfl
          go_simp
          clear q
          refine hK.out _ _ (hS.out _ _ hw5.fr) (fun _ => ?_)
          clear hK K
          try simp only [Act.put, List.setIfInBounds_toArray, List.set_cons_zero, List.set_cons_succ]
          refine wpAnyH_ready (rs := [8]) (by kernel_rfl) (by simp) ?_
          refine AllReadyH.cons rfl (fun K hK => ?_) AllReadyH.nil
          refine step_append_buf_str _ rfl (.tmp 23) (.tmp 26) 36 9 rfl 5 i0 Try.underlying36 Try.underlying9 hi hz0 hz1 hz2 _ (X ++ by1 (tag d)) rfl hw5.buf (i8 d.num) rfl hsi.out ?_
          intro v' w6 hB1 hg ho
          rw [hXi.out] at hB1
          obtain ⟨a6, c6, rfl⟩ := hB1.form
          have hW6 : Hid (Wt P wx (.slice a0 X.size c0) (w6.setCell ⟨P, 0, none⟩ (.slice a6 (X ++ constB d).size c6)) (.slice a6 (X ++ constB d).size c6) (X ++ constB d)) := hw5.store hB1 hg ho
          have hbx : RowL w6 P 49 _ := World.rowIs.of_block hw5.box (hg.block P hw5.box.lt fun e => hw5.ne e.symm)
          have q2 := hbx.cell 0 rfl
          have f2 := hbx.frozen 0
          have hSw := hS.out _ _ (hw5.fr.trans (Fr.of_grown _ hg ho))
          clear hB1 hg ho hbx
          generalize (X ++ constB d).size = n6 at hW6 ⊢
          refine hK.out _ _ hSw (fun _ => ?_)
          clear hK K
          try simp only [Act.put, List.setIfInBounds_toArray, List.set_cons_zero, List.set_cons_succ]
          refine take_dst 9 28 (.pointer (some ⟨P, 0, none⟩)) rfl (by kernel_rfl) (by kernel_rfl) (by kernel_rfl) (fun _ _ _ h => h) (Or.inl ⟨by rfl, by intro wv hSv; (try dsimp only at hSv); go_simp⟩) hSw rfl ?_
          try simp only [Act.put, List.setIfInBounds_toArray, List.set_cons_zero, List.set_cons_succ]
          refine take_dst 10 29 (.pointer (some ⟨P, 0, none⟩)) rfl (by kernel_rfl) (by kernel_rfl) (by kernel_rfl) (fun _ _ _ h => h) (Or.inl ⟨by rfl, by intro wv hSv; (try dsimp only at hSv); go_simp⟩) hSw rfl ?_
          try simp only [Act.put, List.setIfInBounds_toArray, List.set_cons_zero, List.set_cons_succ]
          refine wpAnyH_ready (rs := [11]) (by kernel_rfl) (by simp) ?_
          refine AllReadyH.cons rfl (fun K hK => ?_) AllReadyH.nil
          go_simp
          clear q2 f2
          refine hK.out _ _ (hS.out _ _ hW6.out.fr) (fun _ => ?_)
          clear hK K
          try simp only [Act.put, List.setIfInBounds_toArray, List.set_cons_zero, List.set_cons_succ]
          refine wpAnyH_done (by kernel_rfl) ?_ _
          clear hS
          go_wp2_with fail
          exact bodyPost_end (results_none rfl _ _ _) rfl ⟨_, rfl, hWx.out.trans hW6.out⟩
      · by_cases hk3 : d.kind = 3
        · have hXi : Hid (X ++ by1 (tag d) ++ sizedB d.text = X ++ constB d) := by
            show _ = _
            rw [hct.out, if_neg hk2, if_pos hk3, ByteArray.append_assoc]
          have hsi : Hid ((X ++ by1 (tag d)).size + (sizedB d.text).size ≤ 70368744177664) := by
            have h1 := hs.out
            rw [hct.out, if_neg hk2, if_pos hk3] at h1
            show _ ≤ _
            simp only [ByteArray.size_append] at h1 ⊢
            omega
          have htx : d.text.size ≤ 1000 := by have := hc.kind; omega
          clear hct hs hsz
          go_wp2_with fail
          refine (wText_in P d.text wx (.slice a0 X.size c0) _ _ _ hW1.out (by omega) hsi.out).mono ?_
          rintro e y6 ⟨v6, rfl, h6⟩
          rw [hXi.out] at h6
          replace h6 : Hid (Wt P wx (.slice a0 X.size c0) y6 v6 (X ++ constB d)) := h6
          clear k0 k1 k2
          go_wp2_with fail
          exact bodyPost_end (results_none rfl _ _ _) rfl ⟨_, rfl, hWx.out.trans h6.out⟩
        · have hXi : Hid (by1 (tag d) = constB d) := by
            show _ = _
            rw [hct.out, if_neg hk2, if_neg hk3]
          clear hct hs hsz
          go_wp2_with fail
          refine bodyPost_end (results_none rfl _ _ _) rfl ⟨.slice a1 nn c1, rfl, ?_⟩
          rw [← hXi.out]
          exact hWx.out.trans hW1.out
    · have hd2 := hd1.later (show Below y1.heap.size y1 (y1.alloc (.cells #[.int .u8 (tag d)] 5)) by go_grown)
      go_simp
      refine hK.out _ _ (hS.out _ _ hd2.fr) (fun _ => ?_)
      clear hK K
      try simp only [Act.put, List.setIfInBounds_toArray, List.set_cons_zero, List.set_cons_succ]
      refine wpAnyH_ready (rs := [4]) (by kernel_rfl) (by simp) ?_
      refine AllReadyH.cons rfl (fun K hK => ?_) AllReadyH.nil
      have q := hd2.box.cell 0 rfl
      go_simp
      clear q
      refine hK.out _ _ (hS.out _ _ hd2.fr) (fun _ => ?_)
      clear hK K
      try simp only [Act.put, List.setIfInBounds_toArray, List.set_cons_zero, List.set_cons_succ]
      refine wpAnyH_ready (rs := [8]) (by kernel_rfl) (by simp) ?_
      refine AllReadyH.cons rfl (fun K hK => ?_) AllReadyH.nil
      refine step_append_buf_news _ rfl (.tmp 8) (.tmp 11) 36 rfl 5 i0 Try.underlying36 hi hz0 hz1 hz2 _ X rfl hd2.buf (by1 (tag d)) ⟨y1.heap.size, 0, none⟩ 1 1 rfl (by1_size _) (by omega) (by rw [by1_cells htb]; exact cell_one_new _ _ _) hsz.out ?_
      intro v' w1 hB1 hg ho
      obtain ⟨a1, c1, rfl⟩ := hB1.form
      have hW1 : Hid (Wt P wx (.slice a0 X.size c0) (w1.setCell ⟨P, 0, none⟩ (.slice a1 (X ++ by1 (tag d)).size c1)) (.slice a1 (X ++ by1 (tag d)).size c1) (X ++ by1 (tag d))) := hd2.store hB1 hg ho
      have hbx : RowL w1 P 49 _ := World.rowIs.of_block hd2.box (hg.block P hd2.box.lt fun e => hd2.ne e.symm)
      have q2 := hbx.cell 0 rfl
      have f2 := hbx.frozen 0
      have hSw := hS.out _ _ (hd2.fr.trans (Fr.of_grown _ hg ho))
      clear hB1 hg ho hbx
      generalize (X ++ by1 (tag d)).size = nn at hW1 ⊢
      refine hK.out _ _ hSw (fun _ => ?_)
      clear hK K
      try simp only [Act.put, List.setIfInBounds_toArray, List.set_cons_zero, List.set_cons_succ]
      refine take_dst 9 13 (.pointer (some ⟨P, 0, none⟩)) rfl (by kernel_rfl) (by kernel_rfl) (by kernel_rfl) (fun _ _ _ h => h) (Or.inl ⟨by rfl, by intro wv hSv; (try dsimp only at hSv); go_simp⟩) hSw rfl ?_
      try simp only [Act.put, List.setIfInBounds_toArray, List.set_cons_zero, List.set_cons_succ]
      refine take_dst 10 14 (.pointer (some ⟨P, 0, none⟩)) rfl (by kernel_rfl) (by kernel_rfl) (by kernel_rfl) (fun _ _ _ h => h) (Or.inl ⟨by rfl, by intro wv hSv; (try dsimp only at hSv); go_simp⟩) hSw rfl ?_
      try simp only [Act.put, List.setIfInBounds_toArray, List.set_cons_zero, List.set_cons_succ]
      refine wpAnyH_ready (rs := [11]) (by kernel_rfl) (by simp) ?_
      refine AllReadyH.cons rfl (fun K hK => ?_) AllReadyH.nil
      go_simp
      clear q2 f2
      refine hK.out _ _ (hS.out _ _ hW1.out.fr) (fun _ => ?_)
      clear hK K
      try simp only [Act.put, List.setIfInBounds_toArray, List.set_cons_zero, List.set_cons_succ]
      refine wpAnyH_done (by kernel_rfl) ?_ _
      obtain ⟨k0, k1, k2⟩ := hS.out _ _ hW1.out.fr
      clear hd hd1 hd2 hSw hH
      by_cases hk2 : d.kind = 2
      · have hXi : Hid (X ++ by1 (tag d) ++ i8 d.num = X ++ constB d) := by
          show _ = _
          rw [hct.out, if_pos hk2, ByteArray.append_assoc]
        have hsi : Hid ((X ++ by1 (tag d)).size + (i8 d.num).size ≤ 140737488355328) := by
          have h1 := hs.out
          rw [hct.out, if_pos hk2] at h1
          show _ ≤ _
          simp only [ByteArray.size_append] at h1 ⊢
          omega
        clear hct hs hsz
        go_wp2_with fail
        have hw4 := hW1.out.drew
        obtain ⟨yd4, hyd4⟩ : ∃ x, x = (w1.setCell ⟨P, 0, none⟩ (.slice a1 nn c1)).drew := ⟨_, rfl⟩
        refine wp_region_held_drew (S := fun z => z.cell? ⟨y.heap.size, 0, none⟩ = some (.int .i64 d.kind) ∧ z.cell? ⟨y.heap.size, 1, none⟩ = some (.int .i64 d.num) ∧ z.cell? ⟨y.heap.size, 2, none⟩ = some (.string d.text)) (by kernel_rfl) (hS.out _ _ hw4.fr) (fun hH4 => ?_)
        rw [← hyd4] at hw4 hH4 ⊢
        clear hyd4
        refine take_dst 0 19 (.pointer (some ⟨P, 0, none⟩)) rfl (by kernel_rfl) (by kernel_rfl) (by kernel_rfl) (fun _ _ _ h => h) (Or.inl ⟨by rfl, by intro wv hSv; (try dsimp only at hSv); go_simp⟩) hH4 rfl ?_
        try simp only [Act.put, List.setIfInBounds_toArray, List.set_cons_zero, List.set_cons_succ]
        refine take_dst 1 20 (.pointer (some ⟨P, 0, none⟩)) rfl (by kernel_rfl) (by kernel_rfl) (by kernel_rfl) (fun _ _ _ h => h) (Or.inl ⟨by rfl, by intro wv hSv; (try dsimp only at hSv); go_simp⟩) hH4 rfl ?_
        try simp only [Act.put, List.setIfInBounds_toArray, List.set_cons_zero, List.set_cons_succ]
        refine take_dst 2 21 (.pointer (some ⟨P, 0, none⟩)) rfl (by kernel_rfl) (by kernel_rfl) (by kernel_rfl) (fun _ _ _ h => h) (Or.inl ⟨by rfl, by intro wv hSv; (try dsimp only at hSv); go_simp⟩) hH4 rfl ?_
        try simp only [Act.put, List.setIfInBounds_toArray, List.set_cons_zero, List.set_cons_succ]
        refine take_dst 3 22 (.pointer (some ⟨P, 0, none⟩)) rfl (by kernel_rfl) (by kernel_rfl) (by kernel_rfl) (fun _ _ _ h => h) (Or.inl ⟨by rfl, by intro wv hSv; (try dsimp only at hSv); go_simp⟩) hH4 rfl ?_
        try simp only [Act.put, List.setIfInBounds_toArray, List.set_cons_zero, List.set_cons_succ]
        refine take_dst 5 24 (.pointer (some ⟨y.heap.size, 1, none⟩)) rfl (by kernel_rfl) (by kernel_rfl) (by kernel_rfl) (fun _ _ _ h => h) (Or.inl ⟨by rfl, by intro wv hSv; (try dsimp only at hSv); go_simp⟩) hH4 rfl ?_
        try simp only [Act.put, List.setIfInBounds_toArray, List.set_cons_zero, List.set_cons_succ]
        refine take_dst 6 25 (.int .i64 d.num) rfl (by kernel_rfl) (by kernel_rfl) (by kernel_rfl) (fun _ _ _ h => h) (Or.inl ⟨by rfl, by intro wv hSv; (try dsimp only at hSv); go_simp⟩) hH4 rfl ?_
        try simp only [Act.put, List.setIfInBounds_toArray, List.set_cons_zero, List.set_cons_succ]
        refine wpAnyH_ready (rs := [4, 7]) (by kernel_rfl) (by simp) ?_
        refine AllReadyH.cons rfl (fun K hK => ?_) (AllReadyH.cons rfl (fun K hK => ?_) AllReadyH.nil)
        · have q := hw4.box.cell 0 rfl
          go_simp
          clear q
          refine hK.out _ _ (hS.out _ _ hw4.fr) (fun _ => ?_)
          clear hK K
          try simp only [Act.put, List.setIfInBounds_toArray, List.set_cons_zero, List.set_cons_succ]
          refine wpAnyH_ready (rs := [7]) (by kernel_rfl) (by simp) ?_
          refine AllReadyH.cons rfl (fun K hK => ?_) AllReadyH.nil
          go_simp
          refine (implI8 d.num _ hc.low hc.high).mono ?_
          rintro e y5 ⟨rfl, b5⟩
          have hw5 := hw4.later b5
          clear b5
          go_wp2_with fail
          refine hK.out _ _ (hS.out _ _ hw5.fr) (fun _ => ?_)
          clear hK K
          try simp only [Act.put, List.setIfInBounds_toArray, List.set_cons_zero, List.set_cons_succ]
          refine wpAnyH_ready (rs := [8]) (by kernel_rfl) (by simp) ?_
          refine AllReadyH.cons rfl (fun K hK => ?_) AllReadyH.nil
          refine step_append_buf_str _ rfl (.tmp 23) (.tmp 26) 36 9 rfl 5 i0 Try.underlying36 Try.underlying9 hi hz0 hz1 hz2 _ (X ++ by1 (tag d)) rfl hw5.buf (i8 d.num) rfl hsi.out ?_
          intro v' w6 hB1 hg ho
          rw [hXi.out] at hB1
          obtain ⟨a6, c6, rfl⟩ := hB1.form
          have hW6 : Hid (Wt P wx (.slice a0 X.size c0) (w6.setCell ⟨P, 0, none⟩ (.slice a6 (X ++ constB d).size c6)) (.slice a6 (X ++ constB d).size c6) (X ++ constB d)) := hw5.store hB1 hg ho
          have hbx : RowL w6 P 49 _ := World.rowIs.of_block hw5.box (hg.block P hw5.box.lt fun e => hw5.ne e.symm)
          have q2 := hbx.cell 0 rfl
          have f2 := hbx.frozen 0
          have hSw := hS.out _ _ (hw5.fr.trans (Fr.of_grown _ hg ho))
          clear hB1 hg ho hbx
          generalize (X ++ constB d).size = n6 at hW6 ⊢
          refine hK.out _ _ hSw (fun _ => ?_)
          clear hK K
          try simp only [Act.put, List.setIfInBounds_toArray, List.set_cons_zero, List.set_cons_succ]
          refine take_dst 9 28 (.pointer (some ⟨P, 0, none⟩)) rfl (by kernel_rfl) (by kernel_rfl) (by kernel_rfl) (fun _ _ _ h => h) (Or.inl ⟨by rfl, by intro wv hSv; (try dsimp only at hSv); go_simp⟩) hSw rfl ?_
          try simp only [Act.put, List.setIfInBounds_toArray, List.set_cons_zero, List.set_cons_succ]
          refine take_dst 10 29 (.pointer (some ⟨P, 0, none⟩)) rfl (by kernel_rfl) (by kernel_rfl) (by kernel_rfl) (fun _ _ _ h => h) (Or.inl ⟨by rfl, by intro wv hSv; (try dsimp only at hSv); go_simp⟩) hSw rfl ?_
          try simp only [Act.put, List.setIfInBounds_toArray, List.set_cons_zero, List.set_cons_succ]
          refine wpAnyH_ready (rs := [11]) (by kernel_rfl) (by simp) ?_
          refine AllReadyH.cons rfl (fun K hK => ?_) AllReadyH.nil
          go_simp
          clear q2 f2
          refine hK.out _ _ (hS.out _ _ hW6.out.fr) (fun _ => ?_)
          clear hK K
          try simp only [Act.put, List.setIfInBounds_toArray, List.set_cons_zero, List.set_cons_succ]
          refine wpAnyH_done (by kernel_rfl) ?_ _
          clear hS
          go_wp2_with fail
          exact bodyPost_end (results_none rfl _ _ _) rfl ⟨_, rfl, hWx.out.trans hW6.out⟩
        · go_simp
          refine (implI8 d.num _ hc.low hc.high).mono ?_
          rintro e y5 ⟨rfl, b5⟩
          have hw5 := hw4.later b5
          clear b5
          go_wp2_with fail
          refine hK.out _ _ (hS.out _ _ hw5.fr) (fun _ => ?_)
          clear hK K
          try simp only [Act.put, List.setIfInBounds_toArray, List.set_cons_zero, List.set_cons_succ]
          refine wpAnyH_ready (rs := [4]) (by kernel_rfl) (by simp) ?_
          refine AllReadyH.cons rfl (fun K hK => ?_) AllReadyH.nil
          have q := hw5.box.cell 0 rfl
          go_simp
          clear q
          refine hK.out _ _ (hS.out _ _ hw5.fr) (fun _ => ?_)
          clear hK K
          try simp only [Act.put, List.setIfInBounds_toArray, List.set_cons_zero, List.set_cons_succ]
          refine wpAnyH_ready (rs := [8]) (by kernel_rfl) (by simp) ?_
          refine AllReadyH.cons rfl (fun K hK => ?_) AllReadyH.nil
          refine step_append_buf_str _ rfl (.tmp 23) (.tmp 26) 36 9 rfl 5 i0 Try.underlying36 Try.underlying9 hi hz0 hz1 hz2 _ (X ++ by1 (tag d)) rfl hw5.buf (i8 d.num) rfl hsi.out ?_
          intro v' w6 hB1 hg ho
          rw [hXi.out] at hB1
          obtain ⟨a6, c6, rfl⟩ := hB1.form
          have hW6 : Hid (Wt P wx (.slice a0 X.size c0) (w6.setCell ⟨P, 0, none⟩ (.slice a6 (X ++ constB d).size c6)) (.slice a6 (X ++ constB d).size c6) (X ++ constB d)) := hw5.store hB1 hg ho
          have hbx : RowL w6 P 49 _ := World.rowIs.of_block hw5.box (hg.block P hw5.box.lt fun e => hw5.ne e.symm)
          have q2 := hbx.cell 0 rfl
          have f2 := hbx.frozen 0
          have hSw := hS.out _ _ (hw5.fr.trans (Fr.of_grown _ hg ho))
          clear hB1 hg ho hbx
          generalize (X ++ constB d).size = n6 at hW6 ⊢
          refine hK.out _ _ hSw (fun _ => ?_)
          clear hK K
          try simp only [Act.put, List.setIfInBounds_toArray, List.set_cons_zero, List.set_cons_succ]
          refine take_dst 9 28 (.pointer (some ⟨P, 0, none⟩)) rfl (by kernel_rfl) (by kernel_rfl) (by kernel_rfl) (fun _ _ _ h => h) (Or.inl ⟨by rfl, by intro wv hSv; (try dsimp only at hSv); go_simp⟩) hSw rfl ?_
          try simp only [Act.put, List.setIfInBounds_toArray, List.set_cons_zero, List.set_cons_succ]
          refine take_dst 10 29 (.pointer (some ⟨P, 0, none⟩)) rfl (by kernel_rfl) (by kernel_rfl) (by kernel_rfl) (fun _ _ _ h => h) (Or.inl ⟨by rfl, by intro wv hSv; (try dsimp only at hSv); go_simp⟩) hSw rfl ?_
          try simp only [Act.put, List.setIfInBounds_toArray, List.set_cons_zero, List.set_cons_succ]
          refine wpAnyH_ready (rs := [11]) (by kernel_rfl) (by simp) ?_
          refine AllReadyH.cons rfl (fun K hK => ?_) AllReadyH.nil
          go_simp
          clear q2 f2
          refine hK.out _ _ (hS.out _ _ hW6.out.fr) (fun _ => ?_)
          clear hK K
          try simp only [Act.put, List.setIfInBounds_toArray, List.set_cons_zero, List.set_cons_succ]
          refine wpAnyH_done (by kernel_rfl) ?_ _
          clear hS
          go_wp2_with fail
          exact bodyPost_end (results_none rfl _ _ _) rfl ⟨_, rfl, hWx.out.trans hW6.out⟩
      · by_cases hk3 : d.kind = 3
        · have hXi : Hid (X ++ by1 (tag d) ++ sizedB d.text = X ++ constB d) := by
            show _ = _
            rw [hct.out, if_neg hk2, if_pos hk3, ByteArray.append_assoc]
          have hsi : Hid ((X ++ by1 (tag d)).size + (sizedB d.text).size ≤ 70368744177664) := by
            have h1 := hs.out
            rw [hct.out, if_neg hk2, if_pos hk3] at h1
            show _ ≤ _
            simp only [ByteArray.size_append] at h1 ⊢
            omega
          have htx : d.text.size ≤ 1000 := by have := hc.kind; omega
          clear hct hs hsz
          go_wp2_with fail
          refine (wText_in P d.text wx (.slice a0 X.size c0) _ _ _ hW1.out (by omega) hsi.out).mono ?_
          rintro e y6 ⟨v6, rfl, h6⟩
          rw [hXi.out] at h6
          replace h6 : Hid (Wt P wx (.slice a0 X.size c0) y6 v6 (X ++ constB d)) := h6
          clear k0 k1 k2
          go_wp2_with fail
          exact bodyPost_end (results_none rfl _ _ _) rfl ⟨_, rfl, hWx.out.trans h6.out⟩
        · have hXi : Hid (by1 (tag d) = constB d) := by
            show _ = _
            rw [hct.out, if_neg hk2, if_neg hk3]
          clear hct hs hsz
          go_wp2_with fail
          refine bodyPost_end (results_none rfl _ _ _) rfl ⟨.slice a1 nn c1, rfl, ?_⟩
          rw [← hXi.out]
          exact hWx.out.trans hW1.out
set_option maxRecDepth 100000 in
set_option maxHeartbeats 1000000 in
theorem wUp_in (P : Nat) (d : UD) (w0 : World) (v0 : Value) (y : World) (v : Value) (X : ByteArray) (h : Wt P w0 v0 y v X) (hs : X.size + (upB d).size ≤ 70368744177664) :
    Calls Try.prog 38 #[.pointer (some ⟨P, 0, none⟩), .agg #[.bool d.stack, .int .i64 d.index]] y fun e w' => (∃ v', e = .returned (.tuple #[]) ∧ Wt P w0 v0 w' v' (X ++ upB d)) := by
  replace hs : Hid (X.size + (1 + (WPut.pv d.index).size) ≤ 70368744177664) := by unfold upB at hs; rw [ByteArray.size_append, flagB_size] at hs; exact hs
  have hP := h.box.lt
  have hol : Hid (∀ k, v.ownBlock = some k → k < y.heap.size) := h.buf.lt
  go_enter Try.func38, Try.ntmps38
  go_wp2_with fail
  have RP := RowL.new y [.bool d.stack, .int .i64 d.index] 71
  have bw : Below y.heap.size y (y.alloc (.cells #[.bool d.stack, .int .i64 d.index] 71)) := by go_grown
  have sz0 : (y.alloc (.cells #[.bool d.stack, .int .i64 d.index] 71)).heap.size = y.heap.size + 1 := by simp
  generalize y.alloc (.cells #[.bool d.stack, .int .i64 d.index] 71) = wx at RP bw sz0 ⊢
  have hWx : Hid (Wt P w0 v0 wx v X) := h.later bw
  refine (wFlag_in P d.stack wx v wx v X hWx.out.fresh (by have := hs.out; omega)).mono ?_
  rintro e y1 ⟨v1, rfl, h1⟩
  have R1 : RowL y1 y.heap.size 71 [.bool d.stack, .int .i64 d.index] := World.rowIs.of_block RP (h1.fr.block _ (by omega) (by omega) fun e => by have := hol.out _ e; omega)
  have q1 := R1.cell 1 rfl
  clear RP bw R1 h
  go_wp2_with fail
  refine (wNumber_in P d.index wx v y1 v1 (X ++ flagB d.stack) h1 (by have := hs.out; rw [ByteArray.size_append, flagB_size]; omega)).mono ?_
  rintro e y2 ⟨v2, rfl, h2⟩
  have hfin : Hid (Wt P w0 v0 y2 v2 (X ++ upB d)) := by
    have := hWx.out.trans h2
    rw [ByteArray.append_assoc] at this
    exact this
  clear h1 h2 q1
  go_wp2_with fail
  exact bodyPost_end (results_none rfl _ _ _) rfl ⟨_, rfl, hfin.out⟩
end Go.Proofs.Ytcbifllencnbaaa

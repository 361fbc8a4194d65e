import Derived.Test.YtcbifllencnbaaaImA
import Derived.Test.YtcbifllencnbaaaTak
namespace Go.Proofs.Ytcbifllencnbaaa
open Go.RowKit Go.Lib Go.Shelf
set_option linter.unusedVariables false
set_option linter.unusedSimpArgs false
attribute [local go_sem] Oper.semAt_some
theorem implPv_b (n : Int) (y : World) : Calls Try.prog 67 #[.int .i64 n] y fun e w' => e = .returned (.string (WPut.pv n)) ∧ Below y.heap.size y w' := WPut.implPutVarint n y
set_option maxRecDepth 100000 in
set_option maxHeartbeats 2000000 in
theorem wNumber_in (P : Nat) (n : Int) (w0 : World) (v0 : Value) (y : World) (v : Value) (X : ByteArray) (h : Wt P w0 v0 y v X) (hs : X.size + (WPut.pv n).size ≤ 70368744177664) :
    Calls Try.prog 32 #[.pointer (some ⟨P, 0, none⟩), .int .i64 n] y fun e w' => (∃ v', e = .returned (.tuple #[]) ∧ Wt P w0 v0 w' v' (X ++ WPut.pv n)) := by
  obtain ⟨a0, c0, rfl⟩ := h.buf.form
  obtain ⟨i0, hi, hz0, hz1, hz2⟩ := info_parts info8
  replace hs : Hid (X.size + (WPut.pv n).size ≤ 70368744177664) := hs
  have hd := h.drew
  obtain ⟨yd, hyd⟩ : ∃ x, x = y.drew := ⟨_, rfl⟩
  go_enter Try.func32, Try.ntmps32
  refine wp_region_held_drew (S := fun _ => True) (by kernel_rfl) trivial (fun hH => ?_)
  rw [← hyd] at hd ⊢
  clear hyd h
  refine take_dst 0 4 (.pointer (some ⟨P, 0, none⟩)) rfl (by kernel_rfl) (by kernel_rfl) (by kernel_rfl) (fun _ _ _ h => h) (Or.inl ⟨by rfl, by intro wv hSv; (try dsimp only at hSv); go_simp⟩) trivial rfl ?_
  try simp only [Act.put, List.setIfInBounds_toArray, List.set_cons_zero, List.set_cons_succ]
  refine take_dst 1 5 (.pointer (some ⟨P, 0, none⟩)) rfl (by kernel_rfl) (by kernel_rfl) (by kernel_rfl) (fun _ _ _ h => h) (Or.inl ⟨by rfl, by intro wv hSv; (try dsimp only at hSv); go_simp⟩) trivial rfl ?_
  try simp only [Act.put, List.setIfInBounds_toArray, List.set_cons_zero, List.set_cons_succ]
  refine take_dst 2 6 (.pointer (some ⟨P, 0, none⟩)) rfl (by kernel_rfl) (by kernel_rfl) (by kernel_rfl) (fun _ _ _ h => h) (Or.inl ⟨by rfl, by intro wv hSv; (try dsimp only at hSv); go_simp⟩) trivial rfl ?_
  try simp only [Act.put, List.setIfInBounds_toArray, List.set_cons_zero, List.set_cons_succ]
  refine take_dst 3 7 (.pointer (some ⟨P, 0, none⟩)) rfl (by kernel_rfl) (by kernel_rfl) (by kernel_rfl) (fun _ _ _ h => h) (Or.inl ⟨by rfl, by intro wv hSv; (try dsimp only at hSv); go_simp⟩) trivial rfl ?_
  try simp only [Act.put, List.setIfInBounds_toArray, List.set_cons_zero, List.set_cons_succ]
  refine take_dst 5 9 (.int .i64 n) rfl (by kernel_rfl) (by kernel_rfl) (by kernel_rfl) (fun _ _ _ h => h) (Or.inl ⟨by rfl, by intro wv hSv; (try dsimp only at hSv); go_simp⟩) trivial rfl ?_
  try simp only [Act.put, List.setIfInBounds_toArray, List.set_cons_zero, List.set_cons_succ]
  refine wpAnyH_ready (rs := [4, 6]) (by kernel_rfl) (by simp) ?_
  refine AllReadyH.cons rfl (fun K hK => ?_) (AllReadyH.cons rfl (fun K hK => ?_) AllReadyH.nil)
  · have q := hd.box.cell 0 rfl
    go_simp
    clear q
    refine hK.out _ _ trivial (fun _ => ?_)
    clear hK K
    try simp only [Act.put, List.setIfInBounds_toArray, List.set_cons_zero, List.set_cons_succ]
    refine wpAnyH_ready (rs := [6]) (by kernel_rfl) (by simp) ?_
    refine AllReadyH.cons rfl (fun K hK => ?_) AllReadyH.nil
    go_simp
    refine (implPv_b n _).mono ?_
    rintro e y1 ⟨rfl, b1⟩
    have hd1 := hd.later b1
    clear b1
    go_wp2_with fail
    refine hK.out _ _ trivial (fun _ => ?_)
    clear hK K
    try simp only [Act.put, List.setIfInBounds_toArray, List.set_cons_zero, List.set_cons_succ]
    refine wpAnyH_ready (rs := [7]) (by kernel_rfl) (by simp) ?_
    refine AllReadyH.cons rfl (fun K hK => ?_) AllReadyH.nil
    refine step_append_buf_str _ rfl (.tmp 8) (.tmp 10) 36 9 rfl 5 i0 Try.underlying36 Try.underlying9 hi hz0 hz1 hz2 _ X rfl hd1.buf (WPut.pv n) rfl (by have := hs.out; omega) ?_
    intro v' w1 hB1 hg ho
    obtain ⟨a1, c1, rfl⟩ := hB1.form
    have hW1 : Hid (Wt P w0 v0 (w1.setCell ⟨P, 0, none⟩ (.slice a1 (X ++ WPut.pv n).size c1)) (.slice a1 (X ++ WPut.pv n).size c1) (X ++ WPut.pv n)) := hd1.store hB1 hg ho
    have hbx : RowL w1 P 49 _ := World.rowIs.of_block hd1.box (hg.block P hd1.box.lt fun e => hd1.ne e.symm)
    have q2 := hbx.cell 0 rfl
    have f2 := hbx.frozen 0
    have hSw := (trivial : True)
    clear hB1 hg ho hbx
    generalize (X ++ WPut.pv n).size = nn at hW1 ⊢
    refine hK.out _ _ hSw (fun _ => ?_)
    clear hK K
    try simp only [Act.put, List.setIfInBounds_toArray, List.set_cons_zero, List.set_cons_succ]
    refine take_dst 8 12 (.pointer (some ⟨P, 0, none⟩)) rfl (by kernel_rfl) (by kernel_rfl) (by kernel_rfl) (fun _ _ _ h => h) (Or.inl ⟨by rfl, by intro wv hSv; (try dsimp only at hSv); go_simp⟩) hSw rfl ?_
    try simp only [Act.put, List.setIfInBounds_toArray, List.set_cons_zero, List.set_cons_succ]
    refine take_dst 9 13 (.pointer (some ⟨P, 0, none⟩)) rfl (by kernel_rfl) (by kernel_rfl) (by kernel_rfl) (fun _ _ _ h => h) (Or.inl ⟨by rfl, by intro wv hSv; (try dsimp only at hSv); go_simp⟩) hSw rfl ?_
    try simp only [Act.put, List.setIfInBounds_toArray, List.set_cons_zero, List.set_cons_succ]
    refine wpAnyH_ready (rs := [10]) (by kernel_rfl) (by simp) ?_
    refine AllReadyH.cons rfl (fun K hK => ?_) AllReadyH.nil
    go_simp
    clear q2 f2
    refine hK.out _ _ trivial (fun _ => ?_)
    clear hK K
    try simp only [Act.put, List.setIfInBounds_toArray, List.set_cons_zero, List.set_cons_succ]
    refine wpAnyH_done (by kernel_rfl) ?_ _
    exact bodyPost_end (results_none rfl _ _ _) rfl ⟨_, rfl, hW1.out⟩
  · go_simp
    refine (implPv_b n _).mono ?_
    rintro e y1 ⟨rfl, b1⟩
    have hd1 := hd.later b1
    clear b1
    go_wp2_with fail
    refine hK.out _ _ trivial (fun _ => ?_)
    clear hK K
    try simp only [Act.put, List.setIfInBounds_toArray, List.set_cons_zero, List.set_cons_succ]
    refine wpAnyH_ready (rs := [4]) (by kernel_rfl) (by simp) ?_
    refine AllReadyH.cons rfl (fun K hK => ?_) AllReadyH.nil
    have q := hd1.box.cell 0 rfl
    go_simp
    clear q
    refine hK.out _ _ trivial (fun _ => ?_)
    clear hK K
    try simp only [Act.put, List.setIfInBounds_toArray, List.set_cons_zero, List.set_cons_succ]
    refine wpAnyH_ready (rs := [7]) (by kernel_rfl) (by simp) ?_
    refine AllReadyH.cons rfl (fun K hK => ?_) AllReadyH.nil
    refine step_append_buf_str _ rfl (.tmp 8) (.tmp 10) 36 9 rfl 5 i0 Try.underlying36 Try.underlying9 hi hz0 hz1 hz2 _ X rfl hd1.buf (WPut.pv n) rfl (by have := hs.out; omega) ?_
    intro v' w1 hB1 hg ho
    obtain ⟨a1, c1, rfl⟩ := hB1.form
    have hW1 : Hid (Wt P w0 v0 (w1.setCell ⟨P, 0, none⟩ (.slice a1 (X ++ WPut.pv n).size c1)) (.slice a1 (X ++ WPut.pv n).size c1) (X ++ WPut.pv n)) := hd1.store hB1 hg ho
    have hbx : RowL w1 P 49 _ := World.rowIs.of_block hd1.box (hg.block P hd1.box.lt fun e => hd1.ne e.symm)
    have q2 := hbx.cell 0 rfl
    have f2 := hbx.frozen 0
    have hSw := (trivial : True)
    clear hB1 hg ho hbx
    generalize (X ++ WPut.pv n).size = nn at hW1 ⊢
    refine hK.out _ _ hSw (fun _ => ?_)
    clear hK K
    try simp only [Act.put, List.setIfInBounds_toArray, List.set_cons_zero, List.set_cons_succ]
    refine take_dst 8 12 (.pointer (some ⟨P, 0, none⟩)) rfl (by kernel_rfl) (by kernel_rfl) (by kernel_rfl) (fun _ _ _ h => h) (Or.inl ⟨by rfl, by intro wv hSv; (try dsimp only at hSv); go_simp⟩) hSw rfl ?_
    try simp only [Act.put, List.setIfInBounds_toArray, List.set_cons_zero, List.set_cons_succ]
    refine take_dst 9 13 (.pointer (some ⟨P, 0, none⟩)) rfl (by kernel_rfl) (by kernel_rfl) (by kernel_rfl) (fun _ _ _ h => h) (Or.inl ⟨by rfl, by intro wv hSv; (try dsimp only at hSv); go_simp⟩) hSw rfl ?_
    try simp only [Act.put, List.setIfInBounds_toArray, List.set_cons_zero, List.set_cons_succ]
    refine wpAnyH_ready (rs := [10]) (by kernel_rfl) (by simp) ?_
    refine AllReadyH.cons rfl (fun K hK => ?_) AllReadyH.nil
    go_simp
    clear q2 f2
    refine hK.out _ _ trivial (fun _ => ?_)
    clear hK K
    try simp only [Act.put, List.setIfInBounds_toArray, List.set_cons_zero, List.set_cons_succ]
    refine wpAnyH_done (by kernel_rfl) ?_ _
    exact bodyPost_end (results_none rfl _ _ _) rfl ⟨_, rfl, hW1.out⟩
set_option maxRecDepth 100000 in
set_option maxHeartbeats 2000000 in
theorem wText_in (P : Nat) (s : ByteArray) (w0 : World) (v0 : Value) (y : World) (v : Value) (X : ByteArray) (h : Wt P w0 v0 y v X) (hl : s.size ≤ 9223372036854775807) (hs : X.size + (sizedB s).size ≤ 70368744177664) :
    Calls Try.prog 40 #[.pointer (some ⟨P, 0, none⟩), .string s] y fun e w' => (∃ v', e = .returned (.tuple #[]) ∧ Wt P w0 v0 w' v' (X ++ sizedB s)) := by
  obtain ⟨i0, hi, hz0, hz1, hz2⟩ := info_parts info8
  replace hs : Hid (X.size + ((pvN s.size).size + s.size) ≤ 70368744177664) := by unfold sizedB at hs; rw [ByteArray.size_append] at hs; exact hs
  go_enter Try.func40, Try.ntmps40
  go_wp2_with fail
  refine (wNumber_in P s.size w0 v0 y v X h (by have := hs.out; rw [pv_nat]; omega)).mono ?_
  rintro e y1 ⟨v1, rfl, h1⟩
  rw [pv_nat] at h1
  obtain ⟨X1, hX1⟩ : ∃ Z, Z = X ++ pvN s.size := ⟨_, rfl⟩
  rw [← hX1] at h1
  have hs1 : Hid (X1.size + s.size ≤ 140737488355328) := by
    have := hs.out
    show _ ≤ _
    rw [hX1, ByteArray.size_append]
    omega
  have hX2 : Hid (X1 ++ s = X ++ sizedB s) := by
    show _ = _
    rw [hX1, ByteArray.append_assoc]
    rfl
  clear hX1 hs
  obtain ⟨a0, c0, rfl⟩ := h1.buf.form
  have q0 := h1.box.cell 0 rfl
  replace h1 : Hid (Wt P w0 v0 y1 (.slice a0 X1.size c0) X1) := h1
  clear h
  go_wp2_with (at_builtin; refine wpList_append_buf_str _ rfl (.tmp 12) (.tmp 13) 36 9 rfl 5 i0 Try.underlying36 Try.underlying9 hi hz0 hz1 hz2 _ X1 rfl h1.out.buf s rfl hs1.out ?_)
  intro v' w1 hB1 hg ho
  rw [hX2.out] at hB1
  obtain ⟨a1, c1, rfl⟩ := hB1.form
  have hW1 : Hid (Wt P w0 v0 (w1.setCell ⟨P, 0, none⟩ (.slice a1 (X ++ sizedB s).size c1)) (.slice a1 (X ++ sizedB s).size c1) (X ++ sizedB s)) := h1.out.store hB1 hg ho
  have hbx : RowL w1 P 49 _ := World.rowIs.of_block h1.out.box (hg.block P h1.out.box.lt fun e => h1.out.ne e.symm)
  have q2 := hbx.cell 0 rfl
  have f2 := hbx.frozen 0
  clear hB1 hg ho hi hz0 hz1 hz2 h1 hbx q0
  generalize (X ++ sizedB s).size = nn at hW1 ⊢
  go_wp2_with fail
  exact bodyPost_end (results_none rfl _ _ _) rfl ⟨_, rfl, hW1.out⟩
theorem byt4 (z : Int) (h1 : 0 ≤ z) (h2 : z ≤ 4294967295) : strOfNums [WPut.byt 0 z, WPut.byt 1 z, WPut.byt 2 z, WPut.byt 3 z] = u4 z := by
  have e0 : WPut.byt 0 z = z % 256 := by simp [WPut.byt]
  have e1 : WPut.byt 1 z = z / 256 % 256 := by simp [WPut.byt]
  have e2 : WPut.byt 2 z = z / 65536 % 256 := by simp [WPut.byt]
  have e3 : WPut.byt 3 z = z / 16777216 % 256 := by simp [WPut.byt]
  rw [e0, e1, e2, e3]
  rfl
theorem byt_bd (k : Nat) (z : Int) : 0 ≤ WPut.byt k z ∧ WPut.byt k z ≤ 255 := by unfold WPut.byt; omega
set_option maxRecDepth 100000 in
set_option maxHeartbeats 2000000 in
theorem wWord_in (P : Nat) (z : Int) (w0 : World) (v0 : Value) (y : World) (v : Value) (X : ByteArray) (h : Wt P w0 v0 y v X) (hz1' : 0 ≤ z) (hz2' : z ≤ 4294967295) (hs : X.size + (u4 z).size ≤ 70368744177664) :
    Calls Try.prog 34 #[.pointer (some ⟨P, 0, none⟩), .int .u32 z] y fun e w' => (∃ v', e = .returned (.tuple #[]) ∧ Wt P w0 v0 w' v' (X ++ u4 z)) := by
  obtain ⟨a0, c0, rfl⟩ := h.buf.form
  obtain ⟨i0, hi, hz0, hz1, hz2⟩ := info_parts info8
  replace hs : Hid (X.size + (u4 z).size ≤ 70368744177664) := hs
  go_enter Try.func34, Try.ntmps34
  go_wp2_with fail
  refine (WPut.wordBytes_any z _ hz1' hz2').mono ?_
  rintro e y1 ⟨rfl, hy1⟩
  have b1 : Below y.heap.size y y1 := by subst hy1; go_grown
  have h1 := h.later b1
  clear b1 hy1 h
  have g0 := byt_bd 0 z
  have g1 := byt_bd 1 z
  have g2 := byt_bd 2 z
  have g3 := byt_bd 3 z
  have hu := byt4 z hz1' hz2'
  generalize WPut.byt 0 z = x0 at g0 hu ⊢
  generalize WPut.byt 1 z = x1 at g1 hu ⊢
  generalize WPut.byt 2 z = x2 at g2 hu ⊢
  generalize WPut.byt 3 z = x3 at g3 hu ⊢
  go_wp2_with fail
  have hd := (h1.later (show Below y1.heap.size y1 (y1.alloc (.cells #[.int .u8 x0, .int .u8 x1, .int .u8 x2, .int .u8 x3] 109)) by go_grown)).drew
  have hblk : (y1.alloc (.cells #[.int .u8 x0, .int .u8 x1, .int .u8 x2, .int .u8 x3] 109)).drew.heap[y1.heap.size]? = some (.cells #[.int .u8 x0, .int .u8 x1, .int .u8 x2, .int .u8 x3] 109 (0, 0)) := heap_alloc_new y1 _
  obtain ⟨yd, hyd⟩ : ∃ x, x = (y1.alloc (.cells #[.int .u8 x0, .int .u8 x1, .int .u8 x2, .int .u8 x3] 109)).drew := ⟨_, rfl⟩
  refine wp_region_held_drew (S := fun _ => True) (by kernel_rfl) trivial (fun hH => ?_)
  rw [← hyd] at hd hblk ⊢
  clear hyd h1
  refine take_dst 0 7 (.pointer (some ⟨P, 0, none⟩)) rfl (by kernel_rfl) (by kernel_rfl) (by kernel_rfl) (fun _ _ _ h => h) (Or.inl ⟨by rfl, by intro wv hSv; (try dsimp only at hSv); go_simp⟩) trivial rfl ?_
  try simp only [Act.put, List.setIfInBounds_toArray, List.set_cons_zero, List.set_cons_succ]
  refine take_dst 1 8 (.pointer (some ⟨P, 0, none⟩)) rfl (by kernel_rfl) (by kernel_rfl) (by kernel_rfl) (fun _ _ _ h => h) (Or.inl ⟨by rfl, by intro wv hSv; (try dsimp only at hSv); go_simp⟩) trivial rfl ?_
  try simp only [Act.put, List.setIfInBounds_toArray, List.set_cons_zero, List.set_cons_succ]
  refine take_dst 2 9 (.pointer (some ⟨P, 0, none⟩)) rfl (by kernel_rfl) (by kernel_rfl) (by kernel_rfl) (fun _ _ _ h => h) (Or.inl ⟨by rfl, by intro wv hSv; (try dsimp only at hSv); go_simp⟩) trivial rfl ?_
  try simp only [Act.put, List.setIfInBounds_toArray, List.set_cons_zero, List.set_cons_succ]
  refine take_dst 3 10 (.pointer (some ⟨P, 0, none⟩)) rfl (by kernel_rfl) (by kernel_rfl) (by kernel_rfl) (fun _ _ _ h => h) (Or.inl ⟨by rfl, by intro wv hSv; (try dsimp only at hSv); go_simp⟩) trivial rfl ?_
  try simp only [Act.put, List.setIfInBounds_toArray, List.set_cons_zero, List.set_cons_succ]
  refine take_dst 5 12 (.slice (some ⟨y1.heap.size, 0, none⟩) 4 4) rfl (by kernel_rfl) (by kernel_rfl) (by kernel_rfl) (fun _ _ _ h => h) (Or.inl ⟨by rfl, by intro wv hSv; (try dsimp only at hSv); go_simp⟩) trivial rfl ?_
  try simp only [Act.put, List.setIfInBounds_toArray, List.set_cons_zero, List.set_cons_succ]
  refine wpAnyH_ready (rs := [4]) (by kernel_rfl) (by simp) ?_
  refine AllReadyH.cons rfl (fun K hK => ?_) AllReadyH.nil
  have q := hd.box.cell 0 rfl
  go_simp
  clear q
  refine hK.out _ _ trivial (fun _ => ?_)
  clear hK K
  try simp only [Act.put, List.setIfInBounds_toArray, List.set_cons_zero, List.set_cons_succ]
  refine wpAnyH_ready (rs := [6]) (by kernel_rfl) (by simp) ?_
  refine AllReadyH.cons rfl (fun K hK => ?_) AllReadyH.nil
  refine step_append_buf_news _ rfl (.tmp 11) (.tmp 12) 36 rfl 5 i0 Try.underlying36 hi hz0 hz1 hz2 _ X rfl hd.buf (u4 z) ⟨y1.heap.size, 0, none⟩ 4 4 rfl (u4_size _) (by omega) (by rw [← hu, strCells_nums _ (by simp only [List.mem_cons, List.not_mem_nil, or_false]; rintro x (rfl | rfl | rfl | rfl) <;> assumption)]; exact World.news_of_block hblk) (by have := hs.out; omega) ?_
  intro v' w1 hB1 hg ho
  obtain ⟨a1, c1, rfl⟩ := hB1.form
  have hW1 : Hid (Wt P w0 v0 (w1.setCell ⟨P, 0, none⟩ (.slice a1 (X ++ u4 z).size c1)) (.slice a1 (X ++ u4 z).size c1) (X ++ u4 z)) := hd.store hB1 hg ho
  have hbx : RowL w1 P 49 _ := World.rowIs.of_block hd.box (hg.block P hd.box.lt fun e => hd.ne e.symm)
  have q2 := hbx.cell 0 rfl
  have f2 := hbx.frozen 0
  have hSw := (trivial : True)
  clear hB1 hg ho hbx
  generalize (X ++ u4 z).size = nn at hW1 ⊢
  refine hK.out _ _ hSw (fun _ => ?_)
  clear hK K
  try simp only [Act.put, List.setIfInBounds_toArray, List.set_cons_zero, List.set_cons_succ]
  refine take_dst 7 14 (.pointer (some ⟨P, 0, none⟩)) rfl (by kernel_rfl) (by kernel_rfl) (by kernel_rfl) (fun _ _ _ h => h) (Or.inl ⟨by rfl, by intro wv hSv; (try dsimp only at hSv); go_simp⟩) hSw rfl ?_
  try simp only [Act.put, List.setIfInBounds_toArray, List.set_cons_zero, List.set_cons_succ]
  refine take_dst 8 15 (.pointer (some ⟨P, 0, none⟩)) rfl (by kernel_rfl) (by kernel_rfl) (by kernel_rfl) (fun _ _ _ h => h) (Or.inl ⟨by rfl, by intro wv hSv; (try dsimp only at hSv); go_simp⟩) hSw rfl ?_
  try simp only [Act.put, List.setIfInBounds_toArray, List.set_cons_zero, List.set_cons_succ]
  refine wpAnyH_ready (rs := [9]) (by kernel_rfl) (by simp) ?_
  refine AllReadyH.cons rfl (fun K hK => ?_) AllReadyH.nil
  go_simp
  clear q2 f2
  refine hK.out _ _ trivial (fun _ => ?_)
  clear hK K
  try simp only [Act.put, List.setIfInBounds_toArray, List.set_cons_zero, List.set_cons_succ]
  refine wpAnyH_done (by kernel_rfl) ?_ _
  exact bodyPost_end (results_none rfl _ _ _) rfl ⟨_, rfl, hW1.out⟩
end Go.Proofs.Ytcbifllencnbaaa

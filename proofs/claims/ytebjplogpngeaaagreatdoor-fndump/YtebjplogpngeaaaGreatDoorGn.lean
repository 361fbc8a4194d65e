import Derived.Test.YtebjplogpngeaaaGreatDoorGm
import Derived.Test.YtebjplogpngeaaaGreatDoorGa
namespace Go.Proofs.YtebjplogpngeaaaGreatDoor
open Go.RowKit Go.Lib Go.Shelf
set_option linter.unusedVariables false
set_option linter.unusedSimpArgs false
/-- the writer at P, since w0 and v0. -/
structure Wt (P : Nat) (w0 : World) (v0 : Value) (y : World) (v : Value) (X : ByteArray) : Prop where
  box : RowL y P 41 [v]
  buf : Buf y 5 v X
  ne : v.ownBlock ≠ some P
  fr : Fr (fun k => k = P) w0 v0 y v
theorem Wt.later {P : Nat} {w0 y y' : World} {v0 v : Value} {X : ByteArray} (h : Wt P w0 v0 y v X) (hb : Below y.heap.size y y') : Wt P w0 v0 y' v X :=
  ⟨h.box.call hb, h.buf.keep fun k hk => hb.block k (h.buf.lt k hk), h.ne, h.fr.trans (Fr.of_below _ _ hb)⟩
theorem Wt.drew {P : Nat} {w0 y : World} {v0 v : Value} {X : ByteArray} (h : Wt P w0 v0 y v X) : Wt P w0 v0 y.drew v X := h.later (Below.refl _ _).drew
theorem Wt.fresh {P : Nat} {w0 y : World} {v0 v : Value} {X : ByteArray} (h : Wt P w0 v0 y v X) : Wt P y v y v X := ⟨h.box, h.buf, h.ne, Fr.refl _ _ _⟩
theorem Wt.trans {P : Nat} {w0 y z : World} {v0 v u : Value} {X Y : ByteArray} (h : Wt P w0 v0 y v X) (k : Wt P y v z u Y) : Wt P w0 v0 z u Y := ⟨k.box, k.buf, k.ne, h.fr.trans k.fr⟩
/-- what was appended is stored. -/
theorem Wt.store {P : Nat} {w0 y y' : World} {v0 v v' : Value} {X X' : ByteArray} (h : Wt P w0 v0 y v X) (hB : Buf y' 5 v' X') (hg : y.grownBy y' v.ownBlock) (ho : v'.ownBlock = v.ownBlock ∨ v'.ownBlock = some y.heap.size) : Wt P w0 v0 (y'.setCell ⟨P, 0, none⟩ v') v' X' := by
  have hP : P < y.heap.size := h.box.lt
  have hne : v'.ownBlock ≠ some P := by
    rcases ho with e | e
    · rw [e]; exact h.ne
    · rw [e]; intro k; simp only [Option.some.injEq] at k; omega
  have hbx : RowL y' P 41 [v] := World.rowIs.of_block h.box (hg.block P hP fun e => h.ne e.symm)
  have hf : Fr (fun k => k = P) y v y' v' := Fr.of_grown _ hg ho
  refine ⟨hbx.set 0 v', hB.keep fun k hk => Below.heap_setCell _ _ _ _ (by rintro rfl; exact hne hk), hne, h.fr.trans (hf.trans ⟨rfl, rfl, rfl, by simp, fun k hk hp _ => Below.heap_setCell _ _ _ _ hp, .inl rfl⟩)⟩
attribute [local go_sem] Oper.semAt_some
set_option maxRecDepth 100000 in
set_option maxHeartbeats 1000000 in
theorem wFlag_in (P : Nat) (b : Bool) (w0 : World) (v0 : Value) (y : World) (v : Value) (X : ByteArray) (h : Wt P w0 v0 y v X) (hs : X.size + 1 ≤ 70368744177664) :
    Calls Tryz.prog 29 #[.pointer (some ⟨P, 0, none⟩), .bool b] y fun e w' => (∃ v', e = .returned (.tuple #[]) ∧ Wt P w0 v0 w' v' (X ++ flagB b)) := by
  obtain ⟨a0, c0, rfl⟩ := h.buf.form
  obtain ⟨i0, hi, hz0, hz1, hz2⟩ := info_parts info8
  have q0 := h.box.cell 0 rfl
  have hW : Hid (Wt P w0 v0 y (.slice a0 X.size c0) X) := h
  replace hs : Hid (X.size + 1 ≤ 70368744177664) := hs
  clear h
  cases b with
  | false =>
    have q1 : (y.alloc (.cells #[.int .u8 0] 5)).cell? ⟨P, 0, none⟩ = some (.slice a0 X.size c0) := (hW.out.box.alloc _).cell 0 rfl
    go_enter Tryz.func29, Tryz.ntmps29
    go_wp2_with (at_builtin; refine wpList_append_buf_news _ rfl (.tmp 10) (.tmp 12) 22 rfl 5 i0 Tryz.underlying22 hi hz0 hz1 hz2 _ X rfl (hW.out.buf.keep ?c0) (flagB false) ⟨y.heap.size, 0, none⟩ 1 1 rfl (flagB_size _) (by omega) ?c1 ?c2 ?_)
    case c0 => exact fun k hk => Below.heap_alloc _ _ _ (hW.out.buf.lt k hk)
    case c1 => exact cell_one_new _ _ _
    case c2 => rw [flagB_size]; have := hs.out; omega
    intro v' w1 hB1 hg ho
    obtain ⟨a1, c1, rfl⟩ := hB1.form
    have hWa := hW.out.later (show Below y.heap.size y (y.alloc (.cells #[.int .u8 0] 5)) by go_grown)
    have hW1 : Hid (Wt P w0 v0 (w1.setCell ⟨P, 0, none⟩ (.slice a1 (X ++ flagB false).size c1)) (.slice a1 (X ++ flagB false).size c1) (X ++ flagB false)) := hWa.store hB1 hg (by simpa using ho)
    have hbx : RowL w1 P 41 [.slice a0 X.size c0] := World.rowIs.of_block hWa.box (hg.block P hWa.box.lt fun e => hWa.ne e.symm)
    have q2 := hbx.cell 0 rfl
    have f2 := hbx.frozen 0
    clear hB1 hg ho hi hz0 hz1 hz2 hW hWa hbx q0 q1
    generalize (X ++ flagB false).size = nn at hW1 ⊢
    go_wp2_with fail
    exact bodyPost_end (results_none rfl _ _ _) rfl ⟨_, rfl, hW1.out⟩
  | true =>
    have q1 : (y.alloc (.cells #[.int .u8 1] 5)).cell? ⟨P, 0, none⟩ = some (.slice a0 X.size c0) := (hW.out.box.alloc _).cell 0 rfl
    go_enter Tryz.func29, Tryz.ntmps29
    go_wp2_with (at_builtin; refine wpList_append_buf_news _ rfl (.tmp 10) (.tmp 12) 22 rfl 5 i0 Tryz.underlying22 hi hz0 hz1 hz2 _ X rfl (hW.out.buf.keep ?c0) (flagB true) ⟨y.heap.size, 0, none⟩ 1 1 rfl (flagB_size _) (by omega) ?c1 ?c2 ?_)
    case c0 => exact fun k hk => Below.heap_alloc _ _ _ (hW.out.buf.lt k hk)
    case c1 => exact cell_one_new _ _ _
    case c2 => rw [flagB_size]; have := hs.out; omega
    intro v' w1 hB1 hg ho
    obtain ⟨a1, c1, rfl⟩ := hB1.form
    have hWa := hW.out.later (show Below y.heap.size y (y.alloc (.cells #[.int .u8 1] 5)) by go_grown)
    have hW1 : Hid (Wt P w0 v0 (w1.setCell ⟨P, 0, none⟩ (.slice a1 (X ++ flagB true).size c1)) (.slice a1 (X ++ flagB true).size c1) (X ++ flagB true)) := hWa.store hB1 hg (by simpa using ho)
    have hbx : RowL w1 P 41 [.slice a0 X.size c0] := World.rowIs.of_block hWa.box (hg.block P hWa.box.lt fun e => hWa.ne e.symm)
    have q2 := hbx.cell 0 rfl
    have f2 := hbx.frozen 0
    clear hB1 hg ho hi hz0 hz1 hz2 hW hWa hbx q0 q1
    generalize (X ++ flagB true).size = nn at hW1 ⊢
    go_wp2_with fail
    exact bodyPost_end (results_none rfl _ _ _) rfl ⟨_, rfl, hW1.out⟩
end Go.Proofs.YtebjplogpngeaaaGreatDoor
namespace Go.Proofs.YtebjplogpngeaaaGreatDoor
open Go.RowKit Go.Lib Go.Shelf
set_option linter.unusedVariables false
set_option linter.unusedSimpArgs false
attribute [local go_sem] Oper.semAt_some
theorem implPv_b (n : Int) (y : World) : Calls Tryz.prog 69 #[.int .i64 n] y fun e w' => e = .returned (.string (WPut.pv n)) ∧ Below y.heap.size y w' := WPut.implPutVarint n y
set_option maxRecDepth 100000 in
set_option maxHeartbeats 2000000 in
theorem wNumber_in (P : Nat) (n : Int) (w0 : World) (v0 : Value) (y : World) (v : Value) (X : ByteArray) (h : Wt P w0 v0 y v X) (hs : X.size + (WPut.pv n).size ≤ 70368744177664) :
    Calls Tryz.prog 30 #[.pointer (some ⟨P, 0, none⟩), .int .i64 n] y fun e w' => (∃ v', e = .returned (.tuple #[]) ∧ Wt P w0 v0 w' v' (X ++ WPut.pv n)) := by
  obtain ⟨a0, c0, rfl⟩ := h.buf.form
  obtain ⟨i0, hi, hz0, hz1, hz2⟩ := info_parts info8
  replace hs : Hid (X.size + (WPut.pv n).size ≤ 70368744177664) := hs
  have hd := h.drew
  obtain ⟨yd, hyd⟩ : ∃ x, x = y.drew := ⟨_, rfl⟩
  go_enter Tryz.func30, Tryz.ntmps30
  refine wp_region_held_drew (S := fun _ => True) (by kernel_rfl) trivial (fun hH => ?_)
  rw [← hyd] at hd ⊢
  clear hyd h
  refine take_dst 0 4 (.pointer (some ⟨P, 0, none⟩)) rfl (by kernel_rfl) (by kernel_rfl) (by kernel_rfl) (fun _ _ _ h => h) (Or.inl ⟨by rfl, by intro wv hSv; (try dsimp only at hSv); go_simp⟩) trivial rfl ?_
  try simp only [Act.put, List.setIfInBounds_toArray, List.set_cons_zero, List.set_cons_succ]
  refine take_dst 1 5 (.pointer (some ⟨P, 0, none⟩)) rfl (by kernel_rfl) (by kernel_rfl) (by kernel_rfl) (fun _ _ _ h => h) (Or.inl ⟨by rfl, by intro wv hSv; (try dsimp only at hSv); go_simp⟩) trivial rfl ?_
  try simp only [Act.put, List.setIfInBounds_toArray, List.set_cons_zero, List.set_cons_succ]
  refine take_dst 2 6 (.pointer (some ⟨P, 0, none⟩)) rfl (by kernel_rfl) (by kernel_rfl) (by kernel_rfl) (fun _ _ _ h => h) (Or.inl ⟨by rfl, by intro wv hSv; (try dsimp only at hSv); go_simp⟩) trivial rfl ?_
  try simp only [Act.put, List.setIfInBounds_toArray, List.set_cons_zero, List.set_cons_succ]
  refine take_dst 3 7 (.pointer (some ⟨P, 0, none⟩)) rfl (by kernel_rfl) (by kernel_rfl) (by kernel_rfl) (fun _ _ _ h => h) (Or.inl ⟨by rfl, by intro wv hSv; (try dsimp only at hSv); go_simp⟩) trivial rfl ?_
  try simp only [Act.put, List.setIfInBounds_toArray, List.set_cons_zero, List.set_cons_succ]
  refine take_dst 5 9 (.int .i64 n) rfl (by kernel_rfl) (by kernel_rfl) (by kernel_rfl) (fun _ _ _ h => h) (Or.inl ⟨by rfl, by intro wv hSv; (try dsimp only at hSv); go_simp⟩) trivial rfl ?_
  try simp only [Act.put, List.setIfInBounds_toArray, List.set_cons_zero, List.set_cons_succ]
  refine wpAnyH_ready (rs := [4, 6]) (by kernel_rfl) (by simp) ?_
  refine AllReadyH.cons rfl (fun K hK => ?_) (AllReadyH.cons rfl (fun K hK => ?_) AllReadyH.nil)
  · have q := hd.box.cell 0 rfl
    go_simp
    clear q
    refine hK.out _ _ trivial (fun _ => ?_)
    clear hK K
    try simp only [Act.put, List.setIfInBounds_toArray, List.set_cons_zero, List.set_cons_succ]
    refine wpAnyH_ready (rs := [6]) (by kernel_rfl) (by simp) ?_
    refine AllReadyH.cons rfl (fun K hK => ?_) AllReadyH.nil
    go_simp
    refine (implPv_b n _).mono ?_
    rintro e y1 ⟨rfl, b1⟩
    have hd1 := hd.later b1
    clear b1
    go_wp2_with fail
    refine hK.out _ _ trivial (fun _ => ?_)
    clear hK K
    try simp only [Act.put, List.setIfInBounds_toArray, List.set_cons_zero, List.set_cons_succ]
    refine wpAnyH_ready (rs := [7]) (by kernel_rfl) (by simp) ?_
    refine AllReadyH.cons rfl (fun K hK => ?_) AllReadyH.nil
    refine step_append_buf_str _ rfl (.tmp 8) (.tmp 10) 22 9 rfl 5 i0 Tryz.underlying22 Tryz.underlying9 hi hz0 hz1 hz2 _ X rfl hd1.buf (WPut.pv n) rfl (by have := hs.out; omega) ?_
    intro v' w1 hB1 hg ho
    obtain ⟨a1, c1, rfl⟩ := hB1.form
    have hW1 : Hid (Wt P w0 v0 (w1.setCell ⟨P, 0, none⟩ (.slice a1 (X ++ WPut.pv n).size c1)) (.slice a1 (X ++ WPut.pv n).size c1) (X ++ WPut.pv n)) := hd1.store hB1 hg ho
    have hbx : RowL w1 P 41 _ := World.rowIs.of_block hd1.box (hg.block P hd1.box.lt fun e => hd1.ne e.symm)
    have q2 := hbx.cell 0 rfl
    have f2 := hbx.frozen 0
    have hSw := (trivial : True)
    clear hB1 hg ho hbx
    generalize (X ++ WPut.pv n).size = nn at hW1 ⊢
    refine hK.out _ _ hSw (fun _ => ?_)
    clear hK K
    try simp only [Act.put, List.setIfInBounds_toArray, List.set_cons_zero, List.set_cons_succ]
    refine take_dst 8 12 (.pointer (some ⟨P, 0, none⟩)) rfl (by kernel_rfl) (by kernel_rfl) (by kernel_rfl) (fun _ _ _ h => h) (Or.inl ⟨by rfl, by intro wv hSv; (try dsimp only at hSv); go_simp⟩) hSw rfl ?_
    try simp only [Act.put, List.setIfInBounds_toArray, List.set_cons_zero, List.set_cons_succ]
    refine take_dst 9 13 (.pointer (some ⟨P, 0, none⟩)) rfl (by kernel_rfl) (by kernel_rfl) (by kernel_rfl) (fun _ _ _ h => h) (Or.inl ⟨by rfl, by intro wv hSv; (try dsimp only at hSv); go_simp⟩) hSw rfl ?_
    try simp only [Act.put, List.setIfInBounds_toArray, List.set_cons_zero, List.set_cons_succ]
    refine wpAnyH_ready (rs := [10]) (by kernel_rfl) (by simp) ?_
    refine AllReadyH.cons rfl (fun K hK => ?_) AllReadyH.nil
    go_simp
    clear q2 f2
    refine hK.out _ _ trivial (fun _ => ?_)
    clear hK K
    try simp only [Act.put, List.setIfInBounds_toArray, List.set_cons_zero, List.set_cons_succ]
    refine wpAnyH_done (by kernel_rfl) ?_ _
    exact bodyPost_end (results_none rfl _ _ _) rfl ⟨_, rfl, hW1.out⟩
  · go_simp
    refine (implPv_b n _).mono ?_
    rintro e y1 ⟨rfl, b1⟩
    have hd1 := hd.later b1
    clear b1
    go_wp2_with fail
    refine hK.out _ _ trivial (fun _ => ?_)
    clear hK K
    try simp only [Act.put, List.setIfInBounds_toArray, List.set_cons_zero, List.set_cons_succ]
    refine wpAnyH_ready (rs := [4]) (by kernel_rfl) (by simp) ?_
    refine AllReadyH.cons rfl (fun K hK => ?_) AllReadyH.nil
    have q := hd1.box.cell 0 rfl
    go_simp
    clear q
    refine hK.out _ _ trivial (fun _ => ?_)
    clear hK K
    try simp only [Act.put, List.setIfInBounds_toArray, List.set_cons_zero, List.set_cons_succ]
    refine wpAnyH_ready (rs := [7]) (by kernel_rfl) (by simp) ?_
    refine AllReadyH.cons rfl (fun K hK => ?_) AllReadyH.nil
    refine step_append_buf_str _ rfl (.tmp 8) (.tmp 10) 22 9 rfl 5 i0 Tryz.underlying22 Tryz.underlying9 hi hz0 hz1 hz2 _ X rfl hd1.buf (WPut.pv n) rfl (by have := hs.out; omega) ?_
    intro v' w1 hB1 hg ho
    obtain ⟨a1, c1, rfl⟩ := hB1.form
    have hW1 : Hid (Wt P w0 v0 (w1.setCell ⟨P, 0, none⟩ (.slice a1 (X ++ WPut.pv n).size c1)) (.slice a1 (X ++ WPut.pv n).size c1) (X ++ WPut.pv n)) := hd1.store hB1 hg ho
    have hbx : RowL w1 P 41 _ := World.rowIs.of_block hd1.box (hg.block P hd1.box.lt fun e => hd1.ne e.symm)
    have q2 := hbx.cell 0 rfl
    have f2 := hbx.frozen 0
    have hSw := (trivial : True)
    clear hB1 hg ho hbx
    generalize (X ++ WPut.pv n).size = nn at hW1 ⊢
    refine hK.out _ _ hSw (fun _ => ?_)
    clear hK K
    try simp only [Act.put, List.setIfInBounds_toArray, List.set_cons_zero, List.set_cons_succ]
    refine take_dst 8 12 (.pointer (some ⟨P, 0, none⟩)) rfl (by kernel_rfl) (by kernel_rfl) (by kernel_rfl) (fun _ _ _ h => h) (Or.inl ⟨by rfl, by intro wv hSv; (try dsimp only at hSv); go_simp⟩) hSw rfl ?_
    try simp only [Act.put, List.setIfInBounds_toArray, List.set_cons_zero, List.set_cons_succ]
    refine take_dst 9 13 (.pointer (some ⟨P, 0, none⟩)) rfl (by kernel_rfl) (by kernel_rfl) (by kernel_rfl) (fun _ _ _ h => h) (Or.inl ⟨by rfl, by intro wv hSv; (try dsimp only at hSv); go_simp⟩) hSw rfl ?_
    try simp only [Act.put, List.setIfInBounds_toArray, List.set_cons_zero, List.set_cons_succ]
    refine wpAnyH_ready (rs := [10]) (by kernel_rfl) (by simp) ?_
    refine AllReadyH.cons rfl (fun K hK => ?_) AllReadyH.nil
    go_simp
    clear q2 f2
    refine hK.out _ _ trivial (fun _ => ?_)
    clear hK K
    try simp only [Act.put, List.setIfInBounds_toArray, List.set_cons_zero, List.set_cons_succ]
    refine wpAnyH_done (by kernel_rfl) ?_ _
    exact bodyPost_end (results_none rfl _ _ _) rfl ⟨_, rfl, hW1.out⟩
set_option maxRecDepth 100000 in
set_option maxHeartbeats 2000000 in
theorem wText_in (P : Nat) (s : ByteArray) (w0 : World) (v0 : Value) (y : World) (v : Value) (X : ByteArray) (h : Wt P w0 v0 y v X) (hl : s.size ≤ 9223372036854775807) (hs : X.size + (sizedB s).size ≤ 70368744177664) :
    Calls Tryz.prog 38 #[.pointer (some ⟨P, 0, none⟩), .string s] y fun e w' => (∃ v', e = .returned (.tuple #[]) ∧ Wt P w0 v0 w' v' (X ++ sizedB s)) := by
  obtain ⟨i0, hi, hz0, hz1, hz2⟩ := info_parts info8
  replace hs : Hid (X.size + ((pvN s.size).size + s.size) ≤ 70368744177664) := by unfold sizedB at hs; rw [ByteArray.size_append] at hs; exact hs
  go_enter Tryz.func38, Tryz.ntmps38
  go_wp2_with fail
  refine (wNumber_in P s.size w0 v0 y v X h (by have := hs.out; rw [pv_nat]; omega)).mono ?_
  rintro e y1 ⟨v1, rfl, h1⟩
  rw [pv_nat] at h1
  obtain ⟨X1, hX1⟩ : ∃ Z, Z = X ++ pvN s.size := ⟨_, rfl⟩
  rw [← hX1] at h1
  have hs1 : Hid (X1.size + s.size ≤ 140737488355328) := by
    have := hs.out
    show _ ≤ _
    rw [hX1, ByteArray.size_append]
    omega
  have hX2 : Hid (X1 ++ s = X ++ sizedB s) := by
    show _ = _
    rw [hX1, ByteArray.append_assoc]
    rfl
  clear hX1 hs
  obtain ⟨a0, c0, rfl⟩ := h1.buf.form
  have q0 := h1.box.cell 0 rfl
  replace h1 : Hid (Wt P w0 v0 y1 (.slice a0 X1.size c0) X1) := h1
  clear h
  go_wp2_with (at_builtin; refine wpList_append_buf_str _ rfl (.tmp 12) (.tmp 13) 22 9 rfl 5 i0 Tryz.underlying22 Tryz.underlying9 hi hz0 hz1 hz2 _ X1 rfl h1.out.buf s rfl hs1.out ?_)
  intro v' w1 hB1 hg ho
  rw [hX2.out] at hB1
  obtain ⟨a1, c1, rfl⟩ := hB1.form
  have hW1 : Hid (Wt P w0 v0 (w1.setCell ⟨P, 0, none⟩ (.slice a1 (X ++ sizedB s).size c1)) (.slice a1 (X ++ sizedB s).size c1) (X ++ sizedB s)) := h1.out.store hB1 hg ho
  have hbx : RowL w1 P 41 _ := World.rowIs.of_block h1.out.box (hg.block P h1.out.box.lt fun e => h1.out.ne e.symm)
  have q2 := hbx.cell 0 rfl
  have f2 := hbx.frozen 0
  clear hB1 hg ho hi hz0 hz1 hz2 h1 hbx q0
  generalize (X ++ sizedB s).size = nn at hW1 ⊢
  go_wp2_with fail
  exact bodyPost_end (results_none rfl _ _ _) rfl ⟨_, rfl, hW1.out⟩
theorem byt4 (z : Int) (h1 : 0 ≤ z) (h2 : z ≤ 4294967295) : strOfNums [WPut.byt 0 z, WPut.byt 1 z, WPut.byt 2 z, WPut.byt 3 z] = u4 z := by
  have e0 : WPut.byt 0 z = z % 256 := by simp [WPut.byt]
  have e1 : WPut.byt 1 z = z / 256 % 256 := by simp [WPut.byt]
  have e2 : WPut.byt 2 z = z / 65536 % 256 := by simp [WPut.byt]
  have e3 : WPut.byt 3 z = z / 16777216 % 256 := by simp [WPut.byt]
  rw [e0, e1, e2, e3]
  rfl
theorem byt_bd (k : Nat) (z : Int) : 0 ≤ WPut.byt k z ∧ WPut.byt k z ≤ 255 := by unfold WPut.byt; omega
set_option maxRecDepth 100000 in
set_option maxHeartbeats 2000000 in
theorem wWord_in (P : Nat) (z : Int) (w0 : World) (v0 : Value) (y : World) (v : Value) (X : ByteArray) (h : Wt P w0 v0 y v X) (hz1' : 0 ≤ z) (hz2' : z ≤ 4294967295) (hs : X.size + (u4 z).size ≤ 70368744177664) :
    Calls Tryz.prog 32 #[.pointer (some ⟨P, 0, none⟩), .int .u32 z] y fun e w' => (∃ v', e = .returned (.tuple #[]) ∧ Wt P w0 v0 w' v' (X ++ u4 z)) := by
  obtain ⟨a0, c0, rfl⟩ := h.buf.form
  obtain ⟨i0, hi, hz0, hz1, hz2⟩ := info_parts info8
  replace hs : Hid (X.size + (u4 z).size ≤ 70368744177664) := hs
  go_enter Tryz.func32, Tryz.ntmps32
  go_wp2_with fail
  refine (WPut.wordBytes_any z _ hz1' hz2').mono ?_
  rintro e y1 ⟨rfl, hy1⟩
  have b1 : Below y.heap.size y y1 := by subst hy1; go_grown
  have h1 := h.later b1
  clear b1 hy1 h
  have g0 := byt_bd 0 z
  have g1 := byt_bd 1 z
  have g2 := byt_bd 2 z
  have g3 := byt_bd 3 z
  have hu := byt4 z hz1' hz2'
  generalize WPut.byt 0 z = x0 at g0 hu ⊢
  generalize WPut.byt 1 z = x1 at g1 hu ⊢
  generalize WPut.byt 2 z = x2 at g2 hu ⊢
  generalize WPut.byt 3 z = x3 at g3 hu ⊢
  go_wp2_with fail
  have hd := (h1.later (show Below y1.heap.size y1 (y1.alloc (.cells #[.int .u8 x0, .int .u8 x1, .int .u8 x2, .int .u8 x3] 130)) by go_grown)).drew
  have hblk : (y1.alloc (.cells #[.int .u8 x0, .int .u8 x1, .int .u8 x2, .int .u8 x3] 130)).drew.heap[y1.heap.size]? = some (.cells #[.int .u8 x0, .int .u8 x1, .int .u8 x2, .int .u8 x3] 130 (0, 0)) := heap_alloc_new y1 _
  obtain ⟨yd, hyd⟩ : ∃ x, x = (y1.alloc (.cells #[.int .u8 x0, .int .u8 x1, .int .u8 x2, .int .u8 x3] 130)).drew := ⟨_, rfl⟩
  refine wp_region_held_drew (S := fun _ => True) (by kernel_rfl) trivial (fun hH => ?_)
  rw [← hyd] at hd hblk ⊢
  clear hyd h1
  refine take_dst 0 7 (.pointer (some ⟨P, 0, none⟩)) rfl (by kernel_rfl) (by kernel_rfl) (by kernel_rfl) (fun _ _ _ h => h) (Or.inl ⟨by rfl, by intro wv hSv; (try dsimp only at hSv); go_simp⟩) trivial rfl ?_
  try simp only [Act.put, List.setIfInBounds_toArray, List.set_cons_zero, List.set_cons_succ]
  refine take_dst 1 8 (.pointer (some ⟨P, 0, none⟩)) rfl (by kernel_rfl) (by kernel_rfl) (by kernel_rfl) (fun _ _ _ h => h) (Or.inl ⟨by rfl, by intro wv hSv; (try dsimp only at hSv); go_simp⟩) trivial rfl ?_
  try simp only [Act.put, List.setIfInBounds_toArray, List.set_cons_zero, List.set_cons_succ]
  refine take_dst 2 9 (.pointer (some ⟨P, 0, none⟩)) rfl (by kernel_rfl) (by kernel_rfl) (by kernel_rfl) (fun _ _ _ h => h) (Or.inl ⟨by rfl, by intro wv hSv; (try dsimp only at hSv); go_simp⟩) trivial rfl ?_
  try simp only [Act.put, List.setIfInBounds_toArray, List.set_cons_zero, List.set_cons_succ]
  refine take_dst 3 10 (.pointer (some ⟨P, 0, none⟩)) rfl (by kernel_rfl) (by kernel_rfl) (by kernel_rfl) (fun _ _ _ h => h) (Or.inl ⟨by rfl, by intro wv hSv; (try dsimp only at hSv); go_simp⟩) trivial rfl ?_
  try simp only [Act.put, List.setIfInBounds_toArray, List.set_cons_zero, List.set_cons_succ]
  refine take_dst 5 12 (.slice (some ⟨y1.heap.size, 0, none⟩) 4 4) rfl (by kernel_rfl) (by kernel_rfl) (by kernel_rfl) (fun _ _ _ h => h) (Or.inl ⟨by rfl, by intro wv hSv; (try dsimp only at hSv); go_simp⟩) trivial rfl ?_
  try simp only [Act.put, List.setIfInBounds_toArray, List.set_cons_zero, List.set_cons_succ]
  refine wpAnyH_ready (rs := [4]) (by kernel_rfl) (by simp) ?_
  refine AllReadyH.cons rfl (fun K hK => ?_) AllReadyH.nil
  have q := hd.box.cell 0 rfl
  go_simp
  clear q
  refine hK.out _ _ trivial (fun _ => ?_)
  clear hK K
  try simp only [Act.put, List.setIfInBounds_toArray, List.set_cons_zero, List.set_cons_succ]
  refine wpAnyH_ready (rs := [6]) (by kernel_rfl) (by simp) ?_
  refine AllReadyH.cons rfl (fun K hK => ?_) AllReadyH.nil
  refine step_append_buf_news _ rfl (.tmp 11) (.tmp 12) 22 rfl 5 i0 Tryz.underlying22 hi hz0 hz1 hz2 _ X rfl hd.buf (u4 z) ⟨y1.heap.size, 0, none⟩ 4 4 rfl (u4_size _) (by omega) (by rw [← hu, strCells_nums _ (by simp only [List.mem_cons, List.not_mem_nil, or_false]; rintro x (rfl | rfl | rfl | rfl) <;> assumption)]; exact World.news_of_block hblk) (by have := hs.out; omega) ?_
  intro v' w1 hB1 hg ho
  obtain ⟨a1, c1, rfl⟩ := hB1.form
  have hW1 : Hid (Wt P w0 v0 (w1.setCell ⟨P, 0, none⟩ (.slice a1 (X ++ u4 z).size c1)) (.slice a1 (X ++ u4 z).size c1) (X ++ u4 z)) := hd.store hB1 hg ho
  have hbx : RowL w1 P 41 _ := World.rowIs.of_block hd.box (hg.block P hd.box.lt fun e => hd.ne e.symm)
  have q2 := hbx.cell 0 rfl
  have f2 := hbx.frozen 0
  have hSw := (trivial : True)
  clear hB1 hg ho hbx
  generalize (X ++ u4 z).size = nn at hW1 ⊢
  refine hK.out _ _ hSw (fun _ => ?_)
  clear hK K
  try simp only [Act.put, List.setIfInBounds_toArray, List.set_cons_zero, List.set_cons_succ]
  refine take_dst 7 14 (.pointer (some ⟨P, 0, none⟩)) rfl (by kernel_rfl) (by kernel_rfl) (by kernel_rfl) (fun _ _ _ h => h) (Or.inl ⟨by rfl, by intro wv hSv; (try dsimp only at hSv); go_simp⟩) hSw rfl ?_
  try simp only [Act.put, List.setIfInBounds_toArray, List.set_cons_zero, List.set_cons_succ]
  refine take_dst 8 15 (.pointer (some ⟨P, 0, none⟩)) rfl (by kernel_rfl) (by kernel_rfl) (by kernel_rfl) (fun _ _ _ h => h) (Or.inl ⟨by rfl, by intro wv hSv; (try dsimp only at hSv); go_simp⟩) hSw rfl ?_
  try simp only [Act.put, List.setIfInBounds_toArray, List.set_cons_zero, List.set_cons_succ]
  refine wpAnyH_ready (rs := [9]) (by kernel_rfl) (by simp) ?_
  refine AllReadyH.cons rfl (fun K hK => ?_) AllReadyH.nil
  go_simp
  clear q2 f2
  refine hK.out _ _ trivial (fun _ => ?_)
  clear hK K
  try simp only [Act.put, List.setIfInBounds_toArray, List.set_cons_zero, List.set_cons_succ]
  refine wpAnyH_done (by kernel_rfl) ?_ _
  exact bodyPost_end (results_none rfl _ _ _) rfl ⟨_, rfl, hW1.out⟩
end Go.Proofs.YtebjplogpngeaaaGreatDoor

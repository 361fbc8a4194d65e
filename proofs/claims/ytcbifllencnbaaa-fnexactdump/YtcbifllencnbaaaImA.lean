import Derived.Test.YtcbifllencnbaaaSpE
namespace Go.Proofs.Ytcbifllencnbaaa
open Go.RowKit Go.Lib Go.Shelf
set_option linter.unusedVariables false
set_option linter.unusedSimpArgs false
/-- the writer at P, since w0 and v0. -/
structure Wt (P : Nat) (w0 : World) (v0 : Value) (y : World) (v : Value) (X : ByteArray) : Prop where
  box : RowL y P 49 [v]
  buf : Buf y 5 v X
  ne : v.ownBlock ≠ some P
  fr : Fr (fun k => k = P) w0 v0 y v
theorem Wt.later {P : Nat} {w0 y y' : World} {v0 v : Value} {X : ByteArray} (h : Wt P w0 v0 y v X) (hb : Below y.heap.size y y') : Wt P w0 v0 y' v X :=
  ⟨h.box.call hb, h.buf.keep fun k hk => hb.block k (h.buf.lt k hk), h.ne, h.fr.trans (Fr.of_below _ _ hb)⟩
theorem Wt.drew {P : Nat} {w0 y : World} {v0 v : Value} {X : ByteArray} (h : Wt P w0 v0 y v X) : Wt P w0 v0 y.drew v X := h.later (Below.refl _ _).drew
theorem Wt.fresh {P : Nat} {w0 y : World} {v0 v : Value} {X : ByteArray} (h : Wt P w0 v0 y v X) : Wt P y v y v X := ⟨h.box, h.buf, h.ne, Fr.refl _ _ _⟩
theorem Wt.trans {P : Nat} {w0 y z : World} {v0 v u : Value} {X Y : ByteArray} (h : Wt P w0 v0 y v X) (k : Wt P y v z u Y) : Wt P w0 v0 z u Y := ⟨k.box, k.buf, k.ne, h.fr.trans k.fr⟩
/-- what was appended is stored. -/
theorem Wt.store {P : Nat} {w0 y y' : World} {v0 v v' : Value} {X X' : ByteArray} (h : Wt P w0 v0 y v X) (hB : Buf y' 5 v' X') (hg : y.grownBy y' v.ownBlock) (ho : v'.ownBlock = v.ownBlock ∨ v'.ownBlock = some y.heap.size) : Wt P w0 v0 (y'.setCell ⟨P, 0, none⟩ v') v' X' := by
  have hP : P < y.heap.size := h.box.lt
  have hne : v'.ownBlock ≠ some P := by
    rcases ho with e | e
    · rw [e]; exact h.ne
    · rw [e]; intro k; simp only [Option.some.injEq] at k; omega
  have hbx : RowL y' P 49 [v] := World.rowIs.of_block h.box (hg.block P hP fun e => h.ne e.symm)
  have hf : Fr (fun k => k = P) y v y' v' := Fr.of_grown _ hg ho
  refine ⟨hbx.set 0 v', hB.keep fun k hk => Below.heap_setCell _ _ _ _ (by rintro rfl; exact hne hk), hne, h.fr.trans (hf.trans ⟨rfl, rfl, rfl, by simp, fun k hk hp _ => Below.heap_setCell _ _ _ _ hp, .inl rfl⟩)⟩
attribute [local go_sem] Oper.semAt_some
set_option maxRecDepth 100000 in
set_option maxHeartbeats 1000000 in
theorem wFlag_in (P : Nat) (b : Bool) (w0 : World) (v0 : Value) (y : World) (v : Value) (X : ByteArray) (h : Wt P w0 v0 y v X) (hs : X.size + 1 ≤ 70368744177664) :
    Calls Try.prog 31 #[.pointer (some ⟨P, 0, none⟩), .bool b] y fun e w' => (∃ v', e = .returned (.tuple #[]) ∧ Wt P w0 v0 w' v' (X ++ flagB b)) := by
  obtain ⟨a0, c0, rfl⟩ := h.buf.form
  obtain ⟨i0, hi, hz0, hz1, hz2⟩ := info_parts info8
  have q0 := h.box.cell 0 rfl
  have hW : Hid (Wt P w0 v0 y (.slice a0 X.size c0) X) := h
  replace hs : Hid (X.size + 1 ≤ 70368744177664) := hs
  clear h
  cases b with
  | false =>
    have q1 : (y.alloc (.cells #[.int .u8 0] 5)).cell? ⟨P, 0, none⟩ = some (.slice a0 X.size c0) := (hW.out.box.alloc _).cell 0 rfl
    go_enter Try.func31, Try.ntmps31
    go_wp2_with (at_builtin; refine wpList_append_buf_news _ rfl (.tmp 10) (.tmp 12) 36 rfl 5 i0 Try.underlying36 hi hz0 hz1 hz2 _ X rfl (hW.out.buf.keep ?c0) (flagB false) ⟨y.heap.size, 0, none⟩ 1 1 rfl (flagB_size _) (by omega) ?c1 ?c2 ?_)
    case c0 => exact fun k hk => Below.heap_alloc _ _ _ (hW.out.buf.lt k hk)
    case c1 => exact cell_one_new _ _ _
    case c2 => rw [flagB_size]; have := hs.out; omega
    intro v' w1 hB1 hg ho
    obtain ⟨a1, c1, rfl⟩ := hB1.form
    have hWa := hW.out.later (show Below y.heap.size y (y.alloc (.cells #[.int .u8 0] 5)) by go_grown)
    have hW1 : Hid (Wt P w0 v0 (w1.setCell ⟨P, 0, none⟩ (.slice a1 (X ++ flagB false).size c1)) (.slice a1 (X ++ flagB false).size c1) (X ++ flagB false)) := hWa.store hB1 hg (by simpa using ho)
    have hbx : RowL w1 P 49 [.slice a0 X.size c0] := World.rowIs.of_block hWa.box (hg.block P hWa.box.lt fun e => hWa.ne e.symm)
    have q2 := hbx.cell 0 rfl
    have f2 := hbx.frozen 0
    clear hB1 hg ho hi hz0 hz1 hz2 hW hWa hbx q0 q1
    generalize (X ++ flagB false).size = nn at hW1 ⊢
    go_wp2_with fail
    exact bodyPost_end (results_none rfl _ _ _) rfl ⟨_, rfl, hW1.out⟩
  | true =>
    have q1 : (y.alloc (.cells #[.int .u8 1] 5)).cell? ⟨P, 0, none⟩ = some (.slice a0 X.size c0) := (hW.out.box.alloc _).cell 0 rfl
    go_enter Try.func31, Try.ntmps31
    go_wp2_with (at_builtin; refine wpList_append_buf_news _ rfl (.tmp 10) (.tmp 12) 36 rfl 5 i0 Try.underlying36 hi hz0 hz1 hz2 _ X rfl (hW.out.buf.keep ?c0) (flagB true) ⟨y.heap.size, 0, none⟩ 1 1 rfl (flagB_size _) (by omega) ?c1 ?c2 ?_)
    case c0 => exact fun k hk => Below.heap_alloc _ _ _ (hW.out.buf.lt k hk)
    case c1 => exact cell_one_new _ _ _
    case c2 => rw [flagB_size]; have := hs.out; omega
    intro v' w1 hB1 hg ho
    obtain ⟨a1, c1, rfl⟩ := hB1.form
    have hWa := hW.out.later (show Below y.heap.size y (y.alloc (.cells #[.int .u8 1] 5)) by go_grown)
    have hW1 : Hid (Wt P w0 v0 (w1.setCell ⟨P, 0, none⟩ (.slice a1 (X ++ flagB true).size c1)) (.slice a1 (X ++ flagB true).size c1) (X ++ flagB true)) := hWa.store hB1 hg (by simpa using ho)
    have hbx : RowL w1 P 49 [.slice a0 X.size c0] := World.rowIs.of_block hWa.box (hg.block P hWa.box.lt fun e => hWa.ne e.symm)
    have q2 := hbx.cell 0 rfl
    have f2 := hbx.frozen 0
    clear hB1 hg ho hi hz0 hz1 hz2 hW hWa hbx q0 q1
    generalize (X ++ flagB true).size = nn at hW1 ⊢
    go_wp2_with fail
    exact bodyPost_end (results_none rfl _ _ _) rfl ⟨_, rfl, hW1.out⟩
end Go.Proofs.Ytcbifllencnbaaa

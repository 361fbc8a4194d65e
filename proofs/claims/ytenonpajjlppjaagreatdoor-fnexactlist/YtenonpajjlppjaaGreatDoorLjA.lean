import Derived.Test.YtenonpajjlppjaaGreatDoorSpA
import Derived.Test.YtenonpajjlppjaaGreatDoorGA
import Derived.Test.YtenonpajjlppjaaGreatDoorGK
import Derived.Test.YtenonpajjlppjaaGreatDoorTak
import Derived.Deep.Cut
import Derived.Lib.Builder
namespace Go.Proofs.YtenonpajjlppjaaGreatDoor
open Go.RowKit Go.Lib Go.Shelf
set_option linter.unusedVariables false
set_option linter.unusedSimpArgs false
set_option maxRecDepth 100000
set_option maxHeartbeats 1000000
/-- the lister at P, since w0 and v0; U: the cells of its table. -/
structure Lw (P : Nat) (U : List Value) (w0 : World) (v0 : Value) (y : World) (v : Value) (X : ByteArray) : Prop where
  box : ∃ a, (a = .pointer none ∨ a = .pointer (some ⟨P, 0, none⟩)) ∧ RowL y P 54 (a :: v :: U)
  buf : Buf y 5 v X
  ne : v.ownBlock ≠ some P
  fr : Fr (fun k => k = P) w0 v0 y v
theorem Lw.lt {P : Nat} {U : List Value} {w0 y : World} {v0 v : Value} {X : ByteArray} (h : Lw P U w0 v0 y v X) : P < y.heap.size := by
  obtain ⟨a, _, hb⟩ := h.box
  exact World.rowIs.lt hb
theorem Lw.later {P : Nat} {U : List Value} {w0 y y' : World} {v0 v : Value} {X : ByteArray} (h : Lw P U w0 v0 y v X) (hb : Below y.heap.size y y') : Lw P U w0 v0 y' v X := by
  obtain ⟨a, ha, hbx⟩ := h.box
  exact ⟨⟨a, ha, hbx.call hb⟩, h.buf.keep fun k hk => hb.block k (h.buf.lt k hk), h.ne, h.fr.trans (Fr.of_below _ _ hb)⟩
theorem Lw.drew {P : Nat} {U : List Value} {w0 y : World} {v0 v : Value} {X : ByteArray} (h : Lw P U w0 v0 y v X) : Lw P U w0 v0 y.drew v X := h.later (Below.refl _ _).drew
theorem Lw.fresh {P : Nat} {U : List Value} {w0 y : World} {v0 v : Value} {X : ByteArray} (h : Lw P U w0 v0 y v X) : Lw P U y v y v X := ⟨h.box, h.buf, h.ne, Fr.refl _ _ _⟩
theorem Lw.trans {P : Nat} {U : List Value} {w0 y z : World} {v0 v u : Value} {X Y : ByteArray} (h : Lw P U w0 v0 y v X) (k : Lw P U y v z u Y) : Lw P U w0 v0 z u Y := ⟨k.box, k.buf, k.ne, h.fr.trans k.fr⟩
theorem fr_set {P : Nat} {y : World} {v : Value} (k : Nat) (u : Value) : Fr (fun k => k = P) y v (y.setCell ⟨P, k, none⟩ u) v := ⟨rfl, rfl, rfl, by simp, fun k hk hp _ => Below.heap_setCell _ _ _ _ hp, .inl rfl⟩
attribute [local go_sem] Oper.semAt_some
theorem liesB : liesAt Tryz.prog Tryz.prog.depth 54 (642 / Tryz.prog.cellsOf 54) 0 52 1 = true := by kernel_rfl
theorem sizeB : (Tryz.prog.info? 52).map (·.size) = some 2 := by kernel_rfl
theorem RowL.shape {w : World} {b : Nat} {t : TypeId} {L : List Value} (h : RowL w b t L) : w.shape? b = some (t, L.length) := by
  obtain ⟨c, hc, hs, _⟩ := h
  simp [World.shape?, hc, hs]
theorem copyCheck_in (P : Nat) (U : List Value) (hU : U.length = 640) (w0 : World) (v0 : Value) (y : World) (v : Value) (X : ByteArray) (h : Lw P U w0 v0 y v X) :
    Calls Tryz.prog 109 #[.pointer (some ⟨P, 0, none⟩)] y fun e w' => e = .returned (.tuple #[]) ∧ Lw P U w0 v0 w' v X := by
  obtain ⟨j, hj, hjs⟩ := Option.map_eq_some_iff.1 sizeB
  obtain ⟨a, ha, hb⟩ := h.box
  have hsh := hb.shape
  rw [show (a :: v :: U).length = 642 by simp [hU]] at hsh
  rcases ha with rfl | rfl
  · have c0 := hb.cell 0 rfl
    have f0 := hb.frozen 0
    have hl := hb.lt
    have hto := Lib.run_to_unsafe y ⟨P, 0, none⟩ Tryz.underlying50 Tryz.underlying163 hj (by rw [hjs]; decide) hsh (by simp)
    have hfr := Lib.run_from_unsafe y ⟨P, 0, none⟩ Tryz.underlying163 Tryz.underlying50 hj hsh liesB
    have hw : Hid (Lw P U w0 v0 (y.setCell ⟨P, 0, none⟩ (.pointer (some ⟨P, 0, none⟩))) v X) :=
      ⟨⟨_, .inr rfl, hb.set 0 _⟩, h.buf.keep fun k hk => Below.heap_setCell _ _ _ _ (by rintro rfl; exact h.ne hk), h.ne, h.fr.trans (fr_set 0 _)⟩
    clear h hb hsh
    go_enter Tryz.func109, Tryz.ntmps109
    go_wp2_with fail
    rw [run_callFunc_extern Tryz.func118 (by kernel_rfl) (by kernel_rfl) (by kernel_rfl) (e := Extern.AbiNoEscape.same) (by kernel_rfl)]
    rw [Lib.run_noEscape]
    simp only [Result.andThen]
    rw [Oper.upon_value]
    go_wp2_with fail
    go_end0
    exact ⟨rfl, hw.out⟩
  · have c0 := hb.cell 0 rfl
    have hl := hb.lt
    have hnq := Lib.run_neq_ptr_same y ⟨P, 0, none⟩ Tryz.underlying50 hj
    replace h := show Hid (Lw P U w0 v0 y v X) from h
    clear hb hsh
    go_enter Tryz.func109, Tryz.ntmps109
    go_wp2_with fail
    go_end0
    exact ⟨rfl, h.out⟩
theorem writeString_in (P : Nat) (U : List Value) (hU : U.length = 640) (s : ByteArray) (w0 : World) (v0 : Value) (y : World) (v : Value) (X : ByteArray) (h : Lw P U w0 v0 y v X) (hs : X.size + s.size ≤ 140737488355328) :
    Calls Tryz.prog 89 #[.pointer (some ⟨P, 0, none⟩), .string s] y fun e w' => ∃ v', e = .returned (.tuple #[.int .i64 (s.size : Int), .nilIface]) ∧ Lw P U w0 v0 w' v' (X ++ s) := by
  obtain ⟨i0, hi, hz0, hz1, hz2⟩ := info_parts info8
  have hc : Hid _ := copyCheck_in P U hU w0 v0 y v X h
  clear h
  go_enter Tryz.func89, Tryz.ntmps89
  go_wp2_with fail
  refine Calls.mono hc.out ?_
  rintro e y1 ⟨rfl, h1⟩
  clear hc
  obtain ⟨a, ha, hb⟩ := h1.box
  obtain ⟨a0, c0, rfl⟩ := h1.buf.form
  have q1 := hb.cell 1 rfl
  have hl := hb.lt
  replace hb := show Hid (RowL y1 P 54 (a :: .slice a0 X.size c0 :: U)) from hb
  replace h1 := show Hid (Lw P U w0 v0 y1 (.slice a0 X.size c0) X) from h1
  replace ha := show Hid (a = .pointer none ∨ a = .pointer (some ⟨P, 0, none⟩)) from ha
  go_wp2_with (at_builtin; refine wpList_append_buf_str _ rfl (.tmp 12) (.tmp 13) 35 9 rfl 5 i0 Tryz.underlying35 Tryz.underlying9 hi hz0 hz1 hz2 _ X rfl h1.out.buf s rfl hs ?_)
  intro v' w1 hB1 hg ho
  obtain ⟨a1, c1, rfl⟩ := hB1.form
  have hne : (Value.slice a1 (X ++ s).size c1).ownBlock ≠ some P := by
    rcases ho with e | e
    · rw [e]; exact h1.out.ne
    · rw [e]; intro k; simp only [Option.some.injEq] at k; omega
  have hbx : RowL w1 P 54 (a :: .slice a0 X.size c0 :: U) := World.rowIs.of_block hb.out (hg.block P hl fun e => h1.out.ne e.symm)
  have hf : Fr (fun k => k = P) y1 (.slice a0 X.size c0) w1 (.slice a1 (X ++ s).size c1) := Fr.of_grown _ hg ho
  have hW : Hid (Lw P U w0 v0 (w1.setCell ⟨P, 1, none⟩ (.slice a1 (X ++ s).size c1)) (.slice a1 (X ++ s).size c1) (X ++ s)) :=
    ⟨⟨a, ha.out, hbx.set 1 _⟩, hB1.keep fun k hk => Below.heap_setCell _ _ _ _ (by rintro rfl; exact hne hk), hne, h1.out.fr.trans (hf.trans (fr_set 1 _))⟩
  have q2 := hbx.cell 1 rfl
  have f2 := hbx.frozen 1
  have hl2 := hbx.lt
  clear hB1 hg ho hi hz0 hz1 hz2 h1 hbx q1 hb hf hne ha
  generalize (X ++ s).size = nn at hW ⊢
  go_wp2_with fail
  go_ret2
  exact ⟨_, rfl, hW.out⟩
end Go.Proofs.YtenonpajjlppjaaGreatDoor

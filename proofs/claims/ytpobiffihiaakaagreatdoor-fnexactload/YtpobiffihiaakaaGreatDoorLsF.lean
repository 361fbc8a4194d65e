import Derived.Test.YtpobiffihiaakaaGreatDoorGB
import Derived.Test.YtpobiffihiaakaaGreatDoorGA
import Derived.Deep.RegionHeld3
import Derived.Deep.QuietTactic
import Derived.Deep.RegionWith
import Derived.IntWalk
import Derived.Deep.Cut
namespace Go.Proofs.YtpobiffihiaakaaGreatDoor
open Go.RowKit
set_option linter.unusedVariables false
set_option linter.unusedSimpArgs false
set_option maxRecDepth 100000
set_option maxHeartbeats 1000000
/-- G says what GetInt answers at the beginning of a text, the model's and the program's. -/
structure GiOk (G : ByteArray → Int) : Prop where
  sp : ∀ t : ByteArray, t.size ≤ 1048576 → ∃ (q : Int) (b : Bool), ∀ w, Calls Tryz.prog 42 #[.string t, .int .i64 0] w fun e w' => e = .returned (.tuple #[.int .i64 (G t), .int .i64 q, .bool b]) ∧ Below w.heap.size w w'
  im : ∀ t : ByteArray, t.size ≤ 1048576 → ∃ (q : Int) (b : Bool), ∀ w, Calls Tryz.prog 79 #[.string t, .int .i64 0] w fun e w' => e = .returned (.tuple #[.int .i64 (G t), .int .i64 q, .bool b]) ∧ Below w.heap.size w w'
/-- a constant. -/
noncomputable def rdVal (s : ByteArray) (V : Nat → Option (Int × Nat)) (G : ByteArray → Int) (r : RS) : VD × RS :=
  let x := rdByte s 4 r
  if x.1 = 1 ∨ x.1 = 2 then (⟨1, (x.1 : Int) - 1, ByteArray.empty⟩, x.2)
  else if x.1 = 3 then (⟨2, G (rdBytes s 8 x.2).1, ByteArray.empty⟩, (rdBytes s 8 x.2).2)
  else if x.1 = 4 then (⟨3, 0, (rdText s V x.2).1⟩, (rdText s V x.2).2)
  else (⟨0, 0, ByteArray.empty⟩, x.2)
theorem rc_bool (s : ByteArray) (r r1 : RS) (k : Nat) (hk : k = 1 ∨ k = 2) (w : World) (hn : Hid (∀ y, Calls Tryz.prog 16 #[.agg #[.string s, .int .i64 (r.pos : Int), .int .i64 r.bad], .int .i64 4] y fun e w' => e = .returned (.tuple #[.int .i64 (k : Int), .agg #[.string s, .int .i64 (r1.pos : Int), .int .i64 r1.bad]]) ∧ Below y.heap.size y w')) :
    Calls Tryz.prog 19 #[.agg #[.string s, .int .i64 (r.pos : Int), .int .i64 r.bad]] w fun e w' => e = .returned (.tuple #[.agg #[.int .i64 1, .int .i64 ((k : Int) - 1), .string ⟨#[]⟩], .agg #[.string s, .int .i64 (r1.pos : Int), .int .i64 r1.bad]]) ∧ Below w.heap.size w w' := by
  go_enter Tryz.func19, Tryz.ntmps19
  go_wp2_with fail
  have V0 := (RowL.new (w.alloc (.cells #[.string s, .int .i64 (r.pos : Int), .int .i64 r.bad] 31)) [.int .i64 0, .int .i64 0, .string ⟨#[]⟩] 59).alloc (.cells #[.string ⟨#[]⟩, .int .i64 0, .int .i64 0] 31)
  have Q0 := RowL.new ((w.alloc (.cells #[.string s, .int .i64 (r.pos : Int), .int .i64 r.bad] 31)).alloc (.cells #[.int .i64 0, .int .i64 0, .string ⟨#[]⟩] 59)) [.string ⟨#[]⟩, .int .i64 0, .int .i64 0] 31
  rw [World.size_alloc, World.size_alloc] at Q0
  rw [World.size_alloc] at V0
  have bw : Below w.heap.size w (((w.alloc (.cells #[.string s, .int .i64 (r.pos : Int), .int .i64 r.bad] 31)).alloc (.cells #[.int .i64 0, .int .i64 0, .string ⟨#[]⟩] 59)).alloc (.cells #[.string ⟨#[]⟩, .int .i64 0, .int .i64 0] 31)) := (((Below.refl _ _).alloc (Nat.le_refl _) _).alloc (by rw [World.size_alloc]; omega) _).alloc (by rw [World.size_alloc, World.size_alloc]; omega) _
  generalize (((w.alloc (.cells #[.string s, .int .i64 (r.pos : Int), .int .i64 r.bad] 31)).alloc (.cells #[.int .i64 0, .int .i64 0, .string ⟨#[]⟩] 59)).alloc (.cells #[.string ⟨#[]⟩, .int .i64 0, .int .i64 0] 31)) = w2 at V0 Q0 bw ⊢
  refine Calls.mono (hn.out w2) ?_
  rintro e y ⟨rfl, b9⟩
  have b5 : Below y.heap.size y (y.alloc (.cells #[.string s, .int .i64 (r1.pos : Int), .int .i64 r1.bad] 31)) := (Below.refl _ _).alloc (Nat.le_refl _) _
  have R1 := RowL.new y [.string s, .int .i64 (r1.pos : Int), .int .i64 r1.bad] 31
  have hn2 := (Q0.call b9).lt
  have hne1 : ¬ y.heap.size = w.heap.size + 1 := by omega
  have hne2 : ¬ y.heap.size = w.heap.size + 1 + 1 := by omega
  clear hn2
  replace V0 := (V0.call b9).call b5
  replace Q0 := (Q0.call b9).call b5
  replace bw := (bw.trans (b9.mono bw.size)).trans (b5.mono (bw.trans (b9.mono bw.size)).size)
  clear b9 hn b5
  rcases hk with rfl | rfl
  · go_upto_region 3 with fail
    generalize y.alloc (.cells #[.string s, .int .i64 (r1.pos : Int), .int .i64 r1.bad] 31) = y1 at V0 Q0 R1 bw ⊢
    generalize y.heap.size = RB at R1 hne1 hne2 ⊢
    have c0 := R1.cell 0 rfl
    have c1 := R1.cell 1 rfl
    have c2 := R1.cell 2 rfl
    have cl := R1.lt
    have v0 := V0.cell 0 rfl
    have v1 := V0.cell 1 rfl
    have v2 := V0.cell 2 rfl
    have vf := V0.frozen
    have vl := V0.lt
    have e0 := Q0.cell 0 rfl
    have e1 := Q0.cell 1 rfl
    have e2 := Q0.cell 2 rfl
    have ef := Q0.frozen
    have el := Q0.lt
    have L := ((((((V0.set 0 (.int .i64 1)).set 1 (.int .i64 0)).set 2 (.string ⟨#[]⟩)).other (a := ⟨w.heap.size + 1 + 1, 0, none⟩) (by simp) (.string s)).other (a := ⟨w.heap.size + 1 + 1, 1, none⟩) (by simp) (.int .i64 (r1.pos : Int))).other (a := ⟨w.heap.size + 1 + 1, 2, none⟩) (by simp) (.int .i64 r1.bad))
    have M := ((((((Q0.other (a := ⟨w.heap.size + 1, 0, none⟩) (by simp) (.int .i64 1)).other (a := ⟨w.heap.size + 1, 1, none⟩) (by simp) (.int .i64 0)).other (a := ⟨w.heap.size + 1, 2, none⟩) (by simp) (.string ⟨#[]⟩)).set 0 (.string s)).set 1 (.int .i64 (r1.pos : Int))).set 2 (.int .i64 r1.bad))
    have bf := (Below.setCell (Below.setCell (Below.setCell (Below.setCell (Below.setCell (Below.setCell bw (p := ⟨w.heap.size + 1, 0, none⟩) (by simp only []; omega) (.int .i64 1)) (p := ⟨w.heap.size + 1, 1, none⟩) (by simp only []; omega) (.int .i64 0)) (p := ⟨w.heap.size + 1, 2, none⟩) (by simp only []; omega) (.string ⟨#[]⟩)) (p := ⟨w.heap.size + 1 + 1, 0, none⟩) (by simp only []; omega) (.string s)) (p := ⟨w.heap.size + 1 + 1, 1, none⟩) (by simp only []; omega) (.int .i64 (r1.pos : Int))) (p := ⟨w.heap.size + 1 + 1, 2, none⟩) (by simp only []; omega) (.int .i64 r1.bad))
    replace L := L.call (Below.refl _ _).drew
    replace M := M.call (Below.refl _ _).drew
    replace bf := bf.drew
    replace V0 : Hid _ := V0
    replace Q0 : Hid _ := Q0
    replace R1 : Hid _ := R1
    go_region
    generalize ((((((y1.setCell ⟨w.heap.size + 1, 0, none⟩ (.int .i64 1)).setCell ⟨w.heap.size + 1, 1, none⟩ (.int .i64 0)).setCell ⟨w.heap.size + 1, 2, none⟩ (.string ⟨#[]⟩)).setCell ⟨w.heap.size + 1 + 1, 0, none⟩ (.string s)).setCell ⟨w.heap.size + 1 + 1, 1, none⟩ (.int .i64 (r1.pos : Int))).setCell ⟨w.heap.size + 1 + 1, 2, none⟩ (.int .i64 r1.bad)).drew = y9 at L M bf ⊢
    have l0 := L.cell 0 rfl
    have l1 := L.cell 1 rfl
    have l2 := L.cell 2 rfl
    have m0 := M.cell 0 rfl
    have m1 := M.cell 1 rfl
    have m2 := M.cell 2 rfl
    clear c0 c1 c2 cl v0 v1 v2 vf vl e0 e1 e2 ef el
    go_wp2_with fail
    refine bodyPost_ret (v := .tuple #[.agg #[.int .i64 1, .int .i64 0, .string ⟨#[]⟩], .agg #[.string s, .int .i64 (r1.pos : Int), .int .i64 r1.bad]]) ?_ rfl ⟨rfl, bf⟩
    simp [results, Tryz.results19, go_sem, l0, l1, l2, m0, m1, m2]
  · go_upto_region 3 with fail
    generalize y.alloc (.cells #[.string s, .int .i64 (r1.pos : Int), .int .i64 r1.bad] 31) = y1 at V0 Q0 R1 bw ⊢
    generalize y.heap.size = RB at R1 hne1 hne2 ⊢
    have c0 := R1.cell 0 rfl
    have c1 := R1.cell 1 rfl
    have c2 := R1.cell 2 rfl
    have cl := R1.lt
    have v0 := V0.cell 0 rfl
    have v1 := V0.cell 1 rfl
    have v2 := V0.cell 2 rfl
    have vf := V0.frozen
    have vl := V0.lt
    have e0 := Q0.cell 0 rfl
    have e1 := Q0.cell 1 rfl
    have e2 := Q0.cell 2 rfl
    have ef := Q0.frozen
    have el := Q0.lt
    have L := ((((((V0.set 0 (.int .i64 1)).set 1 (.int .i64 1)).set 2 (.string ⟨#[]⟩)).other (a := ⟨w.heap.size + 1 + 1, 0, none⟩) (by simp) (.string s)).other (a := ⟨w.heap.size + 1 + 1, 1, none⟩) (by simp) (.int .i64 (r1.pos : Int))).other (a := ⟨w.heap.size + 1 + 1, 2, none⟩) (by simp) (.int .i64 r1.bad))
    have M := ((((((Q0.other (a := ⟨w.heap.size + 1, 0, none⟩) (by simp) (.int .i64 1)).other (a := ⟨w.heap.size + 1, 1, none⟩) (by simp) (.int .i64 1)).other (a := ⟨w.heap.size + 1, 2, none⟩) (by simp) (.string ⟨#[]⟩)).set 0 (.string s)).set 1 (.int .i64 (r1.pos : Int))).set 2 (.int .i64 r1.bad))
    have bf := (Below.setCell (Below.setCell (Below.setCell (Below.setCell (Below.setCell (Below.setCell bw (p := ⟨w.heap.size + 1, 0, none⟩) (by simp only []; omega) (.int .i64 1)) (p := ⟨w.heap.size + 1, 1, none⟩) (by simp only []; omega) (.int .i64 1)) (p := ⟨w.heap.size + 1, 2, none⟩) (by simp only []; omega) (.string ⟨#[]⟩)) (p := ⟨w.heap.size + 1 + 1, 0, none⟩) (by simp only []; omega) (.string s)) (p := ⟨w.heap.size + 1 + 1, 1, none⟩) (by simp only []; omega) (.int .i64 (r1.pos : Int))) (p := ⟨w.heap.size + 1 + 1, 2, none⟩) (by simp only []; omega) (.int .i64 r1.bad))
    replace L := L.call (Below.refl _ _).drew
    replace M := M.call (Below.refl _ _).drew
    replace bf := bf.drew
    replace V0 : Hid _ := V0
    replace Q0 : Hid _ := Q0
    replace R1 : Hid _ := R1
    go_region
    generalize ((((((y1.setCell ⟨w.heap.size + 1, 0, none⟩ (.int .i64 1)).setCell ⟨w.heap.size + 1, 1, none⟩ (.int .i64 1)).setCell ⟨w.heap.size + 1, 2, none⟩ (.string ⟨#[]⟩)).setCell ⟨w.heap.size + 1 + 1, 0, none⟩ (.string s)).setCell ⟨w.heap.size + 1 + 1, 1, none⟩ (.int .i64 (r1.pos : Int))).setCell ⟨w.heap.size + 1 + 1, 2, none⟩ (.int .i64 r1.bad)).drew = y9 at L M bf ⊢
    have l0 := L.cell 0 rfl
    have l1 := L.cell 1 rfl
    have l2 := L.cell 2 rfl
    have m0 := M.cell 0 rfl
    have m1 := M.cell 1 rfl
    have m2 := M.cell 2 rfl
    clear c0 c1 c2 cl v0 v1 v2 vf vl e0 e1 e2 ef el
    go_wp2_with fail
    refine bodyPost_ret (v := .tuple #[.agg #[.int .i64 1, .int .i64 1, .string ⟨#[]⟩], .agg #[.string s, .int .i64 (r1.pos : Int), .int .i64 r1.bad]]) ?_ rfl ⟨rfl, bf⟩
    simp [results, Tryz.results19, go_sem, l0, l1, l2, m0, m1, m2]
theorem rc_nil (s : ByteArray) (r r1 : RS)  (w : World) (hn : Hid (∀ y, Calls Tryz.prog 16 #[.agg #[.string s, .int .i64 (r.pos : Int), .int .i64 r.bad], .int .i64 4] y fun e w' => e = .returned (.tuple #[.int .i64 0, .agg #[.string s, .int .i64 (r1.pos : Int), .int .i64 r1.bad]]) ∧ Below y.heap.size y w')) :
    Calls Tryz.prog 19 #[.agg #[.string s, .int .i64 (r.pos : Int), .int .i64 r.bad]] w fun e w' => e = .returned (.tuple #[.agg #[.int .i64 0, .int .i64 0, .string ⟨#[]⟩], .agg #[.string s, .int .i64 (r1.pos : Int), .int .i64 r1.bad]]) ∧ Below w.heap.size w w' := by
  go_enter Tryz.func19, Tryz.ntmps19
  go_wp2_with fail
  have V0 := (RowL.new (w.alloc (.cells #[.string s, .int .i64 (r.pos : Int), .int .i64 r.bad] 31)) [.int .i64 0, .int .i64 0, .string ⟨#[]⟩] 59).alloc (.cells #[.string ⟨#[]⟩, .int .i64 0, .int .i64 0] 31)
  have Q0 := RowL.new ((w.alloc (.cells #[.string s, .int .i64 (r.pos : Int), .int .i64 r.bad] 31)).alloc (.cells #[.int .i64 0, .int .i64 0, .string ⟨#[]⟩] 59)) [.string ⟨#[]⟩, .int .i64 0, .int .i64 0] 31
  rw [World.size_alloc, World.size_alloc] at Q0
  rw [World.size_alloc] at V0
  have bw : Below w.heap.size w (((w.alloc (.cells #[.string s, .int .i64 (r.pos : Int), .int .i64 r.bad] 31)).alloc (.cells #[.int .i64 0, .int .i64 0, .string ⟨#[]⟩] 59)).alloc (.cells #[.string ⟨#[]⟩, .int .i64 0, .int .i64 0] 31)) := (((Below.refl _ _).alloc (Nat.le_refl _) _).alloc (by rw [World.size_alloc]; omega) _).alloc (by rw [World.size_alloc, World.size_alloc]; omega) _
  generalize (((w.alloc (.cells #[.string s, .int .i64 (r.pos : Int), .int .i64 r.bad] 31)).alloc (.cells #[.int .i64 0, .int .i64 0, .string ⟨#[]⟩] 59)).alloc (.cells #[.string ⟨#[]⟩, .int .i64 0, .int .i64 0] 31)) = w2 at V0 Q0 bw ⊢
  refine Calls.mono (hn.out w2) ?_
  rintro e y ⟨rfl, b9⟩
  have b5 : Below y.heap.size y (y.alloc (.cells #[.string s, .int .i64 (r1.pos : Int), .int .i64 r1.bad] 31)) := (Below.refl _ _).alloc (Nat.le_refl _) _
  have R1 := RowL.new y [.string s, .int .i64 (r1.pos : Int), .int .i64 r1.bad] 31
  have hn2 := (Q0.call b9).lt
  have hne1 : ¬ y.heap.size = w.heap.size + 1 := by omega
  have hne2 : ¬ y.heap.size = w.heap.size + 1 + 1 := by omega
  clear hn2
  replace V0 := (V0.call b9).call b5
  replace Q0 := (Q0.call b9).call b5
  replace bw := (bw.trans (b9.mono bw.size)).trans (b5.mono (bw.trans (b9.mono bw.size)).size)
  clear b9 hn b5
  go_upto_region 11 with fail
  generalize y.alloc (.cells #[.string s, .int .i64 (r1.pos : Int), .int .i64 r1.bad] 31) = y1 at V0 Q0 R1 bw ⊢
  generalize y.heap.size = RB at R1 hne1 hne2 ⊢
  have c0 := R1.cell 0 rfl
  have c1 := R1.cell 1 rfl
  have c2 := R1.cell 2 rfl
  have cl := R1.lt
  have v0 := V0.cell 0 rfl
  have v1 := V0.cell 1 rfl
  have v2 := V0.cell 2 rfl
  have vf := V0.frozen
  have vl := V0.lt
  have e0 := Q0.cell 0 rfl
  have e1 := Q0.cell 1 rfl
  have e2 := Q0.cell 2 rfl
  have ef := Q0.frozen
  have el := Q0.lt
  have L := ((((((V0.set 0 (.int .i64 0)).set 1 (.int .i64 0)).set 2 (.string ⟨#[]⟩)).other (a := ⟨w.heap.size + 1 + 1, 0, none⟩) (by simp) (.string s)).other (a := ⟨w.heap.size + 1 + 1, 1, none⟩) (by simp) (.int .i64 (r1.pos : Int))).other (a := ⟨w.heap.size + 1 + 1, 2, none⟩) (by simp) (.int .i64 r1.bad))
  have M := ((((((Q0.other (a := ⟨w.heap.size + 1, 0, none⟩) (by simp) (.int .i64 0)).other (a := ⟨w.heap.size + 1, 1, none⟩) (by simp) (.int .i64 0)).other (a := ⟨w.heap.size + 1, 2, none⟩) (by simp) (.string ⟨#[]⟩)).set 0 (.string s)).set 1 (.int .i64 (r1.pos : Int))).set 2 (.int .i64 r1.bad))
  have bf := (Below.setCell (Below.setCell (Below.setCell (Below.setCell (Below.setCell (Below.setCell bw (p := ⟨w.heap.size + 1, 0, none⟩) (by simp only []; omega) (.int .i64 0)) (p := ⟨w.heap.size + 1, 1, none⟩) (by simp only []; omega) (.int .i64 0)) (p := ⟨w.heap.size + 1, 2, none⟩) (by simp only []; omega) (.string ⟨#[]⟩)) (p := ⟨w.heap.size + 1 + 1, 0, none⟩) (by simp only []; omega) (.string s)) (p := ⟨w.heap.size + 1 + 1, 1, none⟩) (by simp only []; omega) (.int .i64 (r1.pos : Int))) (p := ⟨w.heap.size + 1 + 1, 2, none⟩) (by simp only []; omega) (.int .i64 r1.bad))
  replace L := L.call (Below.refl _ _).drew
  replace M := M.call (Below.refl _ _).drew
  replace bf := bf.drew
  replace V0 : Hid _ := V0
  replace Q0 : Hid _ := Q0
  replace R1 : Hid _ := R1
  go_region
  generalize ((((((y1.setCell ⟨w.heap.size + 1, 0, none⟩ (.int .i64 0)).setCell ⟨w.heap.size + 1, 1, none⟩ (.int .i64 0)).setCell ⟨w.heap.size + 1, 2, none⟩ (.string ⟨#[]⟩)).setCell ⟨w.heap.size + 1 + 1, 0, none⟩ (.string s)).setCell ⟨w.heap.size + 1 + 1, 1, none⟩ (.int .i64 (r1.pos : Int))).setCell ⟨w.heap.size + 1 + 1, 2, none⟩ (.int .i64 r1.bad)).drew = y9 at L M bf ⊢
  have l0 := L.cell 0 rfl
  have l1 := L.cell 1 rfl
  have l2 := L.cell 2 rfl
  have m0 := M.cell 0 rfl
  have m1 := M.cell 1 rfl
  have m2 := M.cell 2 rfl
  clear c0 c1 c2 cl v0 v1 v2 vf vl e0 e1 e2 ef el
  go_wp2_with fail
  refine bodyPost_ret (v := .tuple #[.agg #[.int .i64 0, .int .i64 0, .string ⟨#[]⟩], .agg #[.string s, .int .i64 (r1.pos : Int), .int .i64 r1.bad]]) ?_ rfl ⟨rfl, bf⟩
  simp [results, Tryz.results19, go_sem, l0, l1, l2, m0, m1, m2]
theorem rc_text (s : ByteArray) (r r1 : RS) (r2 : RS) (t : ByteArray) (hb : Hid (∀ y, Calls Tryz.prog 43 #[.agg #[.string s, .int .i64 (r1.pos : Int), .int .i64 r1.bad]] y fun e w' => e = .returned (.tuple #[.string t, .agg #[.string s, .int .i64 (r2.pos : Int), .int .i64 r2.bad]]) ∧ Below y.heap.size y w')) (w : World) (hn : Hid (∀ y, Calls Tryz.prog 16 #[.agg #[.string s, .int .i64 (r.pos : Int), .int .i64 r.bad], .int .i64 4] y fun e w' => e = .returned (.tuple #[.int .i64 4, .agg #[.string s, .int .i64 (r1.pos : Int), .int .i64 r1.bad]]) ∧ Below y.heap.size y w')) :
    Calls Tryz.prog 19 #[.agg #[.string s, .int .i64 (r.pos : Int), .int .i64 r.bad]] w fun e w' => e = .returned (.tuple #[.agg #[.int .i64 3, .int .i64 0, .string t], .agg #[.string s, .int .i64 (r2.pos : Int), .int .i64 r2.bad]]) ∧ Below w.heap.size w w' := by
  go_enter Tryz.func19, Tryz.ntmps19
  go_wp2_with fail
  have V0 := (RowL.new (w.alloc (.cells #[.string s, .int .i64 (r.pos : Int), .int .i64 r.bad] 31)) [.int .i64 0, .int .i64 0, .string ⟨#[]⟩] 59).alloc (.cells #[.string ⟨#[]⟩, .int .i64 0, .int .i64 0] 31)
  have Q0 := RowL.new ((w.alloc (.cells #[.string s, .int .i64 (r.pos : Int), .int .i64 r.bad] 31)).alloc (.cells #[.int .i64 0, .int .i64 0, .string ⟨#[]⟩] 59)) [.string ⟨#[]⟩, .int .i64 0, .int .i64 0] 31
  rw [World.size_alloc, World.size_alloc] at Q0
  rw [World.size_alloc] at V0
  have bw : Below w.heap.size w (((w.alloc (.cells #[.string s, .int .i64 (r.pos : Int), .int .i64 r.bad] 31)).alloc (.cells #[.int .i64 0, .int .i64 0, .string ⟨#[]⟩] 59)).alloc (.cells #[.string ⟨#[]⟩, .int .i64 0, .int .i64 0] 31)) := (((Below.refl _ _).alloc (Nat.le_refl _) _).alloc (by rw [World.size_alloc]; omega) _).alloc (by rw [World.size_alloc, World.size_alloc]; omega) _
  generalize (((w.alloc (.cells #[.string s, .int .i64 (r.pos : Int), .int .i64 r.bad] 31)).alloc (.cells #[.int .i64 0, .int .i64 0, .string ⟨#[]⟩] 59)).alloc (.cells #[.string ⟨#[]⟩, .int .i64 0, .int .i64 0] 31)) = w2 at V0 Q0 bw ⊢
  refine Calls.mono (hn.out w2) ?_
  rintro e y ⟨rfl, b9⟩
  have b5 : Below y.heap.size y (y.alloc (.cells #[.string s, .int .i64 (r1.pos : Int), .int .i64 r1.bad] 31)) := (Below.refl _ _).alloc (Nat.le_refl _) _
  have R1 := RowL.new y [.string s, .int .i64 (r1.pos : Int), .int .i64 r1.bad] 31
  have hn2 := (Q0.call b9).lt
  have hne1 : ¬ y.heap.size = w.heap.size + 1 := by omega
  have hne2 : ¬ y.heap.size = w.heap.size + 1 + 1 := by omega
  clear hn2
  replace V0 := (V0.call b9).call b5
  replace Q0 := (Q0.call b9).call b5
  replace bw := (bw.trans (b9.mono bw.size)).trans (b5.mono (bw.trans (b9.mono bw.size)).size)
  clear b9 hn b5
  go_wp2_with fail
  generalize y.alloc (.cells #[.string s, .int .i64 (r1.pos : Int), .int .i64 r1.bad] 31) = y1 at V0 Q0 R1 bw ⊢
  generalize y.heap.size = RB at R1 hne1 hne2 ⊢
  refine Calls.mono (hb.out y1) ?_
  rintro e z ⟨rfl, b9⟩
  have b5 : Below z.heap.size z (z.alloc (.cells #[.string s, .int .i64 (r2.pos : Int), .int .i64 r2.bad] 31)) := (Below.refl _ _).alloc (Nat.le_refl _) _
  have R2 := RowL.new z [.string s, .int .i64 (r2.pos : Int), .int .i64 r2.bad] 31
  have hn2 := (Q0.call b9).lt
  have hne3 : ¬ z.heap.size = w.heap.size + 1 := by omega
  have hne4 : ¬ z.heap.size = w.heap.size + 1 + 1 := by omega
  clear hn2
  replace V0 := (V0.call b9).call b5
  replace Q0 := (Q0.call b9).call b5
  replace bw := (bw.trans (b9.mono bw.size)).trans (b5.mono (bw.trans (b9.mono bw.size)).size)
  clear b9 hb b5 R1 hne1 hne2
  go_upto_region 10 with fail
  generalize z.alloc (.cells #[.string s, .int .i64 (r2.pos : Int), .int .i64 r2.bad] 31) = z1 at V0 Q0 R2 bw ⊢
  generalize z.heap.size = SB at R2 hne3 hne4 ⊢
  have c0 := R2.cell 0 rfl
  have c1 := R2.cell 1 rfl
  have c2 := R2.cell 2 rfl
  have cl := R2.lt
  have v0 := V0.cell 0 rfl
  have v1 := V0.cell 1 rfl
  have v2 := V0.cell 2 rfl
  have vf := V0.frozen
  have vl := V0.lt
  have e0 := Q0.cell 0 rfl
  have e1 := Q0.cell 1 rfl
  have e2 := Q0.cell 2 rfl
  have ef := Q0.frozen
  have el := Q0.lt
  have L := ((((((V0.set 0 (.int .i64 3)).set 1 (.int .i64 0)).set 2 (.string t)).other (a := ⟨w.heap.size + 1 + 1, 0, none⟩) (by simp) (.string s)).other (a := ⟨w.heap.size + 1 + 1, 1, none⟩) (by simp) (.int .i64 (r2.pos : Int))).other (a := ⟨w.heap.size + 1 + 1, 2, none⟩) (by simp) (.int .i64 r2.bad))
  have M := ((((((Q0.other (a := ⟨w.heap.size + 1, 0, none⟩) (by simp) (.int .i64 3)).other (a := ⟨w.heap.size + 1, 1, none⟩) (by simp) (.int .i64 0)).other (a := ⟨w.heap.size + 1, 2, none⟩) (by simp) (.string t)).set 0 (.string s)).set 1 (.int .i64 (r2.pos : Int))).set 2 (.int .i64 r2.bad))
  have bf := (Below.setCell (Below.setCell (Below.setCell (Below.setCell (Below.setCell (Below.setCell bw (p := ⟨w.heap.size + 1, 0, none⟩) (by simp only []; omega) (.int .i64 3)) (p := ⟨w.heap.size + 1, 1, none⟩) (by simp only []; omega) (.int .i64 0)) (p := ⟨w.heap.size + 1, 2, none⟩) (by simp only []; omega) (.string t)) (p := ⟨w.heap.size + 1 + 1, 0, none⟩) (by simp only []; omega) (.string s)) (p := ⟨w.heap.size + 1 + 1, 1, none⟩) (by simp only []; omega) (.int .i64 (r2.pos : Int))) (p := ⟨w.heap.size + 1 + 1, 2, none⟩) (by simp only []; omega) (.int .i64 r2.bad))
  replace L := L.call (Below.refl _ _).drew
  replace M := M.call (Below.refl _ _).drew
  replace bf := bf.drew
  replace V0 : Hid _ := V0
  replace Q0 : Hid _ := Q0
  replace R2 : Hid _ := R2
  go_region
  generalize ((((((z1.setCell ⟨w.heap.size + 1, 0, none⟩ (.int .i64 3)).setCell ⟨w.heap.size + 1, 1, none⟩ (.int .i64 0)).setCell ⟨w.heap.size + 1, 2, none⟩ (.string t)).setCell ⟨w.heap.size + 1 + 1, 0, none⟩ (.string s)).setCell ⟨w.heap.size + 1 + 1, 1, none⟩ (.int .i64 (r2.pos : Int))).setCell ⟨w.heap.size + 1 + 1, 2, none⟩ (.int .i64 r2.bad)).drew = y9 at L M bf ⊢
  have l0 := L.cell 0 rfl
  have l1 := L.cell 1 rfl
  have l2 := L.cell 2 rfl
  have m0 := M.cell 0 rfl
  have m1 := M.cell 1 rfl
  have m2 := M.cell 2 rfl
  clear c0 c1 c2 cl v0 v1 v2 vf vl e0 e1 e2 ef el
  go_wp2_with fail
  refine bodyPost_ret (v := .tuple #[.agg #[.int .i64 3, .int .i64 0, .string t], .agg #[.string s, .int .i64 (r2.pos : Int), .int .i64 r2.bad]]) ?_ rfl ⟨rfl, bf⟩
  simp [results, Tryz.results19, go_sem, l0, l1, l2, m0, m1, m2]
theorem rc_int (s : ByteArray) (r r1 : RS) (r2 : RS) (t : ByteArray) (n q : Int) (bo : Bool) (hb : Hid (∀ y, Calls Tryz.prog 18 #[.agg #[.string s, .int .i64 (r1.pos : Int), .int .i64 r1.bad], .int .i64 8] y fun e w' => e = .returned (.tuple #[.string t, .agg #[.string s, .int .i64 (r2.pos : Int), .int .i64 r2.bad]]) ∧ Below y.heap.size y w')) (hg : Hid (∀ y, Calls Tryz.prog 42 #[.string t, .int .i64 0] y fun e w' => e = .returned (.tuple #[.int .i64 n, .int .i64 q, .bool bo]) ∧ Below y.heap.size y w')) (w : World) (hn : Hid (∀ y, Calls Tryz.prog 16 #[.agg #[.string s, .int .i64 (r.pos : Int), .int .i64 r.bad], .int .i64 4] y fun e w' => e = .returned (.tuple #[.int .i64 3, .agg #[.string s, .int .i64 (r1.pos : Int), .int .i64 r1.bad]]) ∧ Below y.heap.size y w')) :
    Calls Tryz.prog 19 #[.agg #[.string s, .int .i64 (r.pos : Int), .int .i64 r.bad]] w fun e w' => e = .returned (.tuple #[.agg #[.int .i64 2, .int .i64 n, .string ⟨#[]⟩], .agg #[.string s, .int .i64 (r2.pos : Int), .int .i64 r2.bad]]) ∧ Below w.heap.size w w' := by
  go_enter Tryz.func19, Tryz.ntmps19
  go_wp2_with fail
  have V0 := (RowL.new (w.alloc (.cells #[.string s, .int .i64 (r.pos : Int), .int .i64 r.bad] 31)) [.int .i64 0, .int .i64 0, .string ⟨#[]⟩] 59).alloc (.cells #[.string ⟨#[]⟩, .int .i64 0, .int .i64 0] 31)
  have Q0 := RowL.new ((w.alloc (.cells #[.string s, .int .i64 (r.pos : Int), .int .i64 r.bad] 31)).alloc (.cells #[.int .i64 0, .int .i64 0, .string ⟨#[]⟩] 59)) [.string ⟨#[]⟩, .int .i64 0, .int .i64 0] 31
  rw [World.size_alloc, World.size_alloc] at Q0
  rw [World.size_alloc] at V0
  have bw : Below w.heap.size w (((w.alloc (.cells #[.string s, .int .i64 (r.pos : Int), .int .i64 r.bad] 31)).alloc (.cells #[.int .i64 0, .int .i64 0, .string ⟨#[]⟩] 59)).alloc (.cells #[.string ⟨#[]⟩, .int .i64 0, .int .i64 0] 31)) := (((Below.refl _ _).alloc (Nat.le_refl _) _).alloc (by rw [World.size_alloc]; omega) _).alloc (by rw [World.size_alloc, World.size_alloc]; omega) _
  generalize (((w.alloc (.cells #[.string s, .int .i64 (r.pos : Int), .int .i64 r.bad] 31)).alloc (.cells #[.int .i64 0, .int .i64 0, .string ⟨#[]⟩] 59)).alloc (.cells #[.string ⟨#[]⟩, .int .i64 0, .int .i64 0] 31)) = w2 at V0 Q0 bw ⊢
  refine Calls.mono (hn.out w2) ?_
  rintro e y ⟨rfl, b9⟩
  have b5 : Below y.heap.size y (y.alloc (.cells #[.string s, .int .i64 (r1.pos : Int), .int .i64 r1.bad] 31)) := (Below.refl _ _).alloc (Nat.le_refl _) _
  have R1 := RowL.new y [.string s, .int .i64 (r1.pos : Int), .int .i64 r1.bad] 31
  have hn2 := (Q0.call b9).lt
  have hne1 : ¬ y.heap.size = w.heap.size + 1 := by omega
  have hne2 : ¬ y.heap.size = w.heap.size + 1 + 1 := by omega
  clear hn2
  replace V0 := (V0.call b9).call b5
  replace Q0 := (Q0.call b9).call b5
  replace bw := (bw.trans (b9.mono bw.size)).trans (b5.mono (bw.trans (b9.mono bw.size)).size)
  clear b9 hn b5
  go_wp2_with fail
  generalize y.alloc (.cells #[.string s, .int .i64 (r1.pos : Int), .int .i64 r1.bad] 31) = y1 at V0 Q0 R1 bw ⊢
  generalize y.heap.size = RB at R1 hne1 hne2 ⊢
  refine Calls.mono (hb.out y1) ?_
  rintro e z ⟨rfl, b9⟩
  have b5 : Below z.heap.size z (z.alloc (.cells #[.string s, .int .i64 (r2.pos : Int), .int .i64 r2.bad] 31)) := (Below.refl _ _).alloc (Nat.le_refl _) _
  have R2 := RowL.new z [.string s, .int .i64 (r2.pos : Int), .int .i64 r2.bad] 31
  have hn2 := (Q0.call b9).lt
  have hne3 : ¬ z.heap.size = w.heap.size + 1 := by omega
  have hne4 : ¬ z.heap.size = w.heap.size + 1 + 1 := by omega
  clear hn2
  replace V0 := (V0.call b9).call b5
  replace Q0 := (Q0.call b9).call b5
  replace bw := (bw.trans (b9.mono bw.size)).trans (b5.mono (bw.trans (b9.mono bw.size)).size)
  clear b9 hb b5 R1 hne1 hne2
  go_wp2_with fail
  generalize z.alloc (.cells #[.string s, .int .i64 (r2.pos : Int), .int .i64 r2.bad] 31) = z1 at V0 Q0 R2 bw ⊢
  generalize z.heap.size = SB at R2 hne3 hne4 ⊢
  refine Calls.mono (hg.out z1) ?_
  rintro e z2 ⟨rfl, b9⟩
  replace V0 := V0.call b9
  replace Q0 := Q0.call b9
  replace R2 := R2.call b9
  replace bw := bw.trans (b9.mono bw.size)
  clear b9 hg
  go_upto_region 7 with fail
  have c0 := R2.cell 0 rfl
  have c1 := R2.cell 1 rfl
  have c2 := R2.cell 2 rfl
  have cl := R2.lt
  have v0 := V0.cell 0 rfl
  have v1 := V0.cell 1 rfl
  have v2 := V0.cell 2 rfl
  have vf := V0.frozen
  have vl := V0.lt
  have e0 := Q0.cell 0 rfl
  have e1 := Q0.cell 1 rfl
  have e2 := Q0.cell 2 rfl
  have ef := Q0.frozen
  have el := Q0.lt
  have L := ((((((V0.set 0 (.int .i64 2)).set 1 (.int .i64 n)).set 2 (.string ⟨#[]⟩)).other (a := ⟨w.heap.size + 1 + 1, 0, none⟩) (by simp) (.string s)).other (a := ⟨w.heap.size + 1 + 1, 1, none⟩) (by simp) (.int .i64 (r2.pos : Int))).other (a := ⟨w.heap.size + 1 + 1, 2, none⟩) (by simp) (.int .i64 r2.bad))
  have M := ((((((Q0.other (a := ⟨w.heap.size + 1, 0, none⟩) (by simp) (.int .i64 2)).other (a := ⟨w.heap.size + 1, 1, none⟩) (by simp) (.int .i64 n)).other (a := ⟨w.heap.size + 1, 2, none⟩) (by simp) (.string ⟨#[]⟩)).set 0 (.string s)).set 1 (.int .i64 (r2.pos : Int))).set 2 (.int .i64 r2.bad))
  have bf := (Below.setCell (Below.setCell (Below.setCell (Below.setCell (Below.setCell (Below.setCell bw (p := ⟨w.heap.size + 1, 0, none⟩) (by simp only []; omega) (.int .i64 2)) (p := ⟨w.heap.size + 1, 1, none⟩) (by simp only []; omega) (.int .i64 n)) (p := ⟨w.heap.size + 1, 2, none⟩) (by simp only []; omega) (.string ⟨#[]⟩)) (p := ⟨w.heap.size + 1 + 1, 0, none⟩) (by simp only []; omega) (.string s)) (p := ⟨w.heap.size + 1 + 1, 1, none⟩) (by simp only []; omega) (.int .i64 (r2.pos : Int))) (p := ⟨w.heap.size + 1 + 1, 2, none⟩) (by simp only []; omega) (.int .i64 r2.bad))
  replace L := L.call (Below.refl _ _).drew
  replace M := M.call (Below.refl _ _).drew
  replace bf := bf.drew
  replace V0 : Hid _ := V0
  replace Q0 : Hid _ := Q0
  replace R2 : Hid _ := R2
  go_region
  generalize ((((((z2.setCell ⟨w.heap.size + 1, 0, none⟩ (.int .i64 2)).setCell ⟨w.heap.size + 1, 1, none⟩ (.int .i64 n)).setCell ⟨w.heap.size + 1, 2, none⟩ (.string ⟨#[]⟩)).setCell ⟨w.heap.size + 1 + 1, 0, none⟩ (.string s)).setCell ⟨w.heap.size + 1 + 1, 1, none⟩ (.int .i64 (r2.pos : Int))).setCell ⟨w.heap.size + 1 + 1, 2, none⟩ (.int .i64 r2.bad)).drew = y9 at L M bf ⊢
  have l0 := L.cell 0 rfl
  have l1 := L.cell 1 rfl
  have l2 := L.cell 2 rfl
  have m0 := M.cell 0 rfl
  have m1 := M.cell 1 rfl
  have m2 := M.cell 2 rfl
  clear c0 c1 c2 cl v0 v1 v2 vf vl e0 e1 e2 ef el
  go_wp2_with fail
  refine bodyPost_ret (v := .tuple #[.agg #[.int .i64 2, .int .i64 n, .string ⟨#[]⟩], .agg #[.string s, .int .i64 (r2.pos : Int), .int .i64 r2.bad]]) ?_ rfl ⟨rfl, bf⟩
  simp [results, Tryz.results19, go_sem, l0, l1, l2, m0, m1, m2]
theorem l3ReadConst_in (s : ByteArray) (V : Nat → Option (Int × Nat)) (hV : VrOk s V) (G : ByteArray → Int) (hG : GiOk G) (r : RS) (w : World) (hs : s.size ≤ 1048576) (hp : r.pos ≤ s.size) :
    Calls Tryz.prog 19 #[rV s r] w fun e w' => e = .returned (.tuple #[.agg #[.int .i64 (rdVal s V G r).1.kind, .int .i64 (rdVal s V G r).1.num, .string (rdVal s V G r).1.text], rV s (rdVal s V G r).2]) ∧ Below w.heap.size w w' := by
  have hn : Hid (∀ y, Calls Tryz.prog 16 #[rV s r, .int .i64 4] y fun e w' => e = .returned (.tuple #[.int .i64 ((rdByte s 4 r).1 : Int), rV s (rdByte s 4 r).2]) ∧ Below y.heap.size y w') := fun y => l3Byte_in s 4 r y hs hp
  have hp1 := rdByte_pos (hi := 4) hp
  have hb4 := rdByte_bd s 4 r
  unfold rdVal
  dsimp only
  generalize rdByte s 4 r = x at hn hp1 hb4 ⊢
  obtain ⟨k, r1⟩ := x
  dsimp only at hn hp1 hb4 ⊢
  by_cases h12 : k = 1 ∨ k = 2
  · rw [if_pos h12]
    exact rc_bool s r r1 k h12 w hn
  rw [if_neg h12]
  by_cases h3 : k = 3
  · subst h3
    rw [if_pos rfl]
    obtain ⟨q, bo, hg⟩ := hG.sp (rdBytes s 8 r1).1 (Nat.le_trans (rdBytes_size s 8 r1) hs)
    exact rc_int s r r1 (rdBytes s 8 r1).2 (rdBytes s 8 r1).1 (G (rdBytes s 8 r1).1) q bo (fun y => l3Bytes_in s 8 r1 y hs hp1 (by decide)) hg w hn
  rw [if_neg h3]
  by_cases h4 : k = 4
  · subst h4
    rw [if_pos rfl]
    exact rc_text s r r1 (rdText s V r1).2 (rdText s V r1).1 (fun y => l3Text_in s V hV r1 y hs hp1) w hn
  rw [if_neg h4]
  obtain rfl : k = 0 := by omega
  exact rc_nil s r r1 w hn
end Go.Proofs.YtpobiffihiaakaaGreatDoor

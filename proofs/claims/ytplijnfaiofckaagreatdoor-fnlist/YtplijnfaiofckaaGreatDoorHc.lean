import Derived.Test.YtplijnfaiofckaaGreatDoorGm
import Derived.Test.YtplijnfaiofckaaGreatDoorGz
namespace Go.Proofs.YtplijnfaiofckaaGreatDoor
open Go.RowKit
set_option linter.unusedVariables false
set_option linter.unusedSimpArgs false
set_option maxRecDepth 100000
set_option maxHeartbeats 9000000
end Go.Proofs.YtplijnfaiofckaaGreatDoor
namespace Go.Proofs.YtplijnfaiofckaaGreatDoor
open Go.RowKit Go.Shelf
set_option linter.unusedVariables false
set_option linter.unusedSimpArgs false
set_option maxRecDepth 100000
set_option maxHeartbeats 9000000
def qd5 (R : Option VD) (e : Ending) : Prop := (∃ d, R = some d ∧ e = .returned (.tuple #[.agg #[.int .i64 d.kind, .int .i64 d.num, .string d.text], .bool true])) ∨ (R = none ∧ ∃ d : VD, e = .returned (.tuple #[.agg #[.int .i64 d.kind, .int .i64 d.num, .string d.text], .bool false]))
theorem namedIn_in (p : ByteArray) (w : World) : Calls Tryz.prog 117 #[.string p] w fun e w' => qd5 (constP [p]) e ∧ Below w.heap.size w w' := by
 obtain ⟨w2, hw2⟩ : ∃ w2, (w.alloc (.cells #[.int .i64 0, .int .i64 0, .string ⟨#[]⟩] 96)).alloc (.cells #[.int .i64 0, .int .i64 0, .string ⟨#[]⟩, .int .i64 1, .int .i64 0, .string ⟨#[]⟩, .int .i64 1, .int .i64 1, .string ⟨#[]⟩] 96) = w2 := ⟨_, rfl⟩;have RB : RowL w2 w.heap.size 96 [.int .i64 0, .int .i64 0, .string ⟨#[]⟩] := by rw [← hw2]; exact (RowL.new w _ _).alloc _
 have RV : RowL w2 (w.heap.size + 1) 96 [.int .i64 0, .int .i64 0, .string ⟨#[]⟩, .int .i64 1, .int .i64 0, .string ⟨#[]⟩, .int .i64 1, .int .i64 1, .string ⟨#[]⟩] := by
  rw [← hw2];have := RowL.new (w.alloc (.cells #[.int .i64 0, .int .i64 0, .string ⟨#[]⟩] 96)) [.int .i64 0, .int .i64 0, .string ⟨#[]⟩, .int .i64 1, .int .i64 0, .string ⟨#[]⟩, .int .i64 1, .int .i64 1, .string ⟨#[]⟩] 96
  rwa [World.size_alloc] at this
 have bw : Below w.heap.size w w2 := by rw [← hw2]; exact ((Below.refl _ _).alloc (Nat.le_refl _) _).alloc (by rw [World.size_alloc]; omega) _
 have hR1 := hidR (constP1 p);generalize constP [p] = R at hR1 ⊢;replace hw2 := hidR hw2;have hrel0 : Hid (Below w2.heap.size w2 w2 ∧ (0 < 0 → p ≠ nilB) ∧ (1 < 0 → p ≠ falseB) ∧ (2 < 0 → p ≠ trueB)) := ⟨Below.refl _ _, by omega, by omega, by omega⟩;replace RB := hidR RB;replace RV := hidR RV;go_enter Tryz.func117, Tryz.ntmps117;go_wp2_with fail;rw [hw2.out];go_loopw [5, 11] (fun _ iv wr => ∃ k : Nat, iv = .int .i64 (k : Int) ∧ k ≤ 3 ∧ Hid (Below w2.heap.size w2 wr ∧ (0 < k → p ≠ nilB) ∧ (1 < k → p ≠ falseB) ∧ (2 < k → p ≠ trueB))) (fun _ iv _ => 3 - (intOf iv).toNat);case atStart => exact ⟨0, rfl, by omega, hrel0.out⟩
 case round =>
  obtain ⟨k, rfl, hk, hq⟩ := hrel;obtain ⟨wz, hwz⟩ : ∃ x, x = wr := ⟨_, rfl⟩;subst hwz;clear hrel0 hw2;have RBz := RB.out.call hq.out.1;have RVz := RV.out.call hq.out.1;have bz := bw.trans (hq.out.1.mono bw.size);have hz1 := RBz.lt;have hz2 := RVz.lt;obtain rfl | rfl | rfl | rfl : k = 0 ∨ k = 1 ∨ k = 2 ∨ k = 3 := by omega
  ·have d0 := RVz.cell 0 rfl;have d1 := RVz.cell 1 rfl;have d2 := RVz.cell 2 rfl;obtain ⟨y0, hy0⟩ : ∃ y0, wz.alloc (.cells #[.int .i64 0, .int .i64 0, .string ⟨#[]⟩] 96) = y0 := ⟨_, rfl⟩;have RU : RowL y0 wz.heap.size 96 [.int .i64 0, .int .i64 0, .string ⟨#[]⟩] := by rw [← hy0]; exact RowL.new wz _ _
   have by0 : Below wz.heap.size wz y0 := by rw [← hy0]; exact (Below.refl _ _).alloc (Nat.le_refl _) _
   have hsh := hidR (implShow_nil y0);unfold vdV at hsh;replace hy0 := hidR hy0;by_cases he : p = nilB
   ·have hE : Hid (qd5 R (.returned (.tuple #[.agg #[.int .i64 0, .int .i64 0, .string ⟨#[]⟩], .bool true]))) := .inl ⟨⟨0, 0, ⟨#[]⟩⟩, by rw [hR1.out, if_pos he], rfl⟩
    have hbe : ([110, 105, 108] == p.toList) = true := by
     have := str_eq nilB p;rw [decide_eq_true he.symm, ByteArray.toList_eq nilB] at this;exact this
    have RBy := RBz.call by0;clear hq he;go_wp2_with fail;rw [hy0.out];refine Calls.mono hsh.out ?_;rintro e y1 ⟨rfl, b1⟩;replace RU := RU.call b1;replace RBy := RBy.call b1;have bf := bz.trans ((by0.trans (b1.mono by0.size)).mono bz.size);have x0 := RU.cell 0 rfl;have x1 := RU.cell 1 rfl;have x2 := RU.cell 2 rfl;have xl := RU.lt;have e0 := RBy.cell 0 rfl;have e1 := RBy.cell 1 rfl;have e2 := RBy.cell 2 rfl;have ef := RBy.frozen;have el := RBy.lt;have L := ((RBy.set 0 (.int .i64 0)).set 1 (.int .i64 0)).set 2 (.string ⟨#[]⟩);have l0 := L.cell 0 rfl;have l1 := L.cell 1 rfl;have l2 := L.cell 2 rfl;have bg := Below.setCell (Below.setCell (Below.setCell bf (p := ⟨w.heap.size, 0, none⟩) (Nat.le_refl _) (.int .i64 0)) (p := ⟨w.heap.size, 1, none⟩) (Nat.le_refl _) (.int .i64 0)) (p := ⟨w.heap.size, 2, none⟩) (Nat.le_refl _) (.string ⟨#[]⟩);replace L := hidR L;clear hsh b1;replace RBy := hidR RBy;replace RU := hidR RU;go_wp2_with fail;exact bodyPost_ret (v := .tuple #[.agg #[.int .i64 0, .int .i64 0, .string ⟨#[]⟩], .bool true]) (by simp [results, Tryz.results117, go_sem, l0, l1, l2]) rfl ⟨hE.out, bg⟩
   ·have hbe : ([110, 105, 108] == p.toList) = false := by
     have := str_eq nilB p;rw [decide_eq_false (fun h => he h.symm), ByteArray.toList_eq nilB] at this;exact this
    go_wp2_with fail;rw [hy0.out];refine Calls.mono hsh.out ?_;rintro e y1 ⟨rfl, b1⟩
    have hnx : Hid (Below w2.heap.size w2 y1 ∧ (0 < 1 → p ≠ nilB) ∧ (1 < 1 → p ≠ falseB) ∧ (2 < 1 → p ≠ trueB)) := by
     have bb := by0.trans (b1.mono by0.size);refine ⟨hq.out.1.trans (bb.mono hq.out.1.size), ?_, ?_, ?_⟩
     ·exact fun _ => he
     ·exact fun h => absurd h (by omega)
     ·exact fun h => absurd h (by omega)
    clear hsh b1 hq he;go_wp2_with fail;go_roundw;case rel => exact ⟨1, by go_num, by omega, hnx.out⟩
    case measure => simp only [intOf]; omega
  ·have d0 := RVz.cell 3 rfl;have d1 := RVz.cell 4 rfl;have d2 := RVz.cell 5 rfl;obtain ⟨y0, hy0⟩ : ∃ y0, wz.alloc (.cells #[.int .i64 1, .int .i64 0, .string ⟨#[]⟩] 96) = y0 := ⟨_, rfl⟩;have RU : RowL y0 wz.heap.size 96 [.int .i64 1, .int .i64 0, .string ⟨#[]⟩] := by rw [← hy0]; exact RowL.new wz _ _
   have by0 : Below wz.heap.size wz y0 := by rw [← hy0]; exact (Below.refl _ _).alloc (Nat.le_refl _) _
   have hsh := hidR (implShow_false y0);unfold vdV at hsh;replace hy0 := hidR hy0;by_cases he : p = falseB
   ·have hE : Hid (qd5 R (.returned (.tuple #[.agg #[.int .i64 1, .int .i64 0, .string ⟨#[]⟩], .bool true]))) := .inl ⟨⟨1, 0, ⟨#[]⟩⟩, by rw [hR1.out, if_neg (fun h => hq.out.2.1 (by omega) h), if_neg (fun h => by rw [he] at h; exact dd.2.2.1 h.symm), if_pos he], rfl⟩
    have hbe : ([102, 97, 108, 115, 101] == p.toList) = true := by
     have := str_eq falseB p;rw [decide_eq_true he.symm, ByteArray.toList_eq falseB] at this;exact this
    have RBy := RBz.call by0;clear hq he;go_wp2_with fail;rw [hy0.out];refine Calls.mono hsh.out ?_;rintro e y1 ⟨rfl, b1⟩;replace RU := RU.call b1;replace RBy := RBy.call b1;have bf := bz.trans ((by0.trans (b1.mono by0.size)).mono bz.size);have x0 := RU.cell 0 rfl;have x1 := RU.cell 1 rfl;have x2 := RU.cell 2 rfl;have xl := RU.lt;have e0 := RBy.cell 0 rfl;have e1 := RBy.cell 1 rfl;have e2 := RBy.cell 2 rfl;have ef := RBy.frozen;have el := RBy.lt;have L := ((RBy.set 0 (.int .i64 1)).set 1 (.int .i64 0)).set 2 (.string ⟨#[]⟩);have l0 := L.cell 0 rfl;have l1 := L.cell 1 rfl;have l2 := L.cell 2 rfl;have bg := Below.setCell (Below.setCell (Below.setCell bf (p := ⟨w.heap.size, 0, none⟩) (Nat.le_refl _) (.int .i64 1)) (p := ⟨w.heap.size, 1, none⟩) (Nat.le_refl _) (.int .i64 0)) (p := ⟨w.heap.size, 2, none⟩) (Nat.le_refl _) (.string ⟨#[]⟩);replace L := hidR L;clear hsh b1;replace RBy := hidR RBy;replace RU := hidR RU;go_wp2_with fail;exact bodyPost_ret (v := .tuple #[.agg #[.int .i64 1, .int .i64 0, .string ⟨#[]⟩], .bool true]) (by simp [results, Tryz.results117, go_sem, l0, l1, l2]) rfl ⟨hE.out, bg⟩
   ·have hbe : ([102, 97, 108, 115, 101] == p.toList) = false := by
     have := str_eq falseB p;rw [decide_eq_false (fun h => he h.symm), ByteArray.toList_eq falseB] at this;exact this
    go_wp2_with fail;rw [hy0.out];refine Calls.mono hsh.out ?_;rintro e y1 ⟨rfl, b1⟩
    have hnx : Hid (Below w2.heap.size w2 y1 ∧ (0 < 2 → p ≠ nilB) ∧ (1 < 2 → p ≠ falseB) ∧ (2 < 2 → p ≠ trueB)) := by
     have bb := by0.trans (b1.mono by0.size);refine ⟨hq.out.1.trans (bb.mono hq.out.1.size), ?_, ?_, ?_⟩
     ·exact fun _ => hq.out.2.1 (by omega)
     ·exact fun _ => he
     ·exact fun h => absurd h (by omega)
    clear hsh b1 hq he;go_wp2_with fail;go_roundw;case rel => exact ⟨2, by go_num, by omega, hnx.out⟩
    case measure => simp only [intOf]; omega
  ·have d0 := RVz.cell 6 rfl;have d1 := RVz.cell 7 rfl;have d2 := RVz.cell 8 rfl;obtain ⟨y0, hy0⟩ : ∃ y0, wz.alloc (.cells #[.int .i64 1, .int .i64 1, .string ⟨#[]⟩] 96) = y0 := ⟨_, rfl⟩;have RU : RowL y0 wz.heap.size 96 [.int .i64 1, .int .i64 1, .string ⟨#[]⟩] := by rw [← hy0]; exact RowL.new wz _ _
   have by0 : Below wz.heap.size wz y0 := by rw [← hy0]; exact (Below.refl _ _).alloc (Nat.le_refl _) _
   have hsh := hidR (implShow_true y0);unfold vdV at hsh;replace hy0 := hidR hy0;by_cases he : p = trueB
   ·have hE : Hid (qd5 R (.returned (.tuple #[.agg #[.int .i64 1, .int .i64 1, .string ⟨#[]⟩], .bool true]))) := .inl ⟨⟨1, 1, ⟨#[]⟩⟩, by rw [hR1.out, if_neg (fun h => hq.out.2.1 (by omega) h), if_pos he], rfl⟩
    have hbe : ([116, 114, 117, 101] == p.toList) = true := by
     have := str_eq trueB p;rw [decide_eq_true he.symm, ByteArray.toList_eq trueB] at this;exact this
    have RBy := RBz.call by0;clear hq he;go_wp2_with fail;rw [hy0.out];refine Calls.mono hsh.out ?_;rintro e y1 ⟨rfl, b1⟩;replace RU := RU.call b1;replace RBy := RBy.call b1;have bf := bz.trans ((by0.trans (b1.mono by0.size)).mono bz.size);have x0 := RU.cell 0 rfl;have x1 := RU.cell 1 rfl;have x2 := RU.cell 2 rfl;have xl := RU.lt;have e0 := RBy.cell 0 rfl;have e1 := RBy.cell 1 rfl;have e2 := RBy.cell 2 rfl;have ef := RBy.frozen;have el := RBy.lt;have L := ((RBy.set 0 (.int .i64 1)).set 1 (.int .i64 1)).set 2 (.string ⟨#[]⟩);have l0 := L.cell 0 rfl;have l1 := L.cell 1 rfl;have l2 := L.cell 2 rfl;have bg := Below.setCell (Below.setCell (Below.setCell bf (p := ⟨w.heap.size, 0, none⟩) (Nat.le_refl _) (.int .i64 1)) (p := ⟨w.heap.size, 1, none⟩) (Nat.le_refl _) (.int .i64 1)) (p := ⟨w.heap.size, 2, none⟩) (Nat.le_refl _) (.string ⟨#[]⟩);replace L := hidR L;clear hsh b1;replace RBy := hidR RBy;replace RU := hidR RU;go_wp2_with fail;exact bodyPost_ret (v := .tuple #[.agg #[.int .i64 1, .int .i64 1, .string ⟨#[]⟩], .bool true]) (by simp [results, Tryz.results117, go_sem, l0, l1, l2]) rfl ⟨hE.out, bg⟩
   ·have hbe : ([116, 114, 117, 101] == p.toList) = false := by
     have := str_eq trueB p;rw [decide_eq_false (fun h => he h.symm), ByteArray.toList_eq trueB] at this;exact this
    go_wp2_with fail;rw [hy0.out];refine Calls.mono hsh.out ?_;rintro e y1 ⟨rfl, b1⟩
    have hnx : Hid (Below w2.heap.size w2 y1 ∧ (0 < 3 → p ≠ nilB) ∧ (1 < 3 → p ≠ falseB) ∧ (2 < 3 → p ≠ trueB)) := by
     have bb := by0.trans (b1.mono by0.size);refine ⟨hq.out.1.trans (bb.mono hq.out.1.size), ?_, ?_, ?_⟩
     ·exact fun _ => hq.out.2.1 (by omega)
     ·exact fun _ => hq.out.2.2.1 (by omega)
     ·exact fun _ => he
    clear hsh b1 hq he;go_wp2_with fail;go_roundw;case rel => exact ⟨3, by go_num, by omega, hnx.out⟩
    case measure => simp only [intOf]; omega
  ·have hE : Hid (qd5 R (.returned (.tuple #[.agg #[.int .i64 0, .int .i64 0, .string ⟨#[]⟩], .bool false]))) := .inr ⟨by rw [hR1.out, if_neg (hq.out.2.1 (by omega)), if_neg (hq.out.2.2.2 (by omega)), if_neg (hq.out.2.2.1 (by omega))], ⟨0, 0, ⟨#[]⟩⟩, rfl⟩;have e0 := RBz.cell 0 rfl;have e1 := RBz.cell 1 rfl;have e2 := RBz.cell 2 rfl;have ef := RBz.frozen;have L := ((RBz.set 0 (.int .i64 0)).set 1 (.int .i64 0)).set 2 (.string ⟨#[]⟩);have l0 := L.cell 0 rfl;have l1 := L.cell 1 rfl;have l2 := L.cell 2 rfl;have bg := Below.setCell (Below.setCell (Below.setCell bz (p := ⟨w.heap.size, 0, none⟩) (Nat.le_refl _) (.int .i64 0)) (p := ⟨w.heap.size, 1, none⟩) (Nat.le_refl _) (.int .i64 0)) (p := ⟨w.heap.size, 2, none⟩) (Nat.le_refl _) (.string ⟨#[]⟩);replace L := hidR L;replace RBz := hidR RBz;clear hq RVz;go_wp2_with fail;exact bodyPost_ret (v := .tuple #[.agg #[.int .i64 0, .int .i64 0, .string ⟨#[]⟩], .bool false]) (by simp [results, Tryz.results117, go_sem, l0, l1, l2]) rfl ⟨hE.out, bg⟩
theorem constIn_one (p : ByteArray) (g o c : Nat) (w : World) (c0 : w.cell? ⟨g, o, none⟩ = some (.string p)) (hg : g < w.heap.size) :
  Calls Tryz.prog 67 #[.slice (some ⟨g, o, none⟩) 1 c] w fun e w' => qd5 (constP [p]) e ∧ Below w.heap.size w w' := by
 obtain ⟨w2, hw2⟩ : ∃ w2, w.alloc (.cells #[.int .i64 0, .int .i64 0, .string ⟨#[]⟩] 96) = w2 := ⟨_, rfl⟩;have RB : RowL w2 w.heap.size 96 [.int .i64 0, .int .i64 0, .string ⟨#[]⟩] := by rw [← hw2]; exact RowL.new w _ _
 have bw : Below w.heap.size w w2 := by rw [← hw2]; exact (Below.refl _ _).alloc (Nat.le_refl _) _
 have d0 := (bw.cell (p := ⟨g, o, none⟩) hg).trans c0;have hg2 : g < w2.heap.size := Nat.lt_of_lt_of_le hg bw.size;have hcall := hidR (namedIn_in p w2);generalize constP [p] = R at hcall ⊢;replace hw2 := hidR hw2;clear c0;go_enter Tryz.func67, Tryz.ntmps67;go_upto_region 1 with fail;rw [hw2.out];go_wp2_with fail;refine Calls.mono hcall.out ?_;rintro e y ⟨hE, b1⟩;clear hcall hw2;have RBy := RB.call b1;have bz := bw.trans (b1.mono bw.size);have e0 := RBy.cell 0 rfl;have e1 := RBy.cell 1 rfl;have e2 := RBy.cell 2 rfl;have ef := RBy.frozen;have el := RBy.lt
 obtain ⟨d, bo, rfl, hEn⟩ : ∃ (d : VD) (bo : Bool), e = .returned (.tuple #[.agg #[.int .i64 d.kind, .int .i64 d.num, .string d.text], .bool bo]) ∧ Hid (qd5 R (.returned (.tuple #[.agg #[.int .i64 d.kind, .int .i64 d.num, .string d.text], .bool bo]))) := by
  rcases id hE with ⟨d, _, he⟩ | ⟨_, d, he⟩
  ·exact ⟨d, true, he, by rw [← he]; exact hE⟩
  ·exact ⟨d, false, he, by rw [← he]; exact hE⟩
 have L := ((RBy.set 0 (.int .i64 d.kind)).set 1 (.int .i64 d.num)).set 2 (.string d.text);have l0 := L.cell 0 rfl;have l1 := L.cell 1 rfl;have l2 := L.cell 2 rfl;have bg := Below.setCell (Below.setCell (Below.setCell bz (p := ⟨w.heap.size, 0, none⟩) (Nat.le_refl _) (.int .i64 d.kind)) (p := ⟨w.heap.size, 1, none⟩) (Nat.le_refl _) (.int .i64 d.num)) (p := ⟨w.heap.size, 2, none⟩) (Nat.le_refl _) (.string d.text);replace L := hidR L;replace RBy := hidR RBy;clear hE RB b1;go_wp2_with fail;exact bodyPost_ret (v := .tuple #[.agg #[.int .i64 d.kind, .int .i64 d.num, .string d.text], .bool bo]) (by simp [results, Tryz.results67, go_sem, l0, l1, l2]) rfl ⟨hEn.out, bg⟩
theorem constIn_int (p2 : ByteArray) (g o c : Nat) (w : World) (c0 : w.cell? ⟨g, o, none⟩ = some (.string intB)) (c1 : w.cell? ⟨g, o + 1, none⟩ = some (.string p2)) (hg : g < w.heap.size) (z2 : p2.size ≤ 100000) (hv : Env w) :
  Calls Tryz.prog 67 #[.slice (some ⟨g, o, none⟩) 2 c] w fun e w' => qd5 (constP [intB, p2]) e ∧ Below w.heap.size w w' := by
 obtain ⟨w2, hw2⟩ : ∃ w2, w.alloc (.cells #[.int .i64 0, .int .i64 0, .string ⟨#[]⟩] 96) = w2 := ⟨_, rfl⟩;have RB : RowL w2 w.heap.size 96 [.int .i64 0, .int .i64 0, .string ⟨#[]⟩] := by rw [← hw2]; exact RowL.new w _ _
 have bw : Below w.heap.size w w2 := by rw [← hw2]; exact (Below.refl _ _).alloc (Nat.le_refl _) _
 have d0 : w2.cell? ⟨g, o, none⟩ = some (.string ⟨#[105, 110, 116]⟩) := (bw.cell (p := ⟨g, o, none⟩) hg).trans c0;have d1 := (bw.cell (p := ⟨g, o + 1, none⟩) hg).trans c1;have hg2 : g < w2.heap.size := Nat.lt_of_lt_of_le hg bw.size;have hcall := hidR (decimalIn_in p2 z2 w2 (qa2 hv.pow bw) (hv.err.below bw));have hcp : Hid (constP [intB, p2] = (decOf p2).map (fun n => ⟨2, n, ⟨#[]⟩⟩)) := by show constP _ = _; rw [constP2, if_pos rfl]
 generalize constP [intB, p2] = R at hcp ⊢;replace hw2 := hidR hw2;clear c0 c1 hv;go_enter Tryz.func67, Tryz.ntmps67;go_upto_region 1 with fail;rw [hw2.out];go_wp2_with fail;refine Calls.mono hcall.out ?_;rintro e y ⟨hE, b1⟩;clear hcall hw2;have RBy := RB.call b1;have bz := bw.trans (b1.mono bw.size);have e0 := RBy.cell 0 rfl;have e1 := RBy.cell 1 rfl;have e2 := RBy.cell 2 rfl;have ef := RBy.frozen;have el := RBy.lt
 obtain ⟨x, bo, rfl, hEn⟩ : ∃ (x : Int) (bo : Bool), e = .returned (.tuple #[.int .i64 x, .bool bo]) ∧ Hid (qd5 R (.returned (.tuple #[.agg #[.int .i64 2, .int .i64 x, .string ⟨#[]⟩], .bool bo]))) := by
  rcases hE with ⟨n, hd, he⟩ | ⟨hd, he⟩
  ·exact ⟨n, true, he, .inl ⟨⟨2, n, ⟨#[]⟩⟩, by rw [hcp.out, hd]; rfl, rfl⟩⟩
  ·exact ⟨0, false, he, .inr ⟨by rw [hcp.out, hd]; rfl, ⟨2, 0, ⟨#[]⟩⟩, rfl⟩⟩
 have L := ((RBy.set 0 (.int .i64 2)).set 1 (.int .i64 x)).set 2 (.string ⟨#[]⟩);have l0 := L.cell 0 rfl;have l1 := L.cell 1 rfl;have l2 := L.cell 2 rfl;have bg := Below.setCell (Below.setCell (Below.setCell bz (p := ⟨w.heap.size, 0, none⟩) (Nat.le_refl _) (.int .i64 2)) (p := ⟨w.heap.size, 1, none⟩) (Nat.le_refl _) (.int .i64 x)) (p := ⟨w.heap.size, 2, none⟩) (Nat.le_refl _) (.string ⟨#[]⟩);replace L := hidR L;replace RBy := hidR RBy;clear hE RB b1 hcp;go_wp2_with fail;exact bodyPost_ret (v := .tuple #[.agg #[.int .i64 2, .int .i64 x, .string ⟨#[]⟩], .bool bo]) (by simp [results, Tryz.results67, go_sem, l0, l1, l2]) rfl ⟨hEn.out, bg⟩
theorem constIn_text (p2 : ByteArray) (g o c : Nat) (w : World) (c0 : w.cell? ⟨g, o, none⟩ = some (.string textB)) (c1 : w.cell? ⟨g, o + 1, none⟩ = some (.string p2)) (hg : g < w.heap.size) (z2 : p2.size ≤ 100000) (hv : Env w) :
  Calls Tryz.prog 67 #[.slice (some ⟨g, o, none⟩) 2 c] w fun e w' => qd5 (constP [textB, p2]) e ∧ Below w.heap.size w w' := by
 obtain ⟨w2, hw2⟩ : ∃ w2, w.alloc (.cells #[.int .i64 0, .int .i64 0, .string ⟨#[]⟩] 96) = w2 := ⟨_, rfl⟩;have RB : RowL w2 w.heap.size 96 [.int .i64 0, .int .i64 0, .string ⟨#[]⟩] := by rw [← hw2]; exact RowL.new w _ _
 have bw : Below w.heap.size w w2 := by rw [← hw2]; exact (Below.refl _ _).alloc (Nat.le_refl _) _
 have d0 : w2.cell? ⟨g, o, none⟩ = some (.string ⟨#[116, 101, 120, 116]⟩) := (bw.cell (p := ⟨g, o, none⟩) hg).trans c0;have d1 := (bw.cell (p := ⟨g, o + 1, none⟩) hg).trans c1;have hg2 : g < w2.heap.size := Nat.lt_of_lt_of_le hg bw.size;have hcall := hidR (textIn_in p2 z2 w2);have hcp : Hid (constP [textB, p2] = (qd1 p2).map (fun t => ⟨3, 0, t⟩)) := by show constP _ = _; rw [constP2, if_neg (fun h => dd.2.2.2 h.symm), if_pos rfl]
 generalize constP [textB, p2] = R at hcp ⊢;replace hw2 := hidR hw2;clear c0 c1 hv;go_enter Tryz.func67, Tryz.ntmps67;go_upto_region 1 with fail;rw [hw2.out];go_wp2_with fail;refine Calls.mono hcall.out ?_;rintro e y ⟨hE, b1⟩;clear hcall hw2;have RBy := RB.call b1;have bz := bw.trans (b1.mono bw.size);have e0 := RBy.cell 0 rfl;have e1 := RBy.cell 1 rfl;have e2 := RBy.cell 2 rfl;have ef := RBy.frozen;have el := RBy.lt
 obtain ⟨x, bo, rfl, hEn⟩ : ∃ (x : ByteArray) (bo : Bool), e = .returned (.tuple #[.string x, .bool bo]) ∧ Hid (qd5 R (.returned (.tuple #[.agg #[.int .i64 3, .int .i64 0, .string x], .bool bo]))) := by
  obtain ⟨t, b, he, ht, hf⟩ := hE;refine ⟨t, b, he, ?_⟩
  cases b with
  | true => exact .inl ⟨⟨3, 0, t⟩, by rw [hcp.out, ht rfl]; rfl, rfl⟩
  | false => exact .inr ⟨by rw [hcp.out, hf rfl]; rfl, ⟨3, 0, t⟩, rfl⟩
 have L := ((RBy.set 0 (.int .i64 3)).set 1 (.int .i64 0)).set 2 (.string x);have l0 := L.cell 0 rfl;have l1 := L.cell 1 rfl;have l2 := L.cell 2 rfl;have bg := Below.setCell (Below.setCell (Below.setCell bz (p := ⟨w.heap.size, 0, none⟩) (Nat.le_refl _) (.int .i64 3)) (p := ⟨w.heap.size, 1, none⟩) (Nat.le_refl _) (.int .i64 0)) (p := ⟨w.heap.size, 2, none⟩) (Nat.le_refl _) (.string x);replace L := hidR L;replace RBy := hidR RBy;clear hE RB b1 hcp;go_wp2_with fail;exact bodyPost_ret (v := .tuple #[.agg #[.int .i64 3, .int .i64 0, .string x], .bool bo]) (by simp [results, Tryz.results67, go_sem, l0, l1, l2]) rfl ⟨hEn.out, bg⟩
theorem constIn_no2 (p q : ByteArray) (g o c : Nat) (w : World) (c0 : w.cell? ⟨g, o, none⟩ = some (.string p)) (hg : g < w.heap.size) (h1 : p ≠ intB) (h2 : p ≠ textB) :
  Calls Tryz.prog 67 #[.slice (some ⟨g, o, none⟩) 2 c] w fun e w' => qd5 (constP [p, q]) e ∧ Below w.heap.size w w' := by
 have hE : Hid (qd5 (constP [p, q]) (.returned (.tuple #[.agg #[.int .i64 0, .int .i64 0, .string ⟨#[]⟩], .bool false]))) := .inr ⟨by rw [constP2, if_neg h1, if_neg h2], ⟨0, 0, ⟨#[]⟩⟩, rfl⟩;have b1 : (p.toList == [105, 110, 116]) = false := lit_no (q := intB) rfl h1;have b2 : (p.toList == [116, 101, 120, 116]) = false := lit_no (q := textB) rfl h2;have hng : ¬ (g = w.heap.size) := by omega
 have hgl : g < w.heap.size + 1 := by omega
 clear h1 h2;go_enter Tryz.func67, Tryz.ntmps67;go_wp2_with fail;exact bodyPost_ret (v := .tuple #[.agg #[.int .i64 0, .int .i64 0, .string ⟨#[]⟩], .bool false]) (by simp [results, Tryz.results67, go_sem]) rfl ⟨hE.out, by go_grown⟩
theorem constIn_len (r : List ByteArray) (g o c : Nat) (w : World) (hl1 : r.length ≠ 1) (hl2 : r.length ≠ 2) (hN : r.length ≤ 100000) :
  Calls Tryz.prog 67 #[.slice (some ⟨g, o, none⟩) r.length c] w fun e w' => qd5 (constP r) e ∧ Below w.heap.size w w' := by
 have hE : Hid (qd5 (constP r) (.returned (.tuple #[.agg #[.int .i64 0, .int .i64 0, .string ⟨#[]⟩], .bool false]))) := by
  refine .inr ⟨?_, ⟨0, 0, ⟨#[]⟩⟩, rfl⟩;unfold constP;split
  ·exact absurd rfl hl1
  ·exact absurd rfl hl2
  ·rfl
 have hla : ((r.length : Int) == 1) = false := by simp; omega
 have hlb : ((r.length : Int) == 2) = false := by simp; omega
 generalize r.length = n at hl1 hl2 hla hlb hN ⊢;go_enter Tryz.func67, Tryz.ntmps67;go_wp2_with fail;exact bodyPost_ret (v := .tuple #[.agg #[.int .i64 0, .int .i64 0, .string ⟨#[]⟩], .bool false]) (by simp [results, Tryz.results67, go_sem]) rfl ⟨hE.out, by go_grown⟩
theorem constIn_in (r : List ByteArray) (g o c : Nat) (w : World) (hN : r.length ≤ 100000)
  (hc : ∀ (j : Nat) x, r[j]? = some x → w.cell? ⟨g, o + j, none⟩ = some (.string x)) (hg : g < w.heap.size) (hz : ∀ x ∈ r, x.size ≤ 100000) (hv : Env w) :
  Calls Tryz.prog 67 #[.slice (some ⟨g, o, none⟩) r.length c] w fun e w' => qd5 (constP r) e ∧ Below w.heap.size w w' := by
 by_cases hl1 : r.length = 1
 ·match r, hl1, hc, hz with
  | [p], _, hc, hz => exact constIn_one p g o c w (hc 0 p rfl) hg
 by_cases hl2 : r.length = 2
 ·match r, hl2, hc, hz with
  | [p, q], _, hc, hz =>
   by_cases h1 : p = intB
   ·subst h1; exact constIn_int q g o c w (hc 0 _ rfl) (hc 1 q rfl) hg (hz q (by simp)) hv
   by_cases h2 : p = textB
   ·subst h2; exact constIn_text q g o c w (hc 0 _ rfl) (hc 1 q rfl) hg (hz q (by simp)) hv
   ·exact constIn_no2 p q g o c w (hc 0 p rfl) hg h1 h2
 ·exact constIn_len r g o c w hl1 hl2 hN
end Go.Proofs.YtplijnfaiofckaaGreatDoor

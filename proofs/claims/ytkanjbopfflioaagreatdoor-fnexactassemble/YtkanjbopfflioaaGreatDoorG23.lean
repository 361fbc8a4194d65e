import Derived.Test.YtkanjbopfflioaaGreatDoorG18
import Derived.Test.YtkanjbopfflioaaGreatDoorG20
import Derived.Test.YtkanjbopfflioaaGreatDoorAsK
import Derived.Test.YtkanjbopfflioaaGreatDoorG21
import Derived.Test.YtkanjbopfflioaaGreatDoorG11
namespace Go.Proofs.YtkanjbopfflioaaGreatDoor
section
open Go.RowKit
set_option linter.unusedVariables false
set_option linter.unusedSimpArgs false
set_option maxRecDepth 100000
set_option maxHeartbeats 1000000
theorem kept3 {x y z : Value} {T : TypeId} {w w1 : World} (b : Below (w.alloc (.cells #[x, y, z] T)).heap.size (w.alloc (.cells #[x, y, z] T)) w1) :
    (w1.cell? ⟨w.heap.size, 0, none⟩ = some x ∧ w1.cell? ⟨w.heap.size, 1, none⟩ = some y ∧ w1.cell? ⟨w.heap.size, 2, none⟩ = some z) ∧ Below w.heap.size w w1 := by
  refine ⟨⟨?_, ?_, ?_⟩, ((Below.refl w.heap.size w).alloc (Nat.le_refl _) _).trans (b.mono (by rw [World.size_alloc]; omega))⟩
  · rw [b.cell (p := ⟨w.heap.size, 0, none⟩) (by simp)]; simp [go_sem]
  · rw [b.cell (p := ⟨w.heap.size, 1, none⟩) (by simp)]; simp [go_sem]
  · rw [b.cell (p := ⟨w.heap.size, 2, none⟩) (by simp)]; simp [go_sem]
/-- a value's fields. -/
abbrev vdV (d : VD) : Value := .agg #[.int .i64 d.kind, .int .i64 d.num, .string d.text]
theorem implPlain_is (d : VD) (b : Bool) (h : b = true ↔ Plain d) (w : World) :
    Calls Tryz.prog 107 #[vdV d] w fun e w' => e = .returned (.bool b) ∧ Below w.heap.size w w' :=
  (plain_in d w).mono fun e w' ⟨⟨r, he, hr⟩, hb⟩ => ⟨by rw [he]; congr 2; cases r <;> cases b <;> simp_all, hb⟩
theorem fb0_true (w : World) : Calls Tryz.prog 147 #[.bool true] w fun e w' => e = .returned (.string ⟨#[116, 114, 117, 101]⟩) ∧ Below w.heap.size w w' := by
  go_enter Tryz.func147, Tryz.ntmps147
  go_wp2_with (fail)
  go_ret
  exact ⟨rfl, by first | exact b1 | go_grown⟩
theorem fb1_true (w : World) : Calls Tryz.prog 138 #[.bool true] w fun e w' => e = .returned (.string ⟨#[116, 114, 117, 101]⟩) ∧ Below w.heap.size w w' := by
  go_enter Tryz.func138, Tryz.ntmps138
  go_wp2_with (go_at_call 147; refine (fb0_true _).mono ?_; rintro e w1 ⟨rfl, b1⟩)
  go_ret
  exact ⟨rfl, by first | exact b1 | go_grown⟩
theorem fb0_false (w : World) : Calls Tryz.prog 147 #[.bool false] w fun e w' => e = .returned (.string ⟨#[102, 97, 108, 115, 101]⟩) ∧ Below w.heap.size w w' := by
  go_enter Tryz.func147, Tryz.ntmps147
  go_wp2_with (fail)
  go_ret
  exact ⟨rfl, by first | exact b1 | go_grown⟩
theorem fb1_false (w : World) : Calls Tryz.prog 138 #[.bool false] w fun e w' => e = .returned (.string ⟨#[102, 97, 108, 115, 101]⟩) ∧ Below w.heap.size w w' := by
  go_enter Tryz.func138, Tryz.ntmps138
  go_wp2_with (go_at_call 147; refine (fb0_false _).mono ?_; rintro e w1 ⟨rfl, b1⟩)
  go_ret
  exact ⟨rfl, by first | exact b1 | go_grown⟩
theorem implShow_nil  (w : World) :
    Calls Tryz.prog 123 #[vdV ⟨0, 0, ⟨#[]⟩⟩] w fun e w' => e = .returned (.string ⟨#[110, 105, 108]⟩) ∧ Below w.heap.size w w' := by
  have hp := implPlain_is ⟨0, 0, ⟨#[]⟩⟩ true (by simp [Plain, ByteArray.size])
  unfold vdV at hp ⊢
  try dsimp only at hp ⊢
  go_enter Tryz.func123, Tryz.ntmps123
  go_wp2_with (first | (go_at_call 107; refine (hp _).mono ?_; rintro e w1 ⟨rfl, b1⟩; obtain ⟨⟨k0, k1, k2⟩, b2⟩ := kept3 b1; clear b1))
  go_ret
  exact ⟨rfl, by first | exact b2 | (go_grown)⟩
theorem implShow_false  (w : World) :
    Calls Tryz.prog 123 #[vdV ⟨1, 0, ⟨#[]⟩⟩] w fun e w' => e = .returned (.string ⟨#[102, 97, 108, 115, 101]⟩) ∧ Below w.heap.size w w' := by
  have hp := implPlain_is ⟨1, 0, ⟨#[]⟩⟩ true (by simp [Plain, ByteArray.size])
  unfold vdV at hp ⊢
  try dsimp only at hp ⊢
  go_enter Tryz.func123, Tryz.ntmps123
  go_wp2_with (first | (go_at_call 107; refine (hp _).mono ?_; rintro e w1 ⟨rfl, b1⟩; obtain ⟨⟨k0, k1, k2⟩, b2⟩ := kept3 b1; clear b1) | (go_at_call 138; refine (fb1_false _).mono ?_; rintro e w2 ⟨rfl, b3⟩))
  go_ret
  exact ⟨rfl, b2.trans (b3.mono b2.size)⟩
theorem implShow_true  (w : World) :
    Calls Tryz.prog 123 #[vdV ⟨1, 1, ⟨#[]⟩⟩] w fun e w' => e = .returned (.string ⟨#[116, 114, 117, 101]⟩) ∧ Below w.heap.size w w' := by
  have hp := implPlain_is ⟨1, 1, ⟨#[]⟩⟩ true (by simp [Plain, ByteArray.size])
  unfold vdV at hp ⊢
  try dsimp only at hp ⊢
  go_enter Tryz.func123, Tryz.ntmps123
  go_wp2_with (first | (go_at_call 107; refine (hp _).mono ?_; rintro e w1 ⟨rfl, b1⟩; obtain ⟨⟨k0, k1, k2⟩, b2⟩ := kept3 b1; clear b1) | (go_at_call 138; refine (fb1_true _).mono ?_; rintro e w2 ⟨rfl, b3⟩))
  go_ret
  exact ⟨rfl, b2.trans (b3.mono b2.size)⟩
theorem implShow_int (n : Int) (h0 : -9223372036854775808 ≤ n) (h1 : n ≤ 9223372036854775807) (w : World) (htab : Lib.TabIs Tryz.prog w "internal/strconv.uint64pow10" .u64 Lib.pow10Tab) :
    Calls Tryz.prog 123 #[vdV ⟨2, n, ⟨#[]⟩⟩] w fun e w' => e = .returned (.string (dec n)) ∧ Below w.heap.size w w' := by
  have hp := implPlain_is ⟨2, n, ⟨#[]⟩⟩ true (by simp [Plain, ByteArray.size])
  unfold vdV at hp ⊢
  try dsimp only at hp ⊢
  have hr := fun v hv => Any.strconv_FormatInt_10 Tryz.laysM173 n h0 h1 v hv
  have ht := Lib.tabBelow_of_tabIs htab
  clear htab
  change ∀ v, _ → Calls Tryz.prog 125 #[.int .i64 n, .int .i64 10] v (fun e w' => e = .returned (.string (dec n)) ∧ ∃ k os, w' = Sort.grow (v.drewN k) os) at hr
  generalize dec n = dn at hr ⊢
  go_enter Tryz.func123, Tryz.ntmps123
  go_wp2_with (first | (go_at_call 107; refine (hp _).mono ?_; rintro e w1 ⟨rfl, b1⟩; obtain ⟨⟨k0, k1, k2⟩, b2⟩ := kept3 b1; clear b1) | (go_at_call 125; refine (hr _ (ht _ b2)).mono ?_; rintro e w2 ⟨rfl, k, os, rfl⟩))
  go_ret
  exact ⟨rfl, b2.trans ((Lib.below_grow _ _ (Nat.le_refl _) _ _).mono b2.size)⟩
end
section
open Go.RowKit Go.Shelf
set_option linter.unusedVariables false
set_option linter.unusedSimpArgs false
set_option maxRecDepth 100000
set_option maxHeartbeats 2000000
def ConstIn (R : Option VD) (e : Ending) : Prop := (∃ d, R = some d ∧ e = .returned (.tuple #[.agg #[.int .i64 d.kind, .int .i64 d.num, .string d.text], .bool true])) ∨ (R = none ∧ ∃ d : VD, e = .returned (.tuple #[.agg #[.int .i64 d.kind, .int .i64 d.num, .string d.text], .bool false]))
theorem namedIn_in (p : ByteArray) (w : World) : Calls Tryz.prog 71 #[.string p] w fun e w' => ConstIn (constP [p]) e ∧ Below w.heap.size w w' := by
  obtain ⟨w2, hw2⟩ : ∃ w2, (w.alloc (.cells #[.int .i64 0, .int .i64 0, .string ⟨#[]⟩] 57)).alloc (.cells #[.int .i64 0, .int .i64 0, .string ⟨#[]⟩, .int .i64 1, .int .i64 0, .string ⟨#[]⟩, .int .i64 1, .int .i64 1, .string ⟨#[]⟩] 57) = w2 := ⟨_, rfl⟩
  have RB : RowL w2 w.heap.size 57 [.int .i64 0, .int .i64 0, .string ⟨#[]⟩] := by rw [← hw2]; exact (RowL.new w _ _).alloc _
  have RV : RowL w2 (w.heap.size + 1) 57 [.int .i64 0, .int .i64 0, .string ⟨#[]⟩, .int .i64 1, .int .i64 0, .string ⟨#[]⟩, .int .i64 1, .int .i64 1, .string ⟨#[]⟩] := by
    rw [← hw2]
    have := RowL.new (w.alloc (.cells #[.int .i64 0, .int .i64 0, .string ⟨#[]⟩] 57)) [.int .i64 0, .int .i64 0, .string ⟨#[]⟩, .int .i64 1, .int .i64 0, .string ⟨#[]⟩, .int .i64 1, .int .i64 1, .string ⟨#[]⟩] 57
    rwa [World.size_alloc] at this
  have bw : Below w.heap.size w w2 := by rw [← hw2]; exact ((Below.refl _ _).alloc (Nat.le_refl _) _).alloc (by rw [World.size_alloc]; omega) _
  have hR1 := hidR (constP1 p)
  generalize constP [p] = R at hR1 ⊢
  replace hw2 := hidR hw2
  have hrel0 : Hid (Below w2.heap.size w2 w2 ∧ (0 < 0 → p ≠ nilB) ∧ (1 < 0 → p ≠ falseB) ∧ (2 < 0 → p ≠ trueB)) := ⟨Below.refl _ _, by omega, by omega, by omega⟩
  replace RB := hidR RB
  replace RV := hidR RV
  go_enter Tryz.func71, Tryz.ntmps71
  go_wp2_with fail
  rw [hw2.out]
  go_loopw [5, 11] (fun _ iv wr => ∃ k : Nat, iv = .int .i64 (k : Int) ∧ k ≤ 3 ∧ Hid (Below w2.heap.size w2 wr ∧ (0 < k → p ≠ nilB) ∧ (1 < k → p ≠ falseB) ∧ (2 < k → p ≠ trueB))) (fun _ iv _ => 3 - (intOf iv).toNat)
  case atStart => exact ⟨0, rfl, by omega, hrel0.out⟩
  case round =>
    obtain ⟨k, rfl, hk, hq⟩ := hrel
    obtain ⟨wz, hwz⟩ : ∃ x, x = wr := ⟨_, rfl⟩
    subst hwz
    clear hrel0 hw2
    have RBz := RB.out.call hq.out.1
    have RVz := RV.out.call hq.out.1
    have bz := bw.trans (hq.out.1.mono bw.size)
    have hz1 := RBz.lt
    have hz2 := RVz.lt
    obtain rfl | rfl | rfl | rfl : k = 0 ∨ k = 1 ∨ k = 2 ∨ k = 3 := by omega
    · have d0 := RVz.cell 0 rfl
      have d1 := RVz.cell 1 rfl
      have d2 := RVz.cell 2 rfl
      obtain ⟨y0, hy0⟩ : ∃ y0, wz.alloc (.cells #[.int .i64 0, .int .i64 0, .string ⟨#[]⟩] 57) = y0 := ⟨_, rfl⟩
      have RU : RowL y0 wz.heap.size 57 [.int .i64 0, .int .i64 0, .string ⟨#[]⟩] := by rw [← hy0]; exact RowL.new wz _ _
      have by0 : Below wz.heap.size wz y0 := by rw [← hy0]; exact (Below.refl _ _).alloc (Nat.le_refl _) _
      have hsh := hidR (implShow_nil y0)
      unfold vdV at hsh
      replace hy0 := hidR hy0
      by_cases he : p = nilB
      · have hE : Hid (ConstIn R (.returned (.tuple #[.agg #[.int .i64 0, .int .i64 0, .string ⟨#[]⟩], .bool true]))) := .inl ⟨⟨0, 0, ⟨#[]⟩⟩, by rw [hR1.out, if_pos he], rfl⟩
        have hbe : ([110, 105, 108] == p.toList) = true := by
          have := str_eq nilB p
          rw [decide_eq_true he.symm, ByteArray.toList_eq nilB] at this
          exact this
        have RBy := RBz.call by0
        clear hq he
        go_wp2_with fail
        rw [hy0.out]
        refine Calls.mono hsh.out ?_
        rintro e y1 ⟨rfl, b1⟩
        replace RU := RU.call b1
        replace RBy := RBy.call b1
        have bf := bz.trans ((by0.trans (b1.mono by0.size)).mono bz.size)
        have x0 := RU.cell 0 rfl
        have x1 := RU.cell 1 rfl
        have x2 := RU.cell 2 rfl
        have xl := RU.lt
        have e0 := RBy.cell 0 rfl
        have e1 := RBy.cell 1 rfl
        have e2 := RBy.cell 2 rfl
        have ef := RBy.frozen
        have el := RBy.lt
        have L := ((RBy.set 0 (.int .i64 0)).set 1 (.int .i64 0)).set 2 (.string ⟨#[]⟩)
        have l0 := L.cell 0 rfl
        have l1 := L.cell 1 rfl
        have l2 := L.cell 2 rfl
        have bg := Below.setCell (Below.setCell (Below.setCell bf (p := ⟨w.heap.size, 0, none⟩) (Nat.le_refl _) (.int .i64 0)) (p := ⟨w.heap.size, 1, none⟩) (Nat.le_refl _) (.int .i64 0)) (p := ⟨w.heap.size, 2, none⟩) (Nat.le_refl _) (.string ⟨#[]⟩)
        replace L := hidR L
        clear hsh b1
        replace RBy := hidR RBy
        replace RU := hidR RU
        go_wp2_with fail
        exact bodyPost_ret (v := .tuple #[.agg #[.int .i64 0, .int .i64 0, .string ⟨#[]⟩], .bool true]) (by simp [results, Tryz.results71, go_sem, l0, l1, l2]) rfl ⟨hE.out, bg⟩
      · have hbe : ([110, 105, 108] == p.toList) = false := by
          have := str_eq nilB p
          rw [decide_eq_false (fun h => he h.symm), ByteArray.toList_eq nilB] at this
          exact this
        go_wp2_with fail
        rw [hy0.out]
        refine Calls.mono hsh.out ?_
        rintro e y1 ⟨rfl, b1⟩
        have hnx : Hid (Below w2.heap.size w2 y1 ∧ (0 < 1 → p ≠ nilB) ∧ (1 < 1 → p ≠ falseB) ∧ (2 < 1 → p ≠ trueB)) := by
          have bb := by0.trans (b1.mono by0.size)
          refine ⟨hq.out.1.trans (bb.mono hq.out.1.size), ?_, ?_, ?_⟩
          · exact fun _ => he
          · exact fun h => absurd h (by omega)
          · exact fun h => absurd h (by omega)
        clear hsh b1 hq he
        go_wp2_with fail
        go_roundw
        case rel => exact ⟨1, by go_num, by omega, hnx.out⟩
        case measure => simp only [intOf]; omega
    · have d0 := RVz.cell 3 rfl
      have d1 := RVz.cell 4 rfl
      have d2 := RVz.cell 5 rfl
      obtain ⟨y0, hy0⟩ : ∃ y0, wz.alloc (.cells #[.int .i64 1, .int .i64 0, .string ⟨#[]⟩] 57) = y0 := ⟨_, rfl⟩
      have RU : RowL y0 wz.heap.size 57 [.int .i64 1, .int .i64 0, .string ⟨#[]⟩] := by rw [← hy0]; exact RowL.new wz _ _
      have by0 : Below wz.heap.size wz y0 := by rw [← hy0]; exact (Below.refl _ _).alloc (Nat.le_refl _) _
      have hsh := hidR (implShow_false y0)
      unfold vdV at hsh
      replace hy0 := hidR hy0
      by_cases he : p = falseB
      · have hE : Hid (ConstIn R (.returned (.tuple #[.agg #[.int .i64 1, .int .i64 0, .string ⟨#[]⟩], .bool true]))) := .inl ⟨⟨1, 0, ⟨#[]⟩⟩, by rw [hR1.out, if_neg (fun h => hq.out.2.1 (by omega) h), if_neg (fun h => by rw [he] at h; exact dd.2.2.1 h.symm), if_pos he], rfl⟩
        have hbe : ([102, 97, 108, 115, 101] == p.toList) = true := by
          have := str_eq falseB p
          rw [decide_eq_true he.symm, ByteArray.toList_eq falseB] at this
          exact this
        have RBy := RBz.call by0
        clear hq he
        go_wp2_with fail
        rw [hy0.out]
        refine Calls.mono hsh.out ?_
        rintro e y1 ⟨rfl, b1⟩
        replace RU := RU.call b1
        replace RBy := RBy.call b1
        have bf := bz.trans ((by0.trans (b1.mono by0.size)).mono bz.size)
        have x0 := RU.cell 0 rfl
        have x1 := RU.cell 1 rfl
        have x2 := RU.cell 2 rfl
        have xl := RU.lt
        have e0 := RBy.cell 0 rfl
        have e1 := RBy.cell 1 rfl
        have e2 := RBy.cell 2 rfl
        have ef := RBy.frozen
        have el := RBy.lt
        have L := ((RBy.set 0 (.int .i64 1)).set 1 (.int .i64 0)).set 2 (.string ⟨#[]⟩)
        have l0 := L.cell 0 rfl
        have l1 := L.cell 1 rfl
        have l2 := L.cell 2 rfl
        have bg := Below.setCell (Below.setCell (Below.setCell bf (p := ⟨w.heap.size, 0, none⟩) (Nat.le_refl _) (.int .i64 1)) (p := ⟨w.heap.size, 1, none⟩) (Nat.le_refl _) (.int .i64 0)) (p := ⟨w.heap.size, 2, none⟩) (Nat.le_refl _) (.string ⟨#[]⟩)
        replace L := hidR L
        clear hsh b1
        replace RBy := hidR RBy
        replace RU := hidR RU
        go_wp2_with fail
        exact bodyPost_ret (v := .tuple #[.agg #[.int .i64 1, .int .i64 0, .string ⟨#[]⟩], .bool true]) (by simp [results, Tryz.results71, go_sem, l0, l1, l2]) rfl ⟨hE.out, bg⟩
      · have hbe : ([102, 97, 108, 115, 101] == p.toList) = false := by
          have := str_eq falseB p
          rw [decide_eq_false (fun h => he h.symm), ByteArray.toList_eq falseB] at this
          exact this
        go_wp2_with fail
        rw [hy0.out]
        refine Calls.mono hsh.out ?_
        rintro e y1 ⟨rfl, b1⟩
        have hnx : Hid (Below w2.heap.size w2 y1 ∧ (0 < 2 → p ≠ nilB) ∧ (1 < 2 → p ≠ falseB) ∧ (2 < 2 → p ≠ trueB)) := by
          have bb := by0.trans (b1.mono by0.size)
          refine ⟨hq.out.1.trans (bb.mono hq.out.1.size), ?_, ?_, ?_⟩
          · exact fun _ => hq.out.2.1 (by omega)
          · exact fun _ => he
          · exact fun h => absurd h (by omega)
        clear hsh b1 hq he
        go_wp2_with fail
        go_roundw
        case rel => exact ⟨2, by go_num, by omega, hnx.out⟩
        case measure => simp only [intOf]; omega
    · have d0 := RVz.cell 6 rfl
      have d1 := RVz.cell 7 rfl
      have d2 := RVz.cell 8 rfl
      obtain ⟨y0, hy0⟩ : ∃ y0, wz.alloc (.cells #[.int .i64 1, .int .i64 1, .string ⟨#[]⟩] 57) = y0 := ⟨_, rfl⟩
      have RU : RowL y0 wz.heap.size 57 [.int .i64 1, .int .i64 1, .string ⟨#[]⟩] := by rw [← hy0]; exact RowL.new wz _ _
      have by0 : Below wz.heap.size wz y0 := by rw [← hy0]; exact (Below.refl _ _).alloc (Nat.le_refl _) _
      have hsh := hidR (implShow_true y0)
      unfold vdV at hsh
      replace hy0 := hidR hy0
      by_cases he : p = trueB
      · have hE : Hid (ConstIn R (.returned (.tuple #[.agg #[.int .i64 1, .int .i64 1, .string ⟨#[]⟩], .bool true]))) := .inl ⟨⟨1, 1, ⟨#[]⟩⟩, by rw [hR1.out, if_neg (fun h => hq.out.2.1 (by omega) h), if_pos he], rfl⟩
        have hbe : ([116, 114, 117, 101] == p.toList) = true := by
          have := str_eq trueB p
          rw [decide_eq_true he.symm, ByteArray.toList_eq trueB] at this
          exact this
        have RBy := RBz.call by0
        clear hq he
        go_wp2_with fail
        rw [hy0.out]
        refine Calls.mono hsh.out ?_
        rintro e y1 ⟨rfl, b1⟩
        replace RU := RU.call b1
        replace RBy := RBy.call b1
        have bf := bz.trans ((by0.trans (b1.mono by0.size)).mono bz.size)
        have x0 := RU.cell 0 rfl
        have x1 := RU.cell 1 rfl
        have x2 := RU.cell 2 rfl
        have xl := RU.lt
        have e0 := RBy.cell 0 rfl
        have e1 := RBy.cell 1 rfl
        have e2 := RBy.cell 2 rfl
        have ef := RBy.frozen
        have el := RBy.lt
        have L := ((RBy.set 0 (.int .i64 1)).set 1 (.int .i64 1)).set 2 (.string ⟨#[]⟩)
        have l0 := L.cell 0 rfl
        have l1 := L.cell 1 rfl
        have l2 := L.cell 2 rfl
        have bg := Below.setCell (Below.setCell (Below.setCell bf (p := ⟨w.heap.size, 0, none⟩) (Nat.le_refl _) (.int .i64 1)) (p := ⟨w.heap.size, 1, none⟩) (Nat.le_refl _) (.int .i64 1)) (p := ⟨w.heap.size, 2, none⟩) (Nat.le_refl _) (.string ⟨#[]⟩)
        replace L := hidR L
        clear hsh b1
        replace RBy := hidR RBy
        replace RU := hidR RU
        go_wp2_with fail
        exact bodyPost_ret (v := .tuple #[.agg #[.int .i64 1, .int .i64 1, .string ⟨#[]⟩], .bool true]) (by simp [results, Tryz.results71, go_sem, l0, l1, l2]) rfl ⟨hE.out, bg⟩
      · have hbe : ([116, 114, 117, 101] == p.toList) = false := by
          have := str_eq trueB p
          rw [decide_eq_false (fun h => he h.symm), ByteArray.toList_eq trueB] at this
          exact this
        go_wp2_with fail
        rw [hy0.out]
        refine Calls.mono hsh.out ?_
        rintro e y1 ⟨rfl, b1⟩
        have hnx : Hid (Below w2.heap.size w2 y1 ∧ (0 < 3 → p ≠ nilB) ∧ (1 < 3 → p ≠ falseB) ∧ (2 < 3 → p ≠ trueB)) := by
          have bb := by0.trans (b1.mono by0.size)
          refine ⟨hq.out.1.trans (bb.mono hq.out.1.size), ?_, ?_, ?_⟩
          · exact fun _ => hq.out.2.1 (by omega)
          · exact fun _ => hq.out.2.2.1 (by omega)
          · exact fun _ => he
        clear hsh b1 hq he
        go_wp2_with fail
        go_roundw
        case rel => exact ⟨3, by go_num, by omega, hnx.out⟩
        case measure => simp only [intOf]; omega
    · have hE : Hid (ConstIn R (.returned (.tuple #[.agg #[.int .i64 0, .int .i64 0, .string ⟨#[]⟩], .bool false]))) := .inr ⟨by rw [hR1.out, if_neg (hq.out.2.1 (by omega)), if_neg (hq.out.2.2.2 (by omega)), if_neg (hq.out.2.2.1 (by omega))], ⟨0, 0, ⟨#[]⟩⟩, rfl⟩
      have e0 := RBz.cell 0 rfl
      have e1 := RBz.cell 1 rfl
      have e2 := RBz.cell 2 rfl
      have ef := RBz.frozen
      have L := ((RBz.set 0 (.int .i64 0)).set 1 (.int .i64 0)).set 2 (.string ⟨#[]⟩)
      have l0 := L.cell 0 rfl
      have l1 := L.cell 1 rfl
      have l2 := L.cell 2 rfl
      have bg := Below.setCell (Below.setCell (Below.setCell bz (p := ⟨w.heap.size, 0, none⟩) (Nat.le_refl _) (.int .i64 0)) (p := ⟨w.heap.size, 1, none⟩) (Nat.le_refl _) (.int .i64 0)) (p := ⟨w.heap.size, 2, none⟩) (Nat.le_refl _) (.string ⟨#[]⟩)
      replace L := hidR L
      replace RBz := hidR RBz
      clear hq RVz
      go_wp2_with fail
      exact bodyPost_ret (v := .tuple #[.agg #[.int .i64 0, .int .i64 0, .string ⟨#[]⟩], .bool false]) (by simp [results, Tryz.results71, go_sem, l0, l1, l2]) rfl ⟨hE.out, bg⟩
end
section
open Go.RowKit Go.Shelf
set_option linter.unusedVariables false
set_option linter.unusedSimpArgs false
set_option maxRecDepth 100000
set_option maxHeartbeats 2000000
theorem constIn_one (p : ByteArray) (g o c : Nat) (w : World) (c0 : w.cell? ⟨g, o, none⟩ = some (.string p)) (hg : g < w.heap.size) :
    Calls Tryz.prog 30 #[.slice (some ⟨g, o, none⟩) 1 c] w fun e w' => ConstIn (constP [p]) e ∧ Below w.heap.size w w' := by
  obtain ⟨w2, hw2⟩ : ∃ w2, w.alloc (.cells #[.int .i64 0, .int .i64 0, .string ⟨#[]⟩] 57) = w2 := ⟨_, rfl⟩
  have RB : RowL w2 w.heap.size 57 [.int .i64 0, .int .i64 0, .string ⟨#[]⟩] := by rw [← hw2]; exact RowL.new w _ _
  have bw : Below w.heap.size w w2 := by rw [← hw2]; exact (Below.refl _ _).alloc (Nat.le_refl _) _
  have d0 := (bw.cell (p := ⟨g, o, none⟩) hg).trans c0
  have hg2 : g < w2.heap.size := Nat.lt_of_lt_of_le hg bw.size
  have hcall := hidR (namedIn_in p w2)
  generalize constP [p] = R at hcall ⊢
  replace hw2 := hidR hw2
  clear c0
  go_enter Tryz.func30, Tryz.ntmps30
  go_upto_region 1 with fail
  rw [hw2.out]
  go_wp2_with fail
  refine Calls.mono hcall.out ?_
  rintro e y ⟨hE, b1⟩
  clear hcall hw2
  have RBy := RB.call b1
  have bz := bw.trans (b1.mono bw.size)
  have e0 := RBy.cell 0 rfl
  have e1 := RBy.cell 1 rfl
  have e2 := RBy.cell 2 rfl
  have ef := RBy.frozen
  have el := RBy.lt
  obtain ⟨d, bo, rfl, hEn⟩ : ∃ (d : VD) (bo : Bool), e = .returned (.tuple #[.agg #[.int .i64 d.kind, .int .i64 d.num, .string d.text], .bool bo]) ∧ Hid (ConstIn R (.returned (.tuple #[.agg #[.int .i64 d.kind, .int .i64 d.num, .string d.text], .bool bo]))) := by
    rcases id hE with ⟨d, _, he⟩ | ⟨_, d, he⟩
    · exact ⟨d, true, he, by rw [← he]; exact hE⟩
    · exact ⟨d, false, he, by rw [← he]; exact hE⟩
  have L := ((RBy.set 0 (.int .i64 d.kind)).set 1 (.int .i64 d.num)).set 2 (.string d.text)
  have l0 := L.cell 0 rfl
  have l1 := L.cell 1 rfl
  have l2 := L.cell 2 rfl
  have bg := Below.setCell (Below.setCell (Below.setCell bz (p := ⟨w.heap.size, 0, none⟩) (Nat.le_refl _) (.int .i64 d.kind)) (p := ⟨w.heap.size, 1, none⟩) (Nat.le_refl _) (.int .i64 d.num)) (p := ⟨w.heap.size, 2, none⟩) (Nat.le_refl _) (.string d.text)
  replace L := hidR L
  replace RBy := hidR RBy
  clear hE RB b1
  go_wp2_with fail
  exact bodyPost_ret (v := .tuple #[.agg #[.int .i64 d.kind, .int .i64 d.num, .string d.text], .bool bo]) (by simp [results, Tryz.results30, go_sem, l0, l1, l2]) rfl ⟨hEn.out, bg⟩
theorem constIn_int (p2 : ByteArray) (g o c : Nat) (w : World) (c0 : w.cell? ⟨g, o, none⟩ = some (.string intB)) (c1 : w.cell? ⟨g, o + 1, none⟩ = some (.string p2)) (hg : g < w.heap.size) (z2 : p2.size ≤ 100000) (hv : Env w) :
    Calls Tryz.prog 30 #[.slice (some ⟨g, o, none⟩) 2 c] w fun e w' => ConstIn (constP [intB, p2]) e ∧ Below w.heap.size w w' := by
  obtain ⟨w2, hw2⟩ : ∃ w2, w.alloc (.cells #[.int .i64 0, .int .i64 0, .string ⟨#[]⟩] 57) = w2 := ⟨_, rfl⟩
  have RB : RowL w2 w.heap.size 57 [.int .i64 0, .int .i64 0, .string ⟨#[]⟩] := by rw [← hw2]; exact RowL.new w _ _
  have bw : Below w.heap.size w w2 := by rw [← hw2]; exact (Below.refl _ _).alloc (Nat.le_refl _) _
  have d0 : w2.cell? ⟨g, o, none⟩ = some (.string ⟨#[105, 110, 116]⟩) := (bw.cell (p := ⟨g, o, none⟩) hg).trans c0
  have d1 := (bw.cell (p := ⟨g, o + 1, none⟩) hg).trans c1
  have hg2 : g < w2.heap.size := Nat.lt_of_lt_of_le hg bw.size
  have hcall := hidR (decimalIn_in p2 z2 w2 (powTab_below hv.pow bw) (hv.err.below bw))
  have hcp : Hid (constP [intB, p2] = (decOf p2).map (fun n => ⟨2, n, ⟨#[]⟩⟩)) := by show constP _ = _; rw [constP2, if_pos rfl]
  generalize constP [intB, p2] = R at hcp ⊢
  replace hw2 := hidR hw2
  clear c0 c1 hv
  go_enter Tryz.func30, Tryz.ntmps30
  go_upto_region 1 with fail
  rw [hw2.out]
  go_wp2_with fail
  refine Calls.mono hcall.out ?_
  rintro e y ⟨hE, b1⟩
  clear hcall hw2
  have RBy := RB.call b1
  have bz := bw.trans (b1.mono bw.size)
  have e0 := RBy.cell 0 rfl
  have e1 := RBy.cell 1 rfl
  have e2 := RBy.cell 2 rfl
  have ef := RBy.frozen
  have el := RBy.lt
  obtain ⟨x, bo, rfl, hEn⟩ : ∃ (x : Int) (bo : Bool), e = .returned (.tuple #[.int .i64 x, .bool bo]) ∧ Hid (ConstIn R (.returned (.tuple #[.agg #[.int .i64 2, .int .i64 x, .string ⟨#[]⟩], .bool bo]))) := by
    rcases hE with ⟨n, hd, he⟩ | ⟨hd, he⟩
    · exact ⟨n, true, he, .inl ⟨⟨2, n, ⟨#[]⟩⟩, by rw [hcp.out, hd]; rfl, rfl⟩⟩
    · exact ⟨0, false, he, .inr ⟨by rw [hcp.out, hd]; rfl, ⟨2, 0, ⟨#[]⟩⟩, rfl⟩⟩
  have L := ((RBy.set 0 (.int .i64 2)).set 1 (.int .i64 x)).set 2 (.string ⟨#[]⟩)
  have l0 := L.cell 0 rfl
  have l1 := L.cell 1 rfl
  have l2 := L.cell 2 rfl
  have bg := Below.setCell (Below.setCell (Below.setCell bz (p := ⟨w.heap.size, 0, none⟩) (Nat.le_refl _) (.int .i64 2)) (p := ⟨w.heap.size, 1, none⟩) (Nat.le_refl _) (.int .i64 x)) (p := ⟨w.heap.size, 2, none⟩) (Nat.le_refl _) (.string ⟨#[]⟩)
  replace L := hidR L
  replace RBy := hidR RBy
  clear hE RB b1 hcp
  go_wp2_with fail
  exact bodyPost_ret (v := .tuple #[.agg #[.int .i64 2, .int .i64 x, .string ⟨#[]⟩], .bool bo]) (by simp [results, Tryz.results30, go_sem, l0, l1, l2]) rfl ⟨hEn.out, bg⟩
theorem constIn_text (p2 : ByteArray) (g o c : Nat) (w : World) (c0 : w.cell? ⟨g, o, none⟩ = some (.string textB)) (c1 : w.cell? ⟨g, o + 1, none⟩ = some (.string p2)) (hg : g < w.heap.size) (z2 : p2.size ≤ 100000) (hv : Env w) :
    Calls Tryz.prog 30 #[.slice (some ⟨g, o, none⟩) 2 c] w fun e w' => ConstIn (constP [textB, p2]) e ∧ Below w.heap.size w w' := by
  obtain ⟨w2, hw2⟩ : ∃ w2, w.alloc (.cells #[.int .i64 0, .int .i64 0, .string ⟨#[]⟩] 57) = w2 := ⟨_, rfl⟩
  have RB : RowL w2 w.heap.size 57 [.int .i64 0, .int .i64 0, .string ⟨#[]⟩] := by rw [← hw2]; exact RowL.new w _ _
  have bw : Below w.heap.size w w2 := by rw [← hw2]; exact (Below.refl _ _).alloc (Nat.le_refl _) _
  have d0 : w2.cell? ⟨g, o, none⟩ = some (.string ⟨#[116, 101, 120, 116]⟩) := (bw.cell (p := ⟨g, o, none⟩) hg).trans c0
  have d1 := (bw.cell (p := ⟨g, o + 1, none⟩) hg).trans c1
  have hg2 : g < w2.heap.size := Nat.lt_of_lt_of_le hg bw.size
  have hcall := hidR (textIn_in p2 z2 w2)
  have hcp : Hid (constP [textB, p2] = (unhexOf p2).map (fun t => ⟨3, 0, t⟩)) := by show constP _ = _; rw [constP2, if_neg (fun h => dd.2.2.2 h.symm), if_pos rfl]
  generalize constP [textB, p2] = R at hcp ⊢
  replace hw2 := hidR hw2
  clear c0 c1 hv
  go_enter Tryz.func30, Tryz.ntmps30
  go_upto_region 1 with fail
  rw [hw2.out]
  go_wp2_with fail
  refine Calls.mono hcall.out ?_
  rintro e y ⟨hE, b1⟩
  clear hcall hw2
  have RBy := RB.call b1
  have bz := bw.trans (b1.mono bw.size)
  have e0 := RBy.cell 0 rfl
  have e1 := RBy.cell 1 rfl
  have e2 := RBy.cell 2 rfl
  have ef := RBy.frozen
  have el := RBy.lt
  obtain ⟨x, bo, rfl, hEn⟩ : ∃ (x : ByteArray) (bo : Bool), e = .returned (.tuple #[.string x, .bool bo]) ∧ Hid (ConstIn R (.returned (.tuple #[.agg #[.int .i64 3, .int .i64 0, .string x], .bool bo]))) := by
    obtain ⟨t, b, he, ht, hf⟩ := hE
    refine ⟨t, b, he, ?_⟩
    cases b with
    | true => exact .inl ⟨⟨3, 0, t⟩, by rw [hcp.out, ht rfl]; rfl, rfl⟩
    | false => exact .inr ⟨by rw [hcp.out, hf rfl]; rfl, ⟨3, 0, t⟩, rfl⟩
  have L := ((RBy.set 0 (.int .i64 3)).set 1 (.int .i64 0)).set 2 (.string x)
  have l0 := L.cell 0 rfl
  have l1 := L.cell 1 rfl
  have l2 := L.cell 2 rfl
  have bg := Below.setCell (Below.setCell (Below.setCell bz (p := ⟨w.heap.size, 0, none⟩) (Nat.le_refl _) (.int .i64 3)) (p := ⟨w.heap.size, 1, none⟩) (Nat.le_refl _) (.int .i64 0)) (p := ⟨w.heap.size, 2, none⟩) (Nat.le_refl _) (.string x)
  replace L := hidR L
  replace RBy := hidR RBy
  clear hE RB b1 hcp
  go_wp2_with fail
  exact bodyPost_ret (v := .tuple #[.agg #[.int .i64 3, .int .i64 0, .string x], .bool bo]) (by simp [results, Tryz.results30, go_sem, l0, l1, l2]) rfl ⟨hEn.out, bg⟩
theorem constIn_no2 (p q : ByteArray) (g o c : Nat) (w : World) (c0 : w.cell? ⟨g, o, none⟩ = some (.string p)) (hg : g < w.heap.size) (h1 : p ≠ intB) (h2 : p ≠ textB) :
    Calls Tryz.prog 30 #[.slice (some ⟨g, o, none⟩) 2 c] w fun e w' => ConstIn (constP [p, q]) e ∧ Below w.heap.size w w' := by
  have hE : Hid (ConstIn (constP [p, q]) (.returned (.tuple #[.agg #[.int .i64 0, .int .i64 0, .string ⟨#[]⟩], .bool false]))) := .inr ⟨by rw [constP2, if_neg h1, if_neg h2], ⟨0, 0, ⟨#[]⟩⟩, rfl⟩
  have b1 : (p.toList == [105, 110, 116]) = false := lit_no (q := intB) rfl h1
  have b2 : (p.toList == [116, 101, 120, 116]) = false := lit_no (q := textB) rfl h2
  have hng : ¬ (g = w.heap.size) := by omega
  have hgl : g < w.heap.size + 1 := by omega
  clear h1 h2
  go_enter Tryz.func30, Tryz.ntmps30
  go_wp2_with fail
  exact bodyPost_ret (v := .tuple #[.agg #[.int .i64 0, .int .i64 0, .string ⟨#[]⟩], .bool false]) (by simp [results, Tryz.results30, go_sem]) rfl ⟨hE.out, by go_grown⟩
theorem constIn_len (r : List ByteArray) (g o c : Nat) (w : World) (hl1 : r.length ≠ 1) (hl2 : r.length ≠ 2) (hN : r.length ≤ 100000) :
    Calls Tryz.prog 30 #[.slice (some ⟨g, o, none⟩) r.length c] w fun e w' => ConstIn (constP r) e ∧ Below w.heap.size w w' := by
  have hE : Hid (ConstIn (constP r) (.returned (.tuple #[.agg #[.int .i64 0, .int .i64 0, .string ⟨#[]⟩], .bool false]))) := by
    refine .inr ⟨?_, ⟨0, 0, ⟨#[]⟩⟩, rfl⟩
    unfold constP
    split
    · exact absurd rfl hl1
    · exact absurd rfl hl2
    · rfl
  have hla : ((r.length : Int) == 1) = false := by simp; omega
  have hlb : ((r.length : Int) == 2) = false := by simp; omega
  generalize r.length = n at hl1 hl2 hla hlb hN ⊢
  go_enter Tryz.func30, Tryz.ntmps30
  go_wp2_with fail
  exact bodyPost_ret (v := .tuple #[.agg #[.int .i64 0, .int .i64 0, .string ⟨#[]⟩], .bool false]) (by simp [results, Tryz.results30, go_sem]) rfl ⟨hE.out, by go_grown⟩
theorem constIn_in (r : List ByteArray) (g o c : Nat) (w : World) (hN : r.length ≤ 100000)
    (hc : ∀ (j : Nat) x, r[j]? = some x → w.cell? ⟨g, o + j, none⟩ = some (.string x)) (hg : g < w.heap.size) (hz : ∀ x ∈ r, x.size ≤ 100000) (hv : Env w) :
    Calls Tryz.prog 30 #[.slice (some ⟨g, o, none⟩) r.length c] w fun e w' => ConstIn (constP r) e ∧ Below w.heap.size w w' := by
  by_cases hl1 : r.length = 1
  · match r, hl1, hc, hz with
    | [p], _, hc, hz => exact constIn_one p g o c w (hc 0 p rfl) hg
  by_cases hl2 : r.length = 2
  · match r, hl2, hc, hz with
    | [p, q], _, hc, hz =>
      by_cases h1 : p = intB
      · subst h1; exact constIn_int q g o c w (hc 0 _ rfl) (hc 1 q rfl) hg (hz q (by simp)) hv
      by_cases h2 : p = textB
      · subst h2; exact constIn_text q g o c w (hc 0 _ rfl) (hc 1 q rfl) hg (hz q (by simp)) hv
      · exact constIn_no2 p q g o c w (hc 0 p rfl) hg h1 h2
  · exact constIn_len r g o c w hl1 hl2 hN
end
section
open Go.RowKit Go.Shelf
set_option linter.unusedVariables false
set_option linter.unusedSimpArgs false
set_option maxRecDepth 100000
set_option maxHeartbeats 2000000
noncomputable def fits3 : List Fit := [fitH 1 255, fitH 2 511, fitH 3 511]
theorem partsIn_in (k : Nat) (hk : k < 34) (hw : ¬ WideOp k) (r : List ByteArray) (g o c : Nat) (w : World) (hcap : r.length ≤ c) (ho : o ≤ 1000) (hN : r.length ≤ 100000)
    (hc : ∀ (j : Nat) x, r[j]? = some x → w.cell? ⟨g, o + j, none⟩ = some (.string x)) (hg : g < w.heap.size) (hz : ∀ x ∈ r, x.size ≤ 100000) (hv : Env w) :
    Calls Tryz.prog 36 #[.int .i64 (k : Int), .slice (some ⟨g, o, none⟩) r.length c] w fun e w' => WordIn (wordK k r) e ∧ Below w.heap.size w w' := by
  obtain ⟨w1, hw1⟩ : ∃ w1, w.alloc (.cells #[.func (.func 94) #[.int .i64 1] #[], .func (.func 94) #[.int .i64 2] #[], .func (.func 94) #[.int .i64 3] #[]] 104) = w1 := ⟨_, rfl⟩
  have bA : Below w.heap.size w w1 := by rw [← hw1]; exact (Below.refl _ _).alloc (Nat.le_refl _) _
  by_cases hl : r.length = 3
  · match r, hl, hc, hz with
    | [p, q, t], _, hc, hz =>
      have RF : RowL w1 w.heap.size 104 [.func (.func 94) #[.int .i64 1] #[], .func (.func 94) #[.int .i64 2] #[], .func (.func 94) #[.int .i64 3] #[]] := by rw [← hw1]; exact RowL.new w _ 104
      have hwl := RF.lt
      have hH := fitH_ok w1 (hv.spans.below bA)
      have hS1 := hv.spans.below bA
      have hcall := hidR (numbersIn_in [p, q, t] fits3 g o c w.heap.size 3 w1 rfl (by simp) hcap ho (fun j x hx => (bA.cell (p := ⟨g, o + j, none⟩) hg).trans (hc j x hx)) (by omega) hz (fun j t' ht => by
        match j, ht with
        | 0, ht => simp [fits3] at ht; subst ht; exact RF.cell 0 rfl
        | 1, ht => simp [fits3] at ht; subst ht; exact RF.cell 1 rfl
        | 2, ht => simp [fits3] at ht; subst ht; exact RF.cell 2 rfl) hwl (by simp [fits3]) (fun t' ht => by
          simp only [fits3, List.mem_cons, List.not_mem_nil, or_false] at ht
          rcases ht with rfl | rfl | rfl
          · exact hH.1
          · exact hH.2.1
          · exact hH.2.2) (powTab_below hv.pow bA) (hv.err.below bA))
      have hcall : Hid (Calls Tryz.prog 69 #[.slice (some ⟨g, o, none⟩) 3 c, .slice (some ⟨w.heap.size, 0, none⟩) 3 3] w1 fun e w' => NumsEnds [p, q, t] fits3 w1.heap.size e w' ∧ Below w1.heap.size w1 w') := hcall
      have hK : Hid (wordK k [p, q, t] = if 0 ≤ natOf p 255 ∧ 0 ≤ natOf q 511 ∧ 0 ≤ natOf t 511 then some (packed k (natOf p 255) (natOf q 511) (natOf t 511) (natOf q 511 + 512 * natOf t 511 - 131072)) else none) := by
        show wordK k _ = _
        unfold wordK
        rw [if_neg hw]
      have hyes : Hid (NumsOk [p, q, t] fits3 3 → ∃ a b d, numAt [p, q, t] 0 = some a ∧ numAt [p, q, t] 1 = some b ∧ numAt [p, q, t] 2 = some d ∧ (0 ≤ a ∧ a ≤ 255) ∧ (0 ≤ b ∧ b ≤ 511) ∧ (0 ≤ d ∧ d ≤ 511) ∧ wordK k [p, q, t] = some (packed k a b d (b + 512 * d + -131072))) := fun h => by
        obtain ⟨a, t0, a1, a2, a3⟩ := h 0 (by omega)
        obtain ⟨b, t1, b1, b2, b3⟩ := h 1 (by omega)
        obtain ⟨d, t2, d1, d2, d3⟩ := h 2 (by omega)
        simp only [fits3, List.getElem?_cons_zero, List.getElem?_cons_succ, Option.some.injEq] at a2 b2 d2
        subst a2 b2 d2
        have a4 : 0 ≤ a ∧ a ≤ 255 := of_decide_eq_true a3
        have b4 : 0 ≤ b ∧ b ≤ 511 := of_decide_eq_true b3
        have d4 : 0 ≤ d ∧ d ≤ 511 := of_decide_eq_true d3
        refine ⟨a, b, d, a1, b1, d1, a4, b4, d4, ?_⟩
        rw [hK.out, natOf_of (hi := 255) (show decOf p = some a from a1) a4.1 a4.2, natOf_of (hi := 511) (show decOf q = some b from b1) b4.1 b4.2, natOf_of (hi := 511) (show decOf t = some d from d1) d4.1 d4.2, if_pos ⟨a4.1, b4.1, d4.1⟩]
        rfl
      have hnot : Hid (¬ NumsOk [p, q, t] fits3 3 → wordK k [p, q, t] = none) := fun h => by
        rw [hK.out]
        refine if_neg fun h2 => h fun j hj => ?_
        obtain ⟨x1, x2⟩ := natOf_inv h2.1
        obtain ⟨y1, y2⟩ := natOf_inv h2.2.1
        obtain ⟨z1, z2⟩ := natOf_inv h2.2.2
        match j, hj with
        | 0, _ => exact ⟨_, fitH 1 255, x1, rfl, decide_eq_true ⟨h2.1, x2⟩⟩
        | 1, _ => exact ⟨_, fitH 2 511, y1, rfl, decide_eq_true ⟨h2.2.1, y2⟩⟩
        | 2, _ => exact ⟨_, fitH 3 511, z1, rfl, decide_eq_true ⟨h2.2.2, z2⟩⟩
      replace hw1 := hidR hw1
      replace bA := hidR bA
      replace hS1 := hidR hS1
      clear hc hz hv hcap RF hH hK
      go_enter Tryz.func36, Tryz.ntmps36
      go_wp2_with fail
      rw [hw1.out]
      refine Calls.mono hcall.out ?_
      rintro e y ⟨hE, b1⟩
      have bz := bA.out.trans (b1.mono bA.out.size)
      have hSy := hidR (hS1.out.below b1)
      clear hcall b1 hw1 bA hS1
      rcases hE with ⟨hok, rfl, hrow⟩ | ⟨hno, rfl⟩
      · obtain ⟨a, b, d, n1, n2, n3, ha, hb, hd, hres⟩ := hyes.out hok
        have e0 := hrow.cell (i := 0) (by simp)
        have e1 := hrow.cell (i := 1) (by simp)
        have e2 := hrow.cell (i := 2) (by simp)
        rw [n1] at e0
        rw [n2] at e1
        rw [n3] at e2
        replace e0 : y.cell? ⟨w1.heap.size, 0, none⟩ = some (.int .i64 a) := e0
        replace e1 : y.cell? ⟨w1.heap.size, 1, none⟩ = some (.int .i64 b) := e1
        replace e2 : y.cell? ⟨w1.heap.size, 2, none⟩ = some (.int .i64 d) := e2
        have hlt := hrow.lt
        replace hres := hidR hres
        clear hyes hnot hok hrow n1 n2 n3
        go_upto_region 4 with fail
        have bY0 : Below y.heap.size y y.drew := (Below.refl _ _).drew
        have hSd : y.drew.cell? ⟨w1.heap.size, 0, none⟩ = some (.int .i64 a) ∧ y.drew.cell? ⟨w1.heap.size, 1, none⟩ = some (.int .i64 b) ∧ y.drew.cell? ⟨w1.heap.size, 2, none⟩ = some (.int .i64 d) := ⟨e0, e1, e2⟩
        have hwo := hidR (fun yy : World => wideOf_any b d yy hb.1 hb.2 hd.1 hd.2)
        have hpk := hidR (implPack_any (k : Int) a b d (b + 512 * d + -131072) y.drew (hSy.out.below bY0))
        refine wp_region_held_drew (S := fun z => z.cell? ⟨w1.heap.size, 0, none⟩ = some (.int .i64 a) ∧ z.cell? ⟨w1.heap.size, 1, none⟩ = some (.int .i64 b) ∧ z.cell? ⟨w1.heap.size, 2, none⟩ = some (.int .i64 d)) (by kernel_rfl) hSd (fun hH => ?_)
        clear hH
        generalize y.drew = yd at bY0 hSd hpk ⊢
        refine take_dst 0 19 (.int .i64 (k : Int)) rfl (by kernel_rfl) (by kernel_rfl) (by kernel_rfl) (fun _ _ _ h => h) (Or.inl ⟨by rfl, by intro wv hSv; (try dsimp only at hSv); go_simp⟩) hSd rfl ?_
        try simp only [Act.put, List.setIfInBounds_toArray, List.set_cons_zero, List.set_cons_succ]
        refine take_dst 1 20 (.slice (some ⟨w1.heap.size, 0, none⟩) 3 3) rfl (by kernel_rfl) (by kernel_rfl) (by kernel_rfl) (fun _ _ _ h => h) (Or.inl ⟨by rfl, by intro wv hSv; (try dsimp only at hSv); go_simp⟩) hSd rfl ?_
        try simp only [Act.put, List.setIfInBounds_toArray, List.set_cons_zero, List.set_cons_succ]
        refine take_dst 2 21 (.pointer (some ⟨w1.heap.size, 0, none⟩)) rfl (by kernel_rfl) (by kernel_rfl) (by kernel_rfl) (fun _ _ _ h => h) (Or.inl ⟨by rfl, by intro wv hSv; (try dsimp only at hSv); go_simp⟩) hSd rfl ?_
        try simp only [Act.put, List.setIfInBounds_toArray, List.set_cons_zero, List.set_cons_succ]
        refine take_dst 3 22 (.int .i64 a) rfl (by kernel_rfl) (by kernel_rfl) (by kernel_rfl) (fun _ _ _ h => h) (Or.inl ⟨by rfl, by intro wv hSv; (try dsimp only at hSv); go_simp⟩) hSd rfl ?_
        try simp only [Act.put, List.setIfInBounds_toArray, List.set_cons_zero, List.set_cons_succ]
        refine take_dst 4 23 (.slice (some ⟨w1.heap.size, 0, none⟩) 3 3) rfl (by kernel_rfl) (by kernel_rfl) (by kernel_rfl) (fun _ _ _ h => h) (Or.inl ⟨by rfl, by intro wv hSv; (try dsimp only at hSv); go_simp⟩) hSd rfl ?_
        try simp only [Act.put, List.setIfInBounds_toArray, List.set_cons_zero, List.set_cons_succ]
        refine take_dst 5 24 (.pointer (some ⟨w1.heap.size, 1, none⟩)) rfl (by kernel_rfl) (by kernel_rfl) (by kernel_rfl) (fun _ _ _ h => h) (Or.inl ⟨by rfl, by intro wv hSv; (try dsimp only at hSv); go_simp⟩) hSd rfl ?_
        try simp only [Act.put, List.setIfInBounds_toArray, List.set_cons_zero, List.set_cons_succ]
        refine take_dst 6 25 (.int .i64 b) rfl (by kernel_rfl) (by kernel_rfl) (by kernel_rfl) (fun _ _ _ h => h) (Or.inl ⟨by rfl, by intro wv hSv; (try dsimp only at hSv); go_simp⟩) hSd rfl ?_
        try simp only [Act.put, List.setIfInBounds_toArray, List.set_cons_zero, List.set_cons_succ]
        refine take_dst 7 26 (.slice (some ⟨w1.heap.size, 0, none⟩) 3 3) rfl (by kernel_rfl) (by kernel_rfl) (by kernel_rfl) (fun _ _ _ h => h) (Or.inl ⟨by rfl, by intro wv hSv; (try dsimp only at hSv); go_simp⟩) hSd rfl ?_
        try simp only [Act.put, List.setIfInBounds_toArray, List.set_cons_zero, List.set_cons_succ]
        refine take_dst 8 27 (.pointer (some ⟨w1.heap.size, 2, none⟩)) rfl (by kernel_rfl) (by kernel_rfl) (by kernel_rfl) (fun _ _ _ h => h) (Or.inl ⟨by rfl, by intro wv hSv; (try dsimp only at hSv); go_simp⟩) hSd rfl ?_
        try simp only [Act.put, List.setIfInBounds_toArray, List.set_cons_zero, List.set_cons_succ]
        refine take_dst 9 28 (.int .i64 d) rfl (by kernel_rfl) (by kernel_rfl) (by kernel_rfl) (fun _ _ _ h => h) (Or.inl ⟨by rfl, by intro wv hSv; (try dsimp only at hSv); go_simp⟩) hSd rfl ?_
        try simp only [Act.put, List.setIfInBounds_toArray, List.set_cons_zero, List.set_cons_succ]
        refine take_dst 10 29 (.slice (some ⟨w1.heap.size, 0, none⟩) 3 3) rfl (by kernel_rfl) (by kernel_rfl) (by kernel_rfl) (fun _ _ _ h => h) (Or.inl ⟨by rfl, by intro wv hSv; (try dsimp only at hSv); go_simp⟩) hSd rfl ?_
        try simp only [Act.put, List.setIfInBounds_toArray, List.set_cons_zero, List.set_cons_succ]
        refine take_dst 11 30 (.pointer (some ⟨w1.heap.size, 1, none⟩)) rfl (by kernel_rfl) (by kernel_rfl) (by kernel_rfl) (fun _ _ _ h => h) (Or.inl ⟨by rfl, by intro wv hSv; (try dsimp only at hSv); go_simp⟩) hSd rfl ?_
        try simp only [Act.put, List.setIfInBounds_toArray, List.set_cons_zero, List.set_cons_succ]
        refine take_dst 12 31 (.int .i64 b) rfl (by kernel_rfl) (by kernel_rfl) (by kernel_rfl) (fun _ _ _ h => h) (Or.inl ⟨by rfl, by intro wv hSv; (try dsimp only at hSv); go_simp⟩) hSd rfl ?_
        try simp only [Act.put, List.setIfInBounds_toArray, List.set_cons_zero, List.set_cons_succ]
        refine take_dst 13 32 (.slice (some ⟨w1.heap.size, 0, none⟩) 3 3) rfl (by kernel_rfl) (by kernel_rfl) (by kernel_rfl) (fun _ _ _ h => h) (Or.inl ⟨by rfl, by intro wv hSv; (try dsimp only at hSv); go_simp⟩) hSd rfl ?_
        try simp only [Act.put, List.setIfInBounds_toArray, List.set_cons_zero, List.set_cons_succ]
        refine take_dst 14 33 (.pointer (some ⟨w1.heap.size, 2, none⟩)) rfl (by kernel_rfl) (by kernel_rfl) (by kernel_rfl) (fun _ _ _ h => h) (Or.inl ⟨by rfl, by intro wv hSv; (try dsimp only at hSv); go_simp⟩) hSd rfl ?_
        try simp only [Act.put, List.setIfInBounds_toArray, List.set_cons_zero, List.set_cons_succ]
        refine take_dst 15 34 (.int .i64 d) rfl (by kernel_rfl) (by kernel_rfl) (by kernel_rfl) (fun _ _ _ h => h) (Or.inl ⟨by rfl, by intro wv hSv; (try dsimp only at hSv); go_simp⟩) hSd rfl ?_
        try simp only [Act.put, List.setIfInBounds_toArray, List.set_cons_zero, List.set_cons_succ]
        refine wpAnyH_ready (rs := [16]) (by kernel_rfl) (by simp) ?_
        refine AllReadyH.cons rfl (fun K hK => ?_) AllReadyH.nil
        go_simp
        refine Calls.mono (hwo.out yd) ?_
        rintro e y1 ⟨rfl, rfl⟩
        go_wp2_with fail
        refine hK.out _ _ hSd (fun _ => ?_)
        clear hK K
        try simp only [Act.put, List.setIfInBounds_toArray, List.set_cons_zero, List.set_cons_succ]
        refine take_dst 17 36 (ins (k : Int) a b d (b + 512 * d + -131072)) rfl (by kernel_rfl) (by kernel_rfl) (by kernel_rfl) (fun _ _ _ h => h) (Or.inl ⟨by rfl, by intro wv hSv; (try dsimp only at hSv); go_simp⟩) hSd rfl ?_
        try simp only [Act.put, List.setIfInBounds_toArray, List.set_cons_zero, List.set_cons_succ]
        refine wpAnyH_ready (rs := [18]) (by kernel_rfl) (by simp) ?_
        refine AllReadyH.cons rfl (fun K hK => ?_) AllReadyH.nil
        go_simp
        refine Calls.mono hpk.out ?_
        rintro e y2 ⟨rfl, b2⟩
        have hSe : y2.cell? ⟨w1.heap.size, 0, none⟩ = some (.int .i64 a) ∧ y2.cell? ⟨w1.heap.size, 1, none⟩ = some (.int .i64 b) ∧ y2.cell? ⟨w1.heap.size, 2, none⟩ = some (.int .i64 d) := by
          have hl9 : w1.heap.size < y1.heap.size := Nat.lt_of_lt_of_le hlt bY0.size
          exact ⟨(b2.cell (p := ⟨w1.heap.size, 0, none⟩) hl9).trans hSd.1, (b2.cell (p := ⟨w1.heap.size, 1, none⟩) hl9).trans hSd.2.1, (b2.cell (p := ⟨w1.heap.size, 2, none⟩) hl9).trans hSd.2.2⟩
        have bf := (bz.trans (bY0.mono bz.size)).trans (b2.mono (bz.trans (bY0.mono bz.size)).size)
        clear hpk
        generalize packed (k : Int) a b d (b + 512 * d + -131072) = x at hres ⊢
        go_wp2_with fail
        refine hK.out _ _ hSe (fun _ => ?_)
        clear hK K
        try simp only [Act.put, List.setIfInBounds_toArray, List.set_cons_zero, List.set_cons_succ]
        refine take_dst 19 4 (.int .u32 x) rfl (by kernel_rfl) (by kernel_rfl) (by kernel_rfl) (fun _ _ _ h => h) (Or.inl ⟨by rfl, by intro wv hSv; (try dsimp only at hSv); go_simp⟩) hSe rfl ?_
        try simp only [Act.put, List.setIfInBounds_toArray, List.set_cons_zero, List.set_cons_succ]
        refine take_dst 20 5 (.bool true) rfl (by kernel_rfl) (by kernel_rfl) (by kernel_rfl) (fun _ _ _ h => h) (Or.inl ⟨by rfl, by intro wv hSv; (try dsimp only at hSv); go_simp⟩) hSe rfl ?_
        try simp only [Act.put, List.setIfInBounds_toArray, List.set_cons_zero, List.set_cons_succ]
        refine wpAnyH_done (by kernel_rfl) ?_ _
        go_wp2_with fail
        exact bodyPost_ret (v := .tuple #[.int .u32 x, .bool true]) (by simp [results, Tryz.results36, go_sem]) rfl ⟨.inl ⟨x, hres.out, rfl⟩, bf⟩
      · have hn := hidR (hnot.out hno)
        clear hyes hnot hno
        go_wp2_with fail
        exact bodyPost_ret (v := .tuple #[.int .u32 0, .bool false]) (by simp [results, Tryz.results36, go_sem]) rfl ⟨.inr ⟨hn.out, rfl⟩, bz⟩
  · have hcall := hidR (numbersIn_len r fits3 (some ⟨g, o, none⟩) (some ⟨w.heap.size, 0, none⟩) c 3 w1 hl hN (by simp [fits3]))
    have hn : Hid (wordK k r = none) := by
      show wordK k r = none
      unfold wordK
      rw [if_neg hw]
      split
      · exact absurd rfl hl
      · rfl
    replace hcall : Hid (Calls Tryz.prog 69 #[.slice (some ⟨g, o, none⟩) r.length c, .slice (some ⟨w.heap.size, 0, none⟩) 3 3] w1 fun e w' => e = .returned (.tuple #[.slice none 0 0, .bool false]) ∧ Below w1.heap.size w1 w') := hcall
    replace hw1 := hidR hw1
    clear hc hz hv
    generalize r.length = m at *
    go_enter Tryz.func36, Tryz.ntmps36
    go_wp2_with fail
    rw [hw1.out]
    refine Calls.mono hcall.out ?_
    rintro e y ⟨rfl, b1⟩
    have bz := bA.trans (b1.mono bA.size)
    clear hcall
    go_wp2_with fail
    exact bodyPost_ret (v := .tuple #[.int .u32 0, .bool false]) (by simp [results, Tryz.results36, go_sem]) rfl ⟨.inr ⟨hn.out, rfl⟩, bz⟩
end
section
open Go.RowKit Go.Shelf
set_option linter.unusedVariables false
set_option linter.unusedSimpArgs false
set_option maxRecDepth 100000
set_option maxHeartbeats 2000000
theorem implWide_yes (op a s : Int) (w : World) (hS : Spans w) (h1 : 0 ≤ op) (h2 : op ≤ 63) (h3 : 0 ≤ a) (h4 : a ≤ 255) (h5 : -131072 ≤ s) (h6 : s ≤ 131071) :
    Calls Tryz.prog 98 #[.int .i64 op, .int .i64 a, .int .i64 s] w fun e w' => e = .returned (ins op a ((s + 131072) % 512) ((s + 131072) / 512) s) ∧ Below w.heap.size w w' := by
  have hsub : s - -131072 = s + 131072 := by omega
  have hm : (s + 131072).tmod 512 = (s + 131072) % 512 := Int.tmod_eq_emod_of_nonneg (by omega)
  have hd : (s + 131072).tdiv 512 = (s + 131072) / 512 := Int.tdiv_eq_ediv_of_nonneg (by omega)
  have hw3 := hidR ((fitW_ok w).2)
  have hfw : decide (-131072 ≤ s ∧ s ≤ 131071) = true := decide_eq_true ⟨h5, h6⟩
  go_enter Tryz.func98, Tryz.ntmps98
  go_upto_region 1 with fail
  have RB := RowL.new w [.int .i64 0, .int .i64 0, .int .i64 0, .int .i64 0, .int .i64 0] 107
  have bw : Below w.heap.size w (w.alloc (.cells #[.int .i64 0, .int .i64 0, .int .i64 0, .int .i64 0, .int .i64 0] 107)) := (Below.refl _ _).alloc (Nat.le_refl _) _
  generalize w.alloc (.cells #[.int .i64 0, .int .i64 0, .int .i64 0, .int .i64 0, .int .i64 0] 107) = w2 at RB bw ⊢
  have hS2 := hS.below bw
  have k0 := hidR (holds0_yes op w2 hS2.c1 h1 h2)
  have k1 := hidR (holds1_yes a w2 hS2.c3 h3 h4)
  have k2 : Hid (Calls Tryz.prog 97 #[.int .i64 s] w2 fun e w' => e = .returned (.bool true) ∧ Below w2.heap.size w2 w') := by
    have := hw3.out w2 bw s ⟨by omega, by omega⟩
    have e9 : fitW.q s = true := hfw
    rw [e9] at this
    exact this
  clear hw3 hfw hS hS2
  go_wp2_with fail
  refine Calls.mono k0.out ?_
  rintro e y ⟨rfl, rfl⟩
  go_wp2_with fail
  refine Calls.mono k1.out ?_
  rintro e y ⟨rfl, rfl⟩
  go_wp2_with fail
  refine Calls.mono k2.out ?_
  rintro e y3 ⟨rfl, b3⟩
  clear k0 k1 k2
  replace RB := RB.call b3
  have bz := bw.trans (b3.mono bw.size)
  have e0 := RB.cell 0 rfl
  have e1 := RB.cell 1 rfl
  have e2 := RB.cell 2 rfl
  have e3 := RB.cell 3 rfl
  have e4 := RB.cell 4 rfl
  have ef := RB.frozen
  have el := RB.lt
  have L := rowSet5 RB (.int .i64 op) (.int .i64 a) (.int .i64 ((s + 131072) % 512)) (.int .i64 ((s + 131072) / 512)) (.int .i64 s)
  have l0 := L.cell 0 rfl
  have l1 := L.cell 1 rfl
  have l2 := L.cell 2 rfl
  have l3 := L.cell 3 rfl
  have l4 := L.cell 4 rfl
  have bf := Below.setCell (Below.setCell (Below.setCell (Below.setCell (Below.setCell bz (p := ⟨w.heap.size, 0, none⟩) (Nat.le_refl _) (.int .i64 op)) (p := ⟨w.heap.size, 1, none⟩) (Nat.le_refl _) (.int .i64 a)) (p := ⟨w.heap.size, 2, none⟩) (Nat.le_refl _) (.int .i64 ((s + 131072) % 512))) (p := ⟨w.heap.size, 3, none⟩) (Nat.le_refl _) (.int .i64 ((s + 131072) / 512))) (p := ⟨w.heap.size, 4, none⟩) (Nat.le_refl _) (.int .i64 s)
  replace L := hidR L
  replace RB := hidR RB
  go_wp2_with fail
  exact bodyPost_ret (v := ins op a ((s + 131072) % 512) ((s + 131072) / 512) s) (by simp [results, Tryz.results98, go_sem, l0, l1, l2, l3, l4]) rfl ⟨rfl, bf⟩
noncomputable def fits2 : List Fit := [fitH 1 255, fitW]
theorem wideIn_in (k : Nat) (hk : k < 34) (hw : WideOp k) (r : List ByteArray) (g o c : Nat) (w : World) (hcap : r.length ≤ c) (ho : o ≤ 1000) (hN : r.length ≤ 100000)
    (hc : ∀ (j : Nat) x, r[j]? = some x → w.cell? ⟨g, o + j, none⟩ = some (.string x)) (hg : g < w.heap.size) (hz : ∀ x ∈ r, x.size ≤ 100000) (hv : Env w) :
    Calls Tryz.prog 37 #[.int .i64 (k : Int), .slice (some ⟨g, o, none⟩) r.length c] w fun e w' => WordIn (wordK k r) e ∧ Below w.heap.size w w' := by
  obtain ⟨w1, hw1⟩ : ∃ w1, w.alloc (.cells #[.func (.func 94) #[.int .i64 1] #[], .func (.func 97) #[] #[]] 104) = w1 := ⟨_, rfl⟩
  have bA : Below w.heap.size w w1 := by rw [← hw1]; exact (Below.refl _ _).alloc (Nat.le_refl _) _
  by_cases hl : r.length = 2
  · match r, hl, hc, hz with
    | [p, q], _, hc, hz =>
      have RF : RowL w1 w.heap.size 104 [.func (.func 94) #[.int .i64 1] #[], .func (.func 97) #[] #[]] := by rw [← hw1]; exact RowL.new w _ 104
      have hwl := RF.lt
      have hH := fitH_ok w1 (hv.spans.below bA)
      have hS1 := hv.spans.below bA
      have hcall := hidR (numbersIn_in [p, q] fits2 g o c w.heap.size 2 w1 rfl (by simp) hcap ho (fun j x hx => (bA.cell (p := ⟨g, o + j, none⟩) hg).trans (hc j x hx)) (by omega) hz (fun j t' ht => by
        match j, ht with
        | 0, ht => simp [fits2] at ht; subst ht; exact RF.cell 0 rfl
        | 1, ht => simp [fits2] at ht; subst ht; exact RF.cell 1 rfl) hwl (by simp [fits2]) (fun t' ht => by
          simp only [fits2, List.mem_cons, List.not_mem_nil, or_false] at ht
          rcases ht with rfl | rfl
          · exact hH.1
          · exact fitW_ok w1) (powTab_below hv.pow bA) (hv.err.below bA))
      have hcall : Hid (Calls Tryz.prog 69 #[.slice (some ⟨g, o, none⟩) 2 c, .slice (some ⟨w.heap.size, 0, none⟩) 2 2] w1 fun e w' => NumsEnds [p, q] fits2 w1.heap.size e w' ∧ Below w1.heap.size w1 w') := hcall
      have hK : Hid (wordK k [p, q] = match decOf q with | some s => if 0 ≤ natOf p 255 ∧ -131072 ≤ s ∧ s ≤ 131071 then some (packed k (natOf p 255) ((s + 131072) % 512) ((s + 131072) / 512) s) else none | none => none) := by
        show wordK k _ = _
        unfold wordK
        rw [if_pos hw]
        rfl
      have hyes : Hid (NumsOk [p, q] fits2 2 → ∃ a s, numAt [p, q] 0 = some a ∧ numAt [p, q] 1 = some s ∧ (0 ≤ a ∧ a ≤ 255) ∧ (-131072 ≤ s ∧ s ≤ 131071) ∧ wordK k [p, q] = some (packed k a ((s + 131072) % 512) ((s + 131072) / 512) s)) := fun h => by
        obtain ⟨a, t0, a1, a2, a3⟩ := h 0 (by omega)
        obtain ⟨s, t1, b1, b2, b3⟩ := h 1 (by omega)
        simp only [fits2, List.getElem?_cons_zero, List.getElem?_cons_succ, Option.some.injEq] at a2 b2
        subst a2 b2
        have a4 : 0 ≤ a ∧ a ≤ 255 := of_decide_eq_true a3
        have b4 : -131072 ≤ s ∧ s ≤ 131071 := of_decide_eq_true b3
        refine ⟨a, s, a1, b1, a4, b4, ?_⟩
        rw [hK.out, show decOf q = some s from b1, natOf_of (hi := 255) (show decOf p = some a from a1) a4.1 a4.2]
        exact if_pos ⟨a4.1, b4.1, b4.2⟩
      have hnot : Hid (¬ NumsOk [p, q] fits2 2 → wordK k [p, q] = none) := fun h => by
        rw [hK.out]
        cases hq : decOf q with
        | none => rfl
        | some s =>
          refine if_neg fun h2 => h fun j hj => ?_
          obtain ⟨x1, x2⟩ := natOf_inv h2.1
          match j, hj with
          | 0, _ => exact ⟨_, fitH 1 255, x1, rfl, decide_eq_true ⟨h2.1, x2⟩⟩
          | 1, _ => exact ⟨s, fitW, hq, rfl, decide_eq_true h2.2⟩
      replace hw1 := hidR hw1
      replace bA := hidR bA
      replace hS1 := hidR hS1
      clear hc hz hv hcap RF hH hK
      go_enter Tryz.func37, Tryz.ntmps37
      go_wp2_with fail
      rw [hw1.out]
      refine Calls.mono hcall.out ?_
      rintro e y ⟨hE, b1⟩
      have bz := bA.out.trans (b1.mono bA.out.size)
      have hSy := hidR (hS1.out.below b1)
      clear hcall b1 hw1 bA hS1
      rcases hE with ⟨hok, rfl, hrow⟩ | ⟨hno, rfl⟩
      · obtain ⟨a, s, n1, n2, ha, hs, hres⟩ := hyes.out hok
        have e0 := hrow.cell (i := 0) (by simp)
        have e1 := hrow.cell (i := 1) (by simp)
        rw [n1] at e0
        rw [n2] at e1
        replace e0 : y.cell? ⟨w1.heap.size, 0, none⟩ = some (.int .i64 a) := e0
        replace e1 : y.cell? ⟨w1.heap.size, 1, none⟩ = some (.int .i64 s) := e1
        have hlt := hrow.lt
        replace hres := hidR hres
        clear hyes hnot hok hrow n1 n2
        go_upto_region 4 with fail
        have bY0 : Below y.heap.size y y.drew := (Below.refl _ _).drew
        have hSd : y.drew.cell? ⟨w1.heap.size, 0, none⟩ = some (.int .i64 a) ∧ y.drew.cell? ⟨w1.heap.size, 1, none⟩ = some (.int .i64 s) := ⟨e0, e1⟩
        have hSD := hidR (hSy.out.below bY0)
        have hwo := hidR (implWide_yes (k : Int) a s y.drew hSD.out (by omega) (by omega) ha.1 ha.2 hs.1 hs.2)
        have hpk := hidR (fun (z : World) (hz : Spans z) => implPack_any (k : Int) a ((s + 131072) % 512) ((s + 131072) / 512) s z hz)
        refine wp_region_held_drew (S := fun z => z.cell? ⟨w1.heap.size, 0, none⟩ = some (.int .i64 a) ∧ z.cell? ⟨w1.heap.size, 1, none⟩ = some (.int .i64 s)) (by kernel_rfl) hSd (fun hH => ?_)
        clear hH
        generalize y.drew = yd at bY0 hSd hwo hSD ⊢
        refine take_dst 0 17 (.int .i64 (k : Int)) rfl (by kernel_rfl) (by kernel_rfl) (by kernel_rfl) (fun _ _ _ h => h) (Or.inl ⟨by rfl, by intro wv hSv; (try dsimp only at hSv); go_simp⟩) hSd rfl ?_
        try simp only [Act.put, List.setIfInBounds_toArray, List.set_cons_zero, List.set_cons_succ]
        refine take_dst 1 18 (.slice (some ⟨w1.heap.size, 0, none⟩) 2 2) rfl (by kernel_rfl) (by kernel_rfl) (by kernel_rfl) (fun _ _ _ h => h) (Or.inl ⟨by rfl, by intro wv hSv; (try dsimp only at hSv); go_simp⟩) hSd rfl ?_
        try simp only [Act.put, List.setIfInBounds_toArray, List.set_cons_zero, List.set_cons_succ]
        refine take_dst 2 19 (.pointer (some ⟨w1.heap.size, 0, none⟩)) rfl (by kernel_rfl) (by kernel_rfl) (by kernel_rfl) (fun _ _ _ h => h) (Or.inl ⟨by rfl, by intro wv hSv; (try dsimp only at hSv); go_simp⟩) hSd rfl ?_
        try simp only [Act.put, List.setIfInBounds_toArray, List.set_cons_zero, List.set_cons_succ]
        refine take_dst 3 20 (.int .i64 a) rfl (by kernel_rfl) (by kernel_rfl) (by kernel_rfl) (fun _ _ _ h => h) (Or.inl ⟨by rfl, by intro wv hSv; (try dsimp only at hSv); go_simp⟩) hSd rfl ?_
        try simp only [Act.put, List.setIfInBounds_toArray, List.set_cons_zero, List.set_cons_succ]
        refine take_dst 4 21 (.slice (some ⟨w1.heap.size, 0, none⟩) 2 2) rfl (by kernel_rfl) (by kernel_rfl) (by kernel_rfl) (fun _ _ _ h => h) (Or.inl ⟨by rfl, by intro wv hSv; (try dsimp only at hSv); go_simp⟩) hSd rfl ?_
        try simp only [Act.put, List.setIfInBounds_toArray, List.set_cons_zero, List.set_cons_succ]
        refine take_dst 5 22 (.pointer (some ⟨w1.heap.size, 1, none⟩)) rfl (by kernel_rfl) (by kernel_rfl) (by kernel_rfl) (fun _ _ _ h => h) (Or.inl ⟨by rfl, by intro wv hSv; (try dsimp only at hSv); go_simp⟩) hSd rfl ?_
        try simp only [Act.put, List.setIfInBounds_toArray, List.set_cons_zero, List.set_cons_succ]
        refine take_dst 6 23 (.int .i64 s) rfl (by kernel_rfl) (by kernel_rfl) (by kernel_rfl) (fun _ _ _ h => h) (Or.inl ⟨by rfl, by intro wv hSv; (try dsimp only at hSv); go_simp⟩) hSd rfl ?_
        try simp only [Act.put, List.setIfInBounds_toArray, List.set_cons_zero, List.set_cons_succ]
        refine wpAnyH_ready (rs := [7]) (by kernel_rfl) (by simp) ?_
        refine AllReadyH.cons rfl (fun K hK => ?_) AllReadyH.nil
        go_simp
        refine Calls.mono hwo.out ?_
        rintro e y1 ⟨rfl, b1⟩
        have hl9 : w1.heap.size < yd.heap.size := Nat.lt_of_lt_of_le hlt bY0.size
        have hSf : y1.cell? ⟨w1.heap.size, 0, none⟩ = some (.int .i64 a) ∧ y1.cell? ⟨w1.heap.size, 1, none⟩ = some (.int .i64 s) := ⟨(b1.cell (p := ⟨w1.heap.size, 0, none⟩) hl9).trans hSd.1, (b1.cell (p := ⟨w1.heap.size, 1, none⟩) hl9).trans hSd.2⟩
        replace hpk := hidR (hpk.out y1 (hSD.out.below b1))
        go_wp2_with fail
        refine hK.out _ _ hSf (fun _ => ?_)
        clear hK K hwo
        try simp only [Act.put, List.setIfInBounds_toArray, List.set_cons_zero, List.set_cons_succ]
        refine wpAnyH_ready (rs := [8]) (by kernel_rfl) (by simp) ?_
        refine AllReadyH.cons rfl (fun K hK => ?_) AllReadyH.nil
        go_simp
        refine Calls.mono hpk.out ?_
        rintro e y2 ⟨rfl, b2⟩
        have hl8 : w1.heap.size < y1.heap.size := Nat.lt_of_lt_of_le hl9 b1.size
        have hSe : y2.cell? ⟨w1.heap.size, 0, none⟩ = some (.int .i64 a) ∧ y2.cell? ⟨w1.heap.size, 1, none⟩ = some (.int .i64 s) := ⟨(b2.cell (p := ⟨w1.heap.size, 0, none⟩) hl8).trans hSf.1, (b2.cell (p := ⟨w1.heap.size, 1, none⟩) hl8).trans hSf.2⟩
        have c1 := bz.trans (bY0.mono bz.size)
        have c2 := c1.trans (b1.mono c1.size)
        have bf := c2.trans (b2.mono c2.size)
        clear hpk
        generalize packed (k : Int) a ((s + 131072) % 512) ((s + 131072) / 512) s = x at hres ⊢
        go_wp2_with fail
        refine hK.out _ _ hSe (fun _ => ?_)
        clear hK K
        try simp only [Act.put, List.setIfInBounds_toArray, List.set_cons_zero, List.set_cons_succ]
        refine take_dst 9 4 (.int .u32 x) rfl (by kernel_rfl) (by kernel_rfl) (by kernel_rfl) (fun _ _ _ h => h) (Or.inl ⟨by rfl, by intro wv hSv; (try dsimp only at hSv); go_simp⟩) hSe rfl ?_
        try simp only [Act.put, List.setIfInBounds_toArray, List.set_cons_zero, List.set_cons_succ]
        refine take_dst 10 5 (.bool true) rfl (by kernel_rfl) (by kernel_rfl) (by kernel_rfl) (fun _ _ _ h => h) (Or.inl ⟨by rfl, by intro wv hSv; (try dsimp only at hSv); go_simp⟩) hSe rfl ?_
        try simp only [Act.put, List.setIfInBounds_toArray, List.set_cons_zero, List.set_cons_succ]
        refine wpAnyH_done (by kernel_rfl) ?_ _
        go_wp2_with fail
        exact bodyPost_ret (v := .tuple #[.int .u32 x, .bool true]) (by simp [results, Tryz.results37, go_sem]) rfl ⟨.inl ⟨x, hres.out, rfl⟩, bf⟩
      · have hn := hidR (hnot.out hno)
        clear hyes hnot hno
        go_wp2_with fail
        exact bodyPost_ret (v := .tuple #[.int .u32 0, .bool false]) (by simp [results, Tryz.results37, go_sem]) rfl ⟨.inr ⟨hn.out, rfl⟩, bz⟩
  · have hcall := hidR (numbersIn_len r fits2 (some ⟨g, o, none⟩) (some ⟨w.heap.size, 0, none⟩) c 2 w1 hl hN (by simp [fits2]))
    have hn : Hid (wordK k r = none) := by
      show wordK k r = none
      unfold wordK
      rw [if_pos hw]
      split
      · exact absurd rfl hl
      · rfl
    replace hcall : Hid (Calls Tryz.prog 69 #[.slice (some ⟨g, o, none⟩) r.length c, .slice (some ⟨w.heap.size, 0, none⟩) 2 2] w1 fun e w' => e = .returned (.tuple #[.slice none 0 0, .bool false]) ∧ Below w1.heap.size w1 w') := hcall
    replace hw1 := hidR hw1
    clear hc hz hv
    generalize r.length = m at *
    go_enter Tryz.func37, Tryz.ntmps37
    go_wp2_with fail
    rw [hw1.out]
    refine Calls.mono hcall.out ?_
    rintro e y ⟨rfl, b1⟩
    have bz := bA.trans (b1.mono bA.size)
    clear hcall
    go_wp2_with fail
    exact bodyPost_ret (v := .tuple #[.int .u32 0, .bool false]) (by simp [results, Tryz.results37, go_sem]) rfl ⟨.inr ⟨hn.out, rfl⟩, bz⟩
end
end Go.Proofs.YtkanjbopfflioaaGreatDoor

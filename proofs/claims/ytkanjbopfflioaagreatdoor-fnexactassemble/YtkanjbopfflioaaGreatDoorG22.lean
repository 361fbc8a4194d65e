import Derived.Test.YtkanjbopfflioaaGreatDoorG21
import Derived.Test.YtkanjbopfflioaaGreatDoorAsM
namespace Go.Proofs.YtkanjbopfflioaaGreatDoor
section
open Go.RowKit Go.Shelf
set_option linter.unusedVariables false
set_option linter.unusedSimpArgs false
set_option maxRecDepth 100000
set_option maxHeartbeats 4000000
def HeadIn (R : Option PD) (e : Ending) : Prop := (∃ a b c v, R = some (bareP a b c v) ∧ e = .returned (.tuple #[hdV a b c v, .bool true])) ∨ (R = none ∧ e = .returned (.tuple #[hdV 0 0 0 false, .bool false]))
noncomputable def fitsN : List Fit := [fitN, fitN, fitN]
/-- three numbers read. -/
theorem three_in (p q t : ByteArray) (g o c fb : Nat) (w1 : World) (hcap : 3 ≤ c) (ho : o ≤ 1000) (hc0 : w1.cell? ⟨g, o, none⟩ = some (.string p)) (hc1 : w1.cell? ⟨g, o + 1, none⟩ = some (.string q)) (hc2 : w1.cell? ⟨g, o + 2, none⟩ = some (.string t)) (hg : g < w1.heap.size)
    (zp : p.size ≤ 100000) (zq : q.size ≤ 100000) (zt : t.size ≤ 100000) (RF : RowL w1 fb 104 [.func (.func 70) #[] #[], .func (.func 70) #[] #[], .func (.func 70) #[] #[]]) (hv : Env w1) (R : Bool → Option PD) (v : Bool) (hR : R v = if 0 ≤ natOf p 16777215 ∧ 0 ≤ natOf q 16777215 ∧ 0 ≤ natOf t 16777215 then some (bareP (natOf p 16777215) (natOf q 16777215) (natOf t 16777215) v) else none) :
    Calls Tryz.prog 69 #[.slice (some ⟨g, o, none⟩) 3 c, .slice (some ⟨fb, 0, none⟩) 3 3] w1 fun e w' => ((∃ a b d, R v = some (bareP a b d v) ∧ w'.cell? ⟨w1.heap.size, 0, none⟩ = some (.int .i64 a) ∧ w'.cell? ⟨w1.heap.size, 1, none⟩ = some (.int .i64 b) ∧ w'.cell? ⟨w1.heap.size, 2, none⟩ = some (.int .i64 d) ∧ w1.heap.size < w'.heap.size ∧ e = .returned (.tuple #[.slice (some ⟨w1.heap.size, 0, none⟩) 3 3, .bool true])) ∨ (R v = none ∧ e = .returned (.tuple #[.slice none 0 0, .bool false]))) ∧ Below w1.heap.size w1 w' := by
  refine (numbersIn_in [p, q, t] fitsN g o c fb 3 w1 rfl (by simp) hcap ho (fun j x hx => by
    match j, hx with
    | 0, hx => simp at hx; subst hx; exact hc0
    | 1, hx => simp at hx; subst hx; exact hc1
    | 2, hx => simp at hx; subst hx; exact hc2) hg (fun x hx => by
      simp only [List.mem_cons, List.not_mem_nil, or_false] at hx
      rcases hx with rfl | rfl | rfl <;> assumption) (fun j t' ht => by
    match j, ht with
    | 0, ht => simp [fitsN] at ht; subst ht; exact RF.cell 0 rfl
    | 1, ht => simp [fitsN] at ht; subst ht; exact RF.cell 1 rfl
    | 2, ht => simp [fitsN] at ht; subst ht; exact RF.cell 2 rfl) RF.lt (by simp [fitsN]) (fun t' ht => by
      simp only [fitsN, List.mem_cons, List.not_mem_nil, or_false] at ht
      rcases ht with rfl | rfl | rfl <;> exact fitN_ok w1) hv.pow hv.err).mono ?_
  rintro e w' ⟨hEn, hb⟩
  refine ⟨?_, hb⟩
  rcases hEn with ⟨hok, he, hrow⟩ | ⟨hno, he⟩
  · obtain ⟨a, t0, a1, a2, a3⟩ := hok 0 (by simp)
    obtain ⟨b, t1, b1, b2, b3⟩ := hok 1 (by simp)
    obtain ⟨d, t2, d1, d2, d3⟩ := hok 2 (by simp)
    simp only [fitsN, List.getElem?_cons_zero, List.getElem?_cons_succ, Option.some.injEq] at a2 b2 d2
    subst a2 b2 d2
    have a4 : 0 ≤ a ∧ a ≤ 16777215 := of_decide_eq_true a3
    have b4 : 0 ≤ b ∧ b ≤ 16777215 := of_decide_eq_true b3
    have d4 : 0 ≤ d ∧ d ≤ 16777215 := of_decide_eq_true d3
    have e0 := hrow.cell (i := 0) (by simp)
    have e1 := hrow.cell (i := 1) (by simp)
    have e2 := hrow.cell (i := 2) (by simp)
    rw [a1] at e0
    rw [b1] at e1
    rw [d1] at e2
    refine .inl ⟨a, b, d, ?_, e0, e1, e2, hrow.lt, he⟩
    rw [hR, natOf_of (hi := 16777215) (show decOf p = some a from a1) a4.1 a4.2, natOf_of (hi := 16777215) (show decOf q = some b from b1) b4.1 b4.2, natOf_of (hi := 16777215) (show decOf t = some d from d1) d4.1 d4.2, if_pos ⟨a4.1, b4.1, d4.1⟩]
  · refine .inr ⟨?_, he⟩
    rw [hR]
    refine if_neg fun h2 => hno fun j hj => ?_
    obtain ⟨x1, x2⟩ := natOf_inv h2.1
    obtain ⟨y1, y2⟩ := natOf_inv h2.2.1
    obtain ⟨z1, z2⟩ := natOf_inv h2.2.2
    match j, hj with
    | 0, _ => exact ⟨_, fitN, x1, rfl, decide_eq_true ⟨h2.1, x2⟩⟩
    | 1, _ => exact ⟨_, fitN, y1, rfl, decide_eq_true ⟨h2.2.1, y2⟩⟩
    | 2, _ => exact ⟨_, fitN, z1, rfl, decide_eq_true ⟨h2.2.2, z2⟩⟩
theorem headIn_3 (p q t : ByteArray) (g o c : Nat) (w : World) (hcap : 3 ≤ c) (ho : o ≤ 1000) (c0 : w.cell? ⟨g, o, none⟩ = some (.string p)) (c1 : w.cell? ⟨g, o + 1, none⟩ = some (.string q)) (c2 : w.cell? ⟨g, o + 2, none⟩ = some (.string t)) (hg : g < w.heap.size)
    (zp : p.size ≤ 100000) (zq : q.size ≤ 100000) (zt : t.size ≤ 100000) (hv : Env w) :
    Calls Tryz.prog 28 #[.slice (some ⟨g, o, none⟩) 3 c] w fun e w' => HeadIn (headP [p, q, t]) e ∧ Below w.heap.size w w' := by
  obtain ⟨w2, hw2⟩ : ∃ w2, w.alloc (.cells #[.int .i64 0, .bool false, .int .i64 0, .slice none 0 0, .slice none 0 0, .slice none 0 0, .int .i64 0, .string ⟨#[]⟩, .slice none 0 0, .slice none 0 0] 53) = w2 := ⟨_, rfl⟩
  have RB : RowL w2 w.heap.size 53 [.int .i64 0, .bool false, .int .i64 0, .slice none 0 0, .slice none 0 0, .slice none 0 0, .int .i64 0, .string ⟨#[]⟩, .slice none 0 0, .slice none 0 0] := by rw [← hw2]; exact RowL.new w _ _
  have bw : Below w.heap.size w w2 := by rw [← hw2]; exact (Below.refl _ _).alloc (Nat.le_refl _) _
  obtain ⟨w1, hw1⟩ : ∃ w1, w2.alloc (.cells #[.func (.func 70) #[] #[], .func (.func 70) #[] #[], .func (.func 70) #[] #[]] 104) = w1 := ⟨_, rfl⟩
  have bA : Below w2.heap.size w2 w1 := by rw [← hw1]; exact (Below.refl _ _).alloc (Nat.le_refl _) _
  have RF : RowL w1 w2.heap.size 104 [.func (.func 70) #[] #[], .func (.func 70) #[] #[], .func (.func 70) #[] #[]] := by rw [← hw1]; exact RowL.new w2 _ 104
  have bB : Below w.heap.size w w1 := bw.trans (bA.mono bw.size)
  have hg2 : g < w2.heap.size := Nat.lt_of_lt_of_le hg bw.size
  have hwlt : w.heap.size < w1.heap.size := Nat.lt_of_lt_of_le RB.lt bA.size
  have hcall := hidR (three_in p q t g o c w2.heap.size w1 (by omega) ho ((bB.cell (p := ⟨g, o, none⟩) hg).trans c0) ((bB.cell (p := ⟨g, o + 1, none⟩) hg).trans c1) ((bB.cell (p := ⟨g, o + 2, none⟩) hg).trans c2) (Nat.lt_of_lt_of_le hg bB.size) zp zq zt RF (hv.below bB) (fun v => headP [p, q, t]) false (by exact headP3 p q t))
  generalize headP [p, q, t] = R at hcall ⊢
  clear RF c0 c1 c2 hv
  replace hw1 := hidR hw1
  replace hw2 := hidR hw2
  go_enter Tryz.func28, Tryz.ntmps28
  go_upto_region 1 with fail
  rw [hw2.out]
  go_wp2_with fail
  rw [hw1.out]
  refine Calls.mono hcall.out ?_
  rintro e y ⟨hE, b1⟩
  have bz := bB.trans (b1.mono bB.size)
  have bq := bA.trans (b1.mono bA.size)
  have RBy := RB.call bq
  clear hcall b1 hw1 hw2 bA RB 
  rcases hE with ⟨a, b, d, hR, e0, e1, e2, hlt, rfl⟩ | ⟨hR, rfl⟩
  · have hRR : Hid (HeadIn R (.returned (.tuple #[hdV a b d false, .bool true]))) := .inl ⟨a, b, d, false, hR, rfl⟩
    have hne : ¬ (w1.heap.size = w.heap.size) := by omega
    have hRd := RBy.call (Below.refl y.heap.size y).drew
    have L9 := hRd.setRow [.int .i64 a, .bool false, .int .i64 b, .slice none 0 0, .slice none 0 0, .slice none 0 0, .int .i64 d, .string ⟨#[]⟩, .slice none 0 0, .slice none 0 0] rfl
    have bf := below_row bz.drew (Nat.le_refl w.heap.size) #[.int .i64 a, .bool false, .int .i64 b, .slice none 0 0, .slice none 0 0, .slice none 0 0, .int .i64 d, .string ⟨#[]⟩, .slice none 0 0, .slice none 0 0]
    have hSd : y.drew.cell? ⟨w1.heap.size, 0, none⟩ = some (.int .i64 a) ∧ y.drew.cell? ⟨w1.heap.size, 1, none⟩ = some (.int .i64 b) ∧ y.drew.cell? ⟨w1.heap.size, 2, none⟩ = some (.int .i64 d) := ⟨e0, e1, e2⟩
    have hSe : (y.drew.setRow w.heap.size #[.int .i64 a, .bool false, .int .i64 b, .slice none 0 0, .slice none 0 0, .slice none 0 0, .int .i64 d, .string ⟨#[]⟩, .slice none 0 0, .slice none 0 0]).cell? ⟨w1.heap.size, 0, none⟩ = some (.int .i64 a) ∧ (y.drew.setRow w.heap.size #[.int .i64 a, .bool false, .int .i64 b, .slice none 0 0, .slice none 0 0, .slice none 0 0, .int .i64 d, .string ⟨#[]⟩, .slice none 0 0, .slice none 0 0]).cell? ⟨w1.heap.size, 1, none⟩ = some (.int .i64 b) ∧ (y.drew.setRow w.heap.size #[.int .i64 a, .bool false, .int .i64 b, .slice none 0 0, .slice none 0 0, .slice none 0 0, .int .i64 d, .string ⟨#[]⟩, .slice none 0 0, .slice none 0 0]).cell? ⟨w1.heap.size, 2, none⟩ = some (.int .i64 d) := ⟨(World.cell?_of_block (setRow_other _ _ _ _ hne)).trans e0, (World.cell?_of_block (setRow_other _ _ _ _ hne)).trans e1, (World.cell?_of_block (setRow_other _ _ _ _ hne)).trans e2⟩
    replace hRd := hidR hRd
    replace L9 := hidR L9
    clear hR
    go_upto_region 7 with fail
    refine wp_region_held_drew (S := fun z => z.cell? ⟨w1.heap.size, 0, none⟩ = some (.int .i64 a) ∧ z.cell? ⟨w1.heap.size, 1, none⟩ = some (.int .i64 b) ∧ z.cell? ⟨w1.heap.size, 2, none⟩ = some (.int .i64 d)) (by kernel_rfl) hSd (fun hH => ?_)
    clear hH
    refine take_dst 0 28 (.slice (some ⟨w1.heap.size, 0, none⟩) 3 3) rfl (by kernel_rfl) (by kernel_rfl) (by kernel_rfl) (fun _ _ _ h => h) (Or.inl ⟨by rfl, by intro wv hSv; (try dsimp only at hSv); go_simp⟩) hSd rfl ?_
    try simp only [Act.put, List.setIfInBounds_toArray, List.set_cons_zero, List.set_cons_succ]
    refine take_dst 1 29 (.pointer (some ⟨w1.heap.size, 0, none⟩)) rfl (by kernel_rfl) (by kernel_rfl) (by kernel_rfl) (fun _ _ _ h => h) (Or.inl ⟨by rfl, by intro wv hSv; (try dsimp only at hSv); go_simp⟩) hSd rfl ?_
    try simp only [Act.put, List.setIfInBounds_toArray, List.set_cons_zero, List.set_cons_succ]
    refine take_dst 2 30 (.int .i64 a) rfl (by kernel_rfl) (by kernel_rfl) (by kernel_rfl) (fun _ _ _ h => h) (Or.inl ⟨by rfl, by intro wv hSv; (try dsimp only at hSv); go_simp⟩) hSd rfl ?_
    try simp only [Act.put, List.setIfInBounds_toArray, List.set_cons_zero, List.set_cons_succ]
    refine take_dst 3 31 (.slice (some ⟨w1.heap.size, 0, none⟩) 3 3) rfl (by kernel_rfl) (by kernel_rfl) (by kernel_rfl) (fun _ _ _ h => h) (Or.inl ⟨by rfl, by intro wv hSv; (try dsimp only at hSv); go_simp⟩) hSd rfl ?_
    try simp only [Act.put, List.setIfInBounds_toArray, List.set_cons_zero, List.set_cons_succ]
    refine take_dst 4 32 (.pointer (some ⟨w1.heap.size, 1, none⟩)) rfl (by kernel_rfl) (by kernel_rfl) (by kernel_rfl) (fun _ _ _ h => h) (Or.inl ⟨by rfl, by intro wv hSv; (try dsimp only at hSv); go_simp⟩) hSd rfl ?_
    try simp only [Act.put, List.setIfInBounds_toArray, List.set_cons_zero, List.set_cons_succ]
    refine take_dst 5 33 (.int .i64 b) rfl (by kernel_rfl) (by kernel_rfl) (by kernel_rfl) (fun _ _ _ h => h) (Or.inl ⟨by rfl, by intro wv hSv; (try dsimp only at hSv); go_simp⟩) hSd rfl ?_
    try simp only [Act.put, List.setIfInBounds_toArray, List.set_cons_zero, List.set_cons_succ]
    refine take_dst 6 34 (.slice (some ⟨w1.heap.size, 0, none⟩) 3 3) rfl (by kernel_rfl) (by kernel_rfl) (by kernel_rfl) (fun _ _ _ h => h) (Or.inl ⟨by rfl, by intro wv hSv; (try dsimp only at hSv); go_simp⟩) hSd rfl ?_
    try simp only [Act.put, List.setIfInBounds_toArray, List.set_cons_zero, List.set_cons_succ]
    refine take_dst 7 35 (.pointer (some ⟨w1.heap.size, 2, none⟩)) rfl (by kernel_rfl) (by kernel_rfl) (by kernel_rfl) (fun _ _ _ h => h) (Or.inl ⟨by rfl, by intro wv hSv; (try dsimp only at hSv); go_simp⟩) hSd rfl ?_
    try simp only [Act.put, List.setIfInBounds_toArray, List.set_cons_zero, List.set_cons_succ]
    refine take_dst 8 36 (.int .i64 d) rfl (by kernel_rfl) (by kernel_rfl) (by kernel_rfl) (fun _ _ _ h => h) (Or.inl ⟨by rfl, by intro wv hSv; (try dsimp only at hSv); go_simp⟩) hSd rfl ?_
    try simp only [Act.put, List.setIfInBounds_toArray, List.set_cons_zero, List.set_cons_succ]
    refine take_dst 9 37 (.bool false) rfl (by kernel_rfl) (by kernel_rfl) (by kernel_rfl) (fun _ _ _ h => h) (Or.inl ⟨by rfl, by intro wv hSv; (try dsimp only at hSv); go_simp⟩) hSd rfl ?_
    try simp only [Act.put, List.setIfInBounds_toArray, List.set_cons_zero, List.set_cons_succ]
    refine take_dst 10 38 (.agg #[.int .i64 a, .bool false, .int .i64 b, .slice none 0 0, .slice none 0 0, .slice none 0 0, .int .i64 d, .string ⟨#[]⟩, .slice none 0 0, .slice none 0 0]) rfl (by kernel_rfl) (by kernel_rfl) (by kernel_rfl) (fun _ _ _ h => h) (Or.inl ⟨by rfl, by intro wv hSv; (try dsimp only at hSv); go_simp⟩) hSd rfl ?_
    try simp only [Act.put, List.setIfInBounds_toArray, List.set_cons_zero, List.set_cons_succ]
    refine ready_storeL 11 (by kernel_rfl) rfl 53 (.tmp 2) (.tmp 38) rfl rfl rfl w.heap.size _ [.int .i64 a, .bool false, .int .i64 b, .slice none 0 0, .slice none 0 0, .slice none 0 0, .int .i64 d, .string ⟨#[]⟩, .slice none 0 0, .slice none 0 0] rfl rfl _ hRd.out infP1 rfl (by simp [Value.oneCell']) hSe ?_
    refine take_dst 12 3 (.bool true) rfl (by kernel_rfl) (by kernel_rfl) (by kernel_rfl) (fun _ _ _ h => h) (Or.inl ⟨by rfl, by intro wv hSv; (try dsimp only at hSv); go_simp⟩) hSe rfl ?_
    try simp only [Act.put, List.setIfInBounds_toArray, List.set_cons_zero, List.set_cons_succ]
    refine wpAnyH_done (by kernel_rfl) ?_ _
    go_wp2_with fail
    exact bodyPost_ret (v := .tuple #[hdV a b d false, .bool true]) (by simp [results, Tryz.results28, go_sem, L9.out.cell 0 rfl, L9.out.cell 1 rfl, L9.out.cell 2 rfl, L9.out.cell 3 rfl, L9.out.cell 4 rfl, L9.out.cell 5 rfl, L9.out.cell 6 rfl, L9.out.cell 7 rfl, L9.out.cell 8 rfl, L9.out.cell 9 rfl]) rfl ⟨hRR.out, bf⟩
  · have hRR : Hid (HeadIn R (.returned (.tuple #[hdV 0 0 0 false, .bool false]))) := .inr ⟨hR, rfl⟩
    have L9 := RBy.setRow [.int .i64 0, .bool false, .int .i64 0, .slice none 0 0, .slice none 0 0, .slice none 0 0, .int .i64 0, .string ⟨#[]⟩, .slice none 0 0, .slice none 0 0] rfl
    have bf := below_row bz (Nat.le_refl w.heap.size) #[.int .i64 0, .bool false, .int .i64 0, .slice none 0 0, .slice none 0 0, .slice none 0 0, .int .i64 0, .string ⟨#[]⟩, .slice none 0 0, .slice none 0 0]
    replace L9 := hidR L9
    obtain ⟨old, hold, hos, _⟩ := RBy
    clear hR
    go_upto_region 6 with fail
    go_wp2_with (refine wpList_store_row rfl 53 (.tmp 2) (.tmp 27) rfl w.heap.size #[.int .i64 0, .bool false, .int .i64 0, .slice none 0 0, .slice none 0 0, .slice none 0 0, .int .i64 0, .string ⟨#[]⟩, .slice none 0 0, .slice none 0 0] rfl rfl 53 old hold (by simpa using infP1) (by simp [hos]) (by simp [Value.oneCell']) ?_)
    exact bodyPost_ret (v := .tuple #[hdV 0 0 0 false, .bool false]) (by simp [results, Tryz.results28, go_sem, L9.out.cell 0 rfl, L9.out.cell 1 rfl, L9.out.cell 2 rfl, L9.out.cell 3 rfl, L9.out.cell 4 rfl, L9.out.cell 5 rfl, L9.out.cell 6 rfl, L9.out.cell 7 rfl, L9.out.cell 8 rfl, L9.out.cell 9 rfl]) rfl ⟨hRR.out, bf⟩
theorem headIn_4 (p q t : ByteArray) (g o c : Nat) (w : World) (hcap : 4 ≤ c) (ho : o ≤ 1000) (c0 : w.cell? ⟨g, o, none⟩ = some (.string p)) (c1 : w.cell? ⟨g, o + 1, none⟩ = some (.string q)) (c2 : w.cell? ⟨g, o + 2, none⟩ = some (.string t)) (c3 : w.cell? ⟨g, o + 3, none⟩ = some (.string varB)) (hg : g < w.heap.size)
    (zp : p.size ≤ 100000) (zq : q.size ≤ 100000) (zt : t.size ≤ 100000) (hv : Env w) :
    Calls Tryz.prog 28 #[.slice (some ⟨g, o, none⟩) 4 c] w fun e w' => HeadIn (headP [p, q, t, varB]) e ∧ Below w.heap.size w w' := by
  obtain ⟨w2, hw2⟩ : ∃ w2, w.alloc (.cells #[.int .i64 0, .bool false, .int .i64 0, .slice none 0 0, .slice none 0 0, .slice none 0 0, .int .i64 0, .string ⟨#[]⟩, .slice none 0 0, .slice none 0 0] 53) = w2 := ⟨_, rfl⟩
  have RB : RowL w2 w.heap.size 53 [.int .i64 0, .bool false, .int .i64 0, .slice none 0 0, .slice none 0 0, .slice none 0 0, .int .i64 0, .string ⟨#[]⟩, .slice none 0 0, .slice none 0 0] := by rw [← hw2]; exact RowL.new w _ _
  have bw : Below w.heap.size w w2 := by rw [← hw2]; exact (Below.refl _ _).alloc (Nat.le_refl _) _
  obtain ⟨w1, hw1⟩ : ∃ w1, w2.alloc (.cells #[.func (.func 70) #[] #[], .func (.func 70) #[] #[], .func (.func 70) #[] #[]] 104) = w1 := ⟨_, rfl⟩
  have bA : Below w2.heap.size w2 w1 := by rw [← hw1]; exact (Below.refl _ _).alloc (Nat.le_refl _) _
  have RF : RowL w1 w2.heap.size 104 [.func (.func 70) #[] #[], .func (.func 70) #[] #[], .func (.func 70) #[] #[]] := by rw [← hw1]; exact RowL.new w2 _ 104
  have bB : Below w.heap.size w w1 := bw.trans (bA.mono bw.size)
  have hg2 : g < w2.heap.size := Nat.lt_of_lt_of_le hg bw.size
  have hwlt : w.heap.size < w1.heap.size := Nat.lt_of_lt_of_le RB.lt bA.size
  have d3 : w2.cell? ⟨g, o + 3, none⟩ = some (.string ⟨#[118, 97, 114, 97, 114, 103]⟩) := (bw.cell (p := ⟨g, o + 3, none⟩) hg).trans c3
  have hcall := hidR (three_in p q t g o c w2.heap.size w1 (by omega) ho ((bB.cell (p := ⟨g, o, none⟩) hg).trans c0) ((bB.cell (p := ⟨g, o + 1, none⟩) hg).trans c1) ((bB.cell (p := ⟨g, o + 2, none⟩) hg).trans c2) (Nat.lt_of_lt_of_le hg bB.size) zp zq zt RF (hv.below bB) (fun v => headP [p, q, t, varB]) true (by show headP _ = _; rw [headP4, if_pos rfl]))
  generalize headP [p, q, t, varB] = R at hcall ⊢
  clear RF c0 c1 c2 c3 hv
  replace hw1 := hidR hw1
  replace hw2 := hidR hw2
  go_enter Tryz.func28, Tryz.ntmps28
  go_upto_region 1 with fail
  rw [hw2.out]
  go_wp2_with fail
  rw [hw1.out]
  refine Calls.mono hcall.out ?_
  rintro e y ⟨hE, b1⟩
  have bz := bB.trans (b1.mono bB.size)
  have bq := bA.trans (b1.mono bA.size)
  have RBy := RB.call bq
  clear hcall b1 hw1 hw2 bA RB d3
  rcases hE with ⟨a, b, d, hR, e0, e1, e2, hlt, rfl⟩ | ⟨hR, rfl⟩
  · have hRR : Hid (HeadIn R (.returned (.tuple #[hdV a b d true, .bool true]))) := .inl ⟨a, b, d, true, hR, rfl⟩
    have hne : ¬ (w1.heap.size = w.heap.size) := by omega
    have hRd := RBy.call (Below.refl y.heap.size y).drew
    have L9 := hRd.setRow [.int .i64 a, .bool true, .int .i64 b, .slice none 0 0, .slice none 0 0, .slice none 0 0, .int .i64 d, .string ⟨#[]⟩, .slice none 0 0, .slice none 0 0] rfl
    have bf := below_row bz.drew (Nat.le_refl w.heap.size) #[.int .i64 a, .bool true, .int .i64 b, .slice none 0 0, .slice none 0 0, .slice none 0 0, .int .i64 d, .string ⟨#[]⟩, .slice none 0 0, .slice none 0 0]
    have hSd : y.drew.cell? ⟨w1.heap.size, 0, none⟩ = some (.int .i64 a) ∧ y.drew.cell? ⟨w1.heap.size, 1, none⟩ = some (.int .i64 b) ∧ y.drew.cell? ⟨w1.heap.size, 2, none⟩ = some (.int .i64 d) := ⟨e0, e1, e2⟩
    have hSe : (y.drew.setRow w.heap.size #[.int .i64 a, .bool true, .int .i64 b, .slice none 0 0, .slice none 0 0, .slice none 0 0, .int .i64 d, .string ⟨#[]⟩, .slice none 0 0, .slice none 0 0]).cell? ⟨w1.heap.size, 0, none⟩ = some (.int .i64 a) ∧ (y.drew.setRow w.heap.size #[.int .i64 a, .bool true, .int .i64 b, .slice none 0 0, .slice none 0 0, .slice none 0 0, .int .i64 d, .string ⟨#[]⟩, .slice none 0 0, .slice none 0 0]).cell? ⟨w1.heap.size, 1, none⟩ = some (.int .i64 b) ∧ (y.drew.setRow w.heap.size #[.int .i64 a, .bool true, .int .i64 b, .slice none 0 0, .slice none 0 0, .slice none 0 0, .int .i64 d, .string ⟨#[]⟩, .slice none 0 0, .slice none 0 0]).cell? ⟨w1.heap.size, 2, none⟩ = some (.int .i64 d) := ⟨(World.cell?_of_block (setRow_other _ _ _ _ hne)).trans e0, (World.cell?_of_block (setRow_other _ _ _ _ hne)).trans e1, (World.cell?_of_block (setRow_other _ _ _ _ hne)).trans e2⟩
    replace hRd := hidR hRd
    replace L9 := hidR L9
    clear hR
    go_upto_region 7 with fail
    refine wp_region_held_drew (S := fun z => z.cell? ⟨w1.heap.size, 0, none⟩ = some (.int .i64 a) ∧ z.cell? ⟨w1.heap.size, 1, none⟩ = some (.int .i64 b) ∧ z.cell? ⟨w1.heap.size, 2, none⟩ = some (.int .i64 d)) (by kernel_rfl) hSd (fun hH => ?_)
    clear hH
    refine take_dst 0 28 (.slice (some ⟨w1.heap.size, 0, none⟩) 3 3) rfl (by kernel_rfl) (by kernel_rfl) (by kernel_rfl) (fun _ _ _ h => h) (Or.inl ⟨by rfl, by intro wv hSv; (try dsimp only at hSv); go_simp⟩) hSd rfl ?_
    try simp only [Act.put, List.setIfInBounds_toArray, List.set_cons_zero, List.set_cons_succ]
    refine take_dst 1 29 (.pointer (some ⟨w1.heap.size, 0, none⟩)) rfl (by kernel_rfl) (by kernel_rfl) (by kernel_rfl) (fun _ _ _ h => h) (Or.inl ⟨by rfl, by intro wv hSv; (try dsimp only at hSv); go_simp⟩) hSd rfl ?_
    try simp only [Act.put, List.setIfInBounds_toArray, List.set_cons_zero, List.set_cons_succ]
    refine take_dst 2 30 (.int .i64 a) rfl (by kernel_rfl) (by kernel_rfl) (by kernel_rfl) (fun _ _ _ h => h) (Or.inl ⟨by rfl, by intro wv hSv; (try dsimp only at hSv); go_simp⟩) hSd rfl ?_
    try simp only [Act.put, List.setIfInBounds_toArray, List.set_cons_zero, List.set_cons_succ]
    refine take_dst 3 31 (.slice (some ⟨w1.heap.size, 0, none⟩) 3 3) rfl (by kernel_rfl) (by kernel_rfl) (by kernel_rfl) (fun _ _ _ h => h) (Or.inl ⟨by rfl, by intro wv hSv; (try dsimp only at hSv); go_simp⟩) hSd rfl ?_
    try simp only [Act.put, List.setIfInBounds_toArray, List.set_cons_zero, List.set_cons_succ]
    refine take_dst 4 32 (.pointer (some ⟨w1.heap.size, 1, none⟩)) rfl (by kernel_rfl) (by kernel_rfl) (by kernel_rfl) (fun _ _ _ h => h) (Or.inl ⟨by rfl, by intro wv hSv; (try dsimp only at hSv); go_simp⟩) hSd rfl ?_
    try simp only [Act.put, List.setIfInBounds_toArray, List.set_cons_zero, List.set_cons_succ]
    refine take_dst 5 33 (.int .i64 b) rfl (by kernel_rfl) (by kernel_rfl) (by kernel_rfl) (fun _ _ _ h => h) (Or.inl ⟨by rfl, by intro wv hSv; (try dsimp only at hSv); go_simp⟩) hSd rfl ?_
    try simp only [Act.put, List.setIfInBounds_toArray, List.set_cons_zero, List.set_cons_succ]
    refine take_dst 6 34 (.slice (some ⟨w1.heap.size, 0, none⟩) 3 3) rfl (by kernel_rfl) (by kernel_rfl) (by kernel_rfl) (fun _ _ _ h => h) (Or.inl ⟨by rfl, by intro wv hSv; (try dsimp only at hSv); go_simp⟩) hSd rfl ?_
    try simp only [Act.put, List.setIfInBounds_toArray, List.set_cons_zero, List.set_cons_succ]
    refine take_dst 7 35 (.pointer (some ⟨w1.heap.size, 2, none⟩)) rfl (by kernel_rfl) (by kernel_rfl) (by kernel_rfl) (fun _ _ _ h => h) (Or.inl ⟨by rfl, by intro wv hSv; (try dsimp only at hSv); go_simp⟩) hSd rfl ?_
    try simp only [Act.put, List.setIfInBounds_toArray, List.set_cons_zero, List.set_cons_succ]
    refine take_dst 8 36 (.int .i64 d) rfl (by kernel_rfl) (by kernel_rfl) (by kernel_rfl) (fun _ _ _ h => h) (Or.inl ⟨by rfl, by intro wv hSv; (try dsimp only at hSv); go_simp⟩) hSd rfl ?_
    try simp only [Act.put, List.setIfInBounds_toArray, List.set_cons_zero, List.set_cons_succ]
    refine take_dst 9 37 (.bool true) rfl (by kernel_rfl) (by kernel_rfl) (by kernel_rfl) (fun _ _ _ h => h) (Or.inl ⟨by rfl, by intro wv hSv; (try dsimp only at hSv); go_simp⟩) hSd rfl ?_
    try simp only [Act.put, List.setIfInBounds_toArray, List.set_cons_zero, List.set_cons_succ]
    refine take_dst 10 38 (.agg #[.int .i64 a, .bool true, .int .i64 b, .slice none 0 0, .slice none 0 0, .slice none 0 0, .int .i64 d, .string ⟨#[]⟩, .slice none 0 0, .slice none 0 0]) rfl (by kernel_rfl) (by kernel_rfl) (by kernel_rfl) (fun _ _ _ h => h) (Or.inl ⟨by rfl, by intro wv hSv; (try dsimp only at hSv); go_simp⟩) hSd rfl ?_
    try simp only [Act.put, List.setIfInBounds_toArray, List.set_cons_zero, List.set_cons_succ]
    refine ready_storeL 11 (by kernel_rfl) rfl 53 (.tmp 2) (.tmp 38) rfl rfl rfl w.heap.size _ [.int .i64 a, .bool true, .int .i64 b, .slice none 0 0, .slice none 0 0, .slice none 0 0, .int .i64 d, .string ⟨#[]⟩, .slice none 0 0, .slice none 0 0] rfl rfl _ hRd.out infP1 rfl (by simp [Value.oneCell']) hSe ?_
    refine take_dst 12 3 (.bool true) rfl (by kernel_rfl) (by kernel_rfl) (by kernel_rfl) (fun _ _ _ h => h) (Or.inl ⟨by rfl, by intro wv hSv; (try dsimp only at hSv); go_simp⟩) hSe rfl ?_
    try simp only [Act.put, List.setIfInBounds_toArray, List.set_cons_zero, List.set_cons_succ]
    refine wpAnyH_done (by kernel_rfl) ?_ _
    go_wp2_with fail
    exact bodyPost_ret (v := .tuple #[hdV a b d true, .bool true]) (by simp [results, Tryz.results28, go_sem, L9.out.cell 0 rfl, L9.out.cell 1 rfl, L9.out.cell 2 rfl, L9.out.cell 3 rfl, L9.out.cell 4 rfl, L9.out.cell 5 rfl, L9.out.cell 6 rfl, L9.out.cell 7 rfl, L9.out.cell 8 rfl, L9.out.cell 9 rfl]) rfl ⟨hRR.out, bf⟩
  · have hRR : Hid (HeadIn R (.returned (.tuple #[hdV 0 0 0 false, .bool false]))) := .inr ⟨hR, rfl⟩
    have L9 := RBy.setRow [.int .i64 0, .bool false, .int .i64 0, .slice none 0 0, .slice none 0 0, .slice none 0 0, .int .i64 0, .string ⟨#[]⟩, .slice none 0 0, .slice none 0 0] rfl
    have bf := below_row bz (Nat.le_refl w.heap.size) #[.int .i64 0, .bool false, .int .i64 0, .slice none 0 0, .slice none 0 0, .slice none 0 0, .int .i64 0, .string ⟨#[]⟩, .slice none 0 0, .slice none 0 0]
    replace L9 := hidR L9
    obtain ⟨old, hold, hos, _⟩ := RBy
    clear hR
    go_upto_region 6 with fail
    go_wp2_with (refine wpList_store_row rfl 53 (.tmp 2) (.tmp 27) rfl w.heap.size #[.int .i64 0, .bool false, .int .i64 0, .slice none 0 0, .slice none 0 0, .slice none 0 0, .int .i64 0, .string ⟨#[]⟩, .slice none 0 0, .slice none 0 0] rfl rfl 53 old hold (by simpa using infP1) (by simp [hos]) (by simp [Value.oneCell']) ?_)
    exact bodyPost_ret (v := .tuple #[hdV 0 0 0 false, .bool false]) (by simp [results, Tryz.results28, go_sem, L9.out.cell 0 rfl, L9.out.cell 1 rfl, L9.out.cell 2 rfl, L9.out.cell 3 rfl, L9.out.cell 4 rfl, L9.out.cell 5 rfl, L9.out.cell 6 rfl, L9.out.cell 7 rfl, L9.out.cell 8 rfl, L9.out.cell 9 rfl]) rfl ⟨hRR.out, bf⟩
end
section
open Go.RowKit Go.Shelf
set_option linter.unusedVariables false
set_option linter.unusedSimpArgs false
set_option maxRecDepth 100000
set_option maxHeartbeats 4000000
theorem headIn_no4 (p q t v : ByteArray) (hvb : v ≠ varB) (g o c : Nat) (w : World) (c3 : w.cell? ⟨g, o + 3, none⟩ = some (.string v)) (hg : g < w.heap.size) :
    Calls Tryz.prog 28 #[.slice (some ⟨g, o, none⟩) 4 c] w fun e w' => HeadIn (headP [p, q, t, v]) e ∧ Below w.heap.size w w' := by
  have hRR : Hid (HeadIn (headP [p, q, t, v]) (.returned (.tuple #[hdV 0 0 0 false, .bool false]))) := .inr ⟨by rw [headP4, if_neg hvb], rfl⟩
  have hbe : (v.toList == [118, 97, 114, 97, 114, 103]) = false := lit_no (q := varB) rfl hvb
  obtain ⟨w2, hw2⟩ : ∃ w2, w.alloc (.cells #[.int .i64 0, .bool false, .int .i64 0, .slice none 0 0, .slice none 0 0, .slice none 0 0, .int .i64 0, .string ⟨#[]⟩, .slice none 0 0, .slice none 0 0] 53) = w2 := ⟨_, rfl⟩
  have RB : RowL w2 w.heap.size 53 [.int .i64 0, .bool false, .int .i64 0, .slice none 0 0, .slice none 0 0, .slice none 0 0, .int .i64 0, .string ⟨#[]⟩, .slice none 0 0, .slice none 0 0] := by rw [← hw2]; exact RowL.new w _ _
  have bw : Below w.heap.size w w2 := by rw [← hw2]; exact (Below.refl _ _).alloc (Nat.le_refl _) _
  obtain ⟨w1, hw1⟩ : ∃ w1, w2.alloc (.cells #[.func (.func 70) #[] #[], .func (.func 70) #[] #[], .func (.func 70) #[] #[]] 104) = w1 := ⟨_, rfl⟩
  have bA : Below w2.heap.size w2 w1 := by rw [← hw1]; exact (Below.refl _ _).alloc (Nat.le_refl _) _
  have bB : Below w.heap.size w w1 := bw.trans (bA.mono bw.size)
  have hg2 : g < w2.heap.size := Nat.lt_of_lt_of_le hg bw.size
  have d3 : w2.cell? ⟨g, o + 3, none⟩ = some (.string v) := (bw.cell (p := ⟨g, o + 3, none⟩) hg).trans c3
  clear c3
  have hcall : Hid (Calls Tryz.prog 69 #[.slice (some ⟨g, o, none⟩) 4 c, .slice (some ⟨w2.heap.size, 0, none⟩) 3 3] w1 fun e w' => e = .returned (.tuple #[.slice none 0 0, .bool false]) ∧ Below w1.heap.size w1 w') :=
    numbersIn_len [p, q, t, v] fitsN (some ⟨g, o, none⟩) (some ⟨w2.heap.size, 0, none⟩) c 3 w1 (by simp [fitsN]) (by simp) (by simp [fitsN])
  generalize headP [p, q, t, v] = R at hRR ⊢
  replace hw1 := hidR hw1
  replace hw2 := hidR hw2
  go_enter Tryz.func28, Tryz.ntmps28
  go_upto_region 1 with fail
  rw [hw2.out]
  go_wp2_with fail
  rw [hw1.out]
  refine Calls.mono hcall.out ?_
  rintro e y ⟨rfl, b1⟩
  have bz := bB.trans (b1.mono bB.size)
  have bq := bA.trans (b1.mono bA.size)
  have RBy := RB.call bq
  clear hcall b1 hw1 hw2 bA RB
  have L9 := RBy.setRow [.int .i64 0, .bool false, .int .i64 0, .slice none 0 0, .slice none 0 0, .slice none 0 0, .int .i64 0, .string ⟨#[]⟩, .slice none 0 0, .slice none 0 0] rfl
  have bf := below_row bz (Nat.le_refl w.heap.size) #[.int .i64 0, .bool false, .int .i64 0, .slice none 0 0, .slice none 0 0, .slice none 0 0, .int .i64 0, .string ⟨#[]⟩, .slice none 0 0, .slice none 0 0]
  replace L9 := hidR L9
  obtain ⟨old, hold, hos, _⟩ := RBy
  go_upto_region 6 with fail
  go_wp2_with (refine wpList_store_row rfl 53 (.tmp 2) (.tmp 27) rfl w.heap.size #[.int .i64 0, .bool false, .int .i64 0, .slice none 0 0, .slice none 0 0, .slice none 0 0, .int .i64 0, .string ⟨#[]⟩, .slice none 0 0, .slice none 0 0] rfl rfl 53 old hold (by simpa using infP1) (by simp [hos]) (by simp [Value.oneCell']) ?_)
  exact bodyPost_ret (v := .tuple #[hdV 0 0 0 false, .bool false]) (by simp [results, Tryz.results28, go_sem, L9.out.cell 0 rfl, L9.out.cell 1 rfl, L9.out.cell 2 rfl, L9.out.cell 3 rfl, L9.out.cell 4 rfl, L9.out.cell 5 rfl, L9.out.cell 6 rfl, L9.out.cell 7 rfl, L9.out.cell 8 rfl, L9.out.cell 9 rfl]) rfl ⟨hRR.out, bf⟩
theorem headIn_len (r : List ByteArray) (g o c : Nat) (w : World) (hl1 : r.length ≠ 3) (hl2 : r.length ≠ 4) (hN : r.length ≤ 100000) :
    Calls Tryz.prog 28 #[.slice (some ⟨g, o, none⟩) r.length c] w fun e w' => HeadIn (headP r) e ∧ Below w.heap.size w w' := by
  have hRR : Hid (HeadIn (headP r) (.returned (.tuple #[hdV 0 0 0 false, .bool false]))) := by
    refine .inr ⟨?_, rfl⟩
    unfold headP
    split
    · exact absurd rfl hl1
    · exact absurd rfl hl2
    · rfl
  have hlb : ((r.length : Int) == 4) = false := by simp; omega
  obtain ⟨w2, hw2⟩ : ∃ w2, w.alloc (.cells #[.int .i64 0, .bool false, .int .i64 0, .slice none 0 0, .slice none 0 0, .slice none 0 0, .int .i64 0, .string ⟨#[]⟩, .slice none 0 0, .slice none 0 0] 53) = w2 := ⟨_, rfl⟩
  have RB : RowL w2 w.heap.size 53 [.int .i64 0, .bool false, .int .i64 0, .slice none 0 0, .slice none 0 0, .slice none 0 0, .int .i64 0, .string ⟨#[]⟩, .slice none 0 0, .slice none 0 0] := by rw [← hw2]; exact RowL.new w _ _
  have bw : Below w.heap.size w w2 := by rw [← hw2]; exact (Below.refl _ _).alloc (Nat.le_refl _) _
  obtain ⟨w1, hw1⟩ : ∃ w1, w2.alloc (.cells #[.func (.func 70) #[] #[], .func (.func 70) #[] #[], .func (.func 70) #[] #[]] 104) = w1 := ⟨_, rfl⟩
  have bA : Below w2.heap.size w2 w1 := by rw [← hw1]; exact (Below.refl _ _).alloc (Nat.le_refl _) _
  have bB : Below w.heap.size w w1 := bw.trans (bA.mono bw.size)
  have hcall : Hid (Calls Tryz.prog 69 #[.slice (some ⟨g, o, none⟩) r.length c, .slice (some ⟨w2.heap.size, 0, none⟩) 3 3] w1 fun e w' => e = .returned (.tuple #[.slice none 0 0, .bool false]) ∧ Below w1.heap.size w1 w') :=
    numbersIn_len r fitsN (some ⟨g, o, none⟩) (some ⟨w2.heap.size, 0, none⟩) c 3 w1 (by exact hl1) (by exact hN) (by simp [fitsN])
  generalize headP r = R at hRR ⊢
  generalize r.length = n at *
  replace hw1 := hidR hw1
  replace hw2 := hidR hw2
  go_enter Tryz.func28, Tryz.ntmps28
  go_upto_region 1 with fail
  rw [hw2.out]
  go_wp2_with fail
  rw [hw1.out]
  refine Calls.mono hcall.out ?_
  rintro e y ⟨rfl, b1⟩
  have bz := bB.trans (b1.mono bB.size)
  have bq := bA.trans (b1.mono bA.size)
  have RBy := RB.call bq
  clear hcall b1 hw1 hw2 bA RB
  have L9 := RBy.setRow [.int .i64 0, .bool false, .int .i64 0, .slice none 0 0, .slice none 0 0, .slice none 0 0, .int .i64 0, .string ⟨#[]⟩, .slice none 0 0, .slice none 0 0] rfl
  have bf := below_row bz (Nat.le_refl w.heap.size) #[.int .i64 0, .bool false, .int .i64 0, .slice none 0 0, .slice none 0 0, .slice none 0 0, .int .i64 0, .string ⟨#[]⟩, .slice none 0 0, .slice none 0 0]
  replace L9 := hidR L9
  obtain ⟨old, hold, hos, _⟩ := RBy
  go_upto_region 6 with fail
  go_wp2_with (refine wpList_store_row rfl 53 (.tmp 2) (.tmp 27) rfl w.heap.size #[.int .i64 0, .bool false, .int .i64 0, .slice none 0 0, .slice none 0 0, .slice none 0 0, .int .i64 0, .string ⟨#[]⟩, .slice none 0 0, .slice none 0 0] rfl rfl 53 old hold (by simpa using infP1) (by simp [hos]) (by simp [Value.oneCell']) ?_)
  exact bodyPost_ret (v := .tuple #[hdV 0 0 0 false, .bool false]) (by simp [results, Tryz.results28, go_sem, L9.out.cell 0 rfl, L9.out.cell 1 rfl, L9.out.cell 2 rfl, L9.out.cell 3 rfl, L9.out.cell 4 rfl, L9.out.cell 5 rfl, L9.out.cell 6 rfl, L9.out.cell 7 rfl, L9.out.cell 8 rfl, L9.out.cell 9 rfl]) rfl ⟨hRR.out, bf⟩
theorem headIn_in (r : List ByteArray) (g o c : Nat) (w : World) (hcap : r.length ≤ c) (ho : o ≤ 1000) (hN : r.length ≤ 100000)
    (hc : ∀ (j : Nat) x, r[j]? = some x → w.cell? ⟨g, o + j, none⟩ = some (.string x)) (hg : g < w.heap.size) (hz : ∀ x ∈ r, x.size ≤ 100000) (hv : Env w) :
    Calls Tryz.prog 28 #[.slice (some ⟨g, o, none⟩) r.length c] w fun e w' => HeadIn (headP r) e ∧ Below w.heap.size w w' := by
  by_cases hl1 : r.length = 3
  · match r, hl1, hc, hz, hcap with
    | [p, q, t], _, hc, hz, hcap => exact headIn_3 p q t g o c w hcap ho (hc 0 p rfl) (hc 1 q rfl) (hc 2 t rfl) hg (hz p (by simp)) (hz q (by simp)) (hz t (by simp)) hv
  by_cases hl2 : r.length = 4
  · match r, hl2, hc, hz, hcap with
    | [p, q, t, v], _, hc, hz, hcap =>
      by_cases hvb : v = varB
      · subst hvb
        exact headIn_4 p q t g o c w hcap ho (hc 0 p rfl) (hc 1 q rfl) (hc 2 t rfl) (hc 3 varB rfl) hg (hz p (by simp)) (hz q (by simp)) (hz t (by simp)) hv
      · exact headIn_no4 p q t v hvb g o c w (hc 3 v rfl) hg
  · exact headIn_len r g o c w hl1 hl2 hN
end
end Go.Proofs.YtkanjbopfflioaaGreatDoor

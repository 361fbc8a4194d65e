import Derived.Test.YtkanjbopfflioaaGreatDoorAsK
namespace Go.Proofs.YtkanjbopfflioaaGreatDoor
open Go.RowKit Go.Shelf
set_option linter.unusedVariables false
set_option linter.unusedSimpArgs false
set_option maxRecDepth 100000
set_option maxHeartbeats 4000000
def varB : ByteArray := ⟨#[118, 97, 114, 97, 114, 103]⟩
/-- a prototype without lists. -/
def bareP (a b c : Int) (v : Bool) : PD := ⟨a, v, b, ⟨0, fun _ => 0⟩, ⟨0, fun _ => ⟨0, 0, ⟨#[]⟩⟩⟩, ⟨0, fun _ => ⟨false, 0⟩⟩, c, ⟨#[]⟩, ⟨0, fun _ => 0⟩, ⟨0, fun _ => ⟨#[]⟩⟩⟩
abbrev hdV (a b c : Int) (v : Bool) : Value := .agg #[.int .i64 a, .bool v, .int .i64 b, .slice none 0 0, .slice none 0 0, .slice none 0 0, .int .i64 c, .string ⟨#[]⟩, .slice none 0 0, .slice none 0 0]
/-- what a line proto says. -/
noncomputable def headP (r : List ByteArray) : Option PD := match r with
  | [p, q, t] => if 0 ≤ natOf p 16777215 ∧ 0 ≤ natOf q 16777215 ∧ 0 ≤ natOf t 16777215 then some (bareP (natOf p 16777215) (natOf q 16777215) (natOf t 16777215) false) else none
  | [p, q, t, v] => if v = varB then (if 0 ≤ natOf p 16777215 ∧ 0 ≤ natOf q 16777215 ∧ 0 ≤ natOf t 16777215 then some (bareP (natOf p 16777215) (natOf q 16777215) (natOf t 16777215) true) else none) else none
  | _ => none
theorem headP3 (p q t : ByteArray) : headP [p, q, t] = if 0 ≤ natOf p 16777215 ∧ 0 ≤ natOf q 16777215 ∧ 0 ≤ natOf t 16777215 then some (bareP (natOf p 16777215) (natOf q 16777215) (natOf t 16777215) false) else none := rfl
theorem headP4 (p q t v : ByteArray) : headP [p, q, t, v] = if v = varB then (if 0 ≤ natOf p 16777215 ∧ 0 ≤ natOf q 16777215 ∧ 0 ≤ natOf t 16777215 then some (bareP (natOf p 16777215) (natOf q 16777215) (natOf t 16777215) true) else none) else none := rfl
def HeadEnds (r : List ByteArray) (e : Ending) : Prop := ∃ (a b c : Int) (v bo : Bool), e = .returned (.tuple #[hdV a b c v, .bool bo]) ∧ (bo = true → headP r = some (bareP a b c v)) ∧ (bo = false → headP r = none)
theorem head4 (p1 p2 p3 : ByteArray) (g c : Nat) (w : World) (c1 : w.cell? ⟨g, 1, none⟩ = some (.string p1)) (c2 : w.cell? ⟨g, 2, none⟩ = some (.string p2)) (c3 : w.cell? ⟨g, 3, none⟩ = some (.string p3)) (hg : g < w.heap.size) (z1 : p1.size ≤ 100000) (z2 : p2.size ≤ 100000) (z3 : p3.size ≤ 100000) :
    Calls Tryz.prog 20 #[.slice (some ⟨g, 0, none⟩) 4 c] w fun e w' => HeadEnds [p1, p2, p3] e ∧ Below w.heap.size w w' := by
  have hn1 := hidR (fun y : World => l6Natural_in p1 z1 16777215 (by omega) (by omega) y)
  have hn2 := hidR (fun y : World => l6Natural_in p2 z2 16777215 (by omega) (by omega) y)
  have hn3 := hidR (fun y : World => l6Natural_in p3 z3 16777215 (by omega) (by omega) y)
  have hb1 := natOf_bd p1 (hi := 16777215) (by omega)
  have hb2 := natOf_bd p2 (hi := 16777215) (by omega)
  have hb3 := natOf_bd p3 (hi := 16777215) (by omega)
  have hR0 := hidR (headP3 p1 p2 p3)
  generalize natOf p1 16777215 = a at hn1 hb1 hR0
  generalize natOf p2 16777215 = b at hn2 hb2 hR0
  generalize natOf p3 16777215 = d at hn3 hb3 hR0
  go_enter Tryz.func20, Tryz.ntmps20
  go_upto_region 1 with fail
  have RB := RowL.new w [.int .i64 0, .bool false, .int .i64 0, .slice none 0 0, .slice none 0 0, .slice none 0 0, .int .i64 0, .string ⟨#[]⟩, .slice none 0 0, .slice none 0 0] 53
  have bw : Below w.heap.size w (w.alloc (.cells #[.int .i64 0, .bool false, .int .i64 0, .slice none 0 0, .slice none 0 0, .slice none 0 0, .int .i64 0, .string ⟨#[]⟩, .slice none 0 0, .slice none 0 0] 53)) := (Below.refl _ _).alloc (Nat.le_refl _) _
  generalize w.alloc (.cells #[.int .i64 0, .bool false, .int .i64 0, .slice none 0 0, .slice none 0 0, .slice none 0 0, .int .i64 0, .string ⟨#[]⟩, .slice none 0 0, .slice none 0 0] 53) = w2 at RB bw ⊢
  have hg2 : g < w2.heap.size := Nat.lt_of_lt_of_le hg bw.size
  have d1 := (bw.cell (p := ⟨g, 1, none⟩) hg).trans c1
  have d2 := (bw.cell (p := ⟨g, 2, none⟩) hg).trans c2
  have d3 := (bw.cell (p := ⟨g, 3, none⟩) hg).trans c3
  clear c1 c2 c3
  have hSk : Hid (∀ y, Below w2.heap.size w2 y → (y.cell? ⟨g, 1, none⟩ = some (.string p1) ∧ y.cell? ⟨g, 2, none⟩ = some (.string p2) ∧ y.cell? ⟨g, 3, none⟩ = some (.string p3))) := fun y hy => ⟨(hy.cell (p := ⟨g, 1, none⟩) hg2).trans d1, (hy.cell (p := ⟨g, 2, none⟩) hg2).trans d2, (hy.cell (p := ⟨g, 3, none⟩) hg2).trans d3⟩
  go_upto_region 3 with fail
  clear d1 d2 d3
  replace RB := hidR RB
  replace bw := hidR bw
  go_cut [4] from 5 (fun u wr => ∃ UB, u = .pointer (some ⟨UB, 0, none⟩) ∧ w2.heap.size ≤ UB ∧ Hid (RowL wr UB 53 [.int .i64 a, .bool false, .int .i64 b, .slice none 0 0, .slice none 0 0, .slice none 0 0, .int .i64 d, .string ⟨#[]⟩, .slice none 0 0, .slice none 0 0] ∧ Below w2.heap.size w2 wr))
  case first =>
    have bY0 : Below w2.heap.size w2 w2.drew := (Below.refl _ _).drew
    have hS0 := hSk.out _ bY0
    refine wp_region_held_drew (S := fun y => y.cell? ⟨g, 1, none⟩ = some (.string p1) ∧ y.cell? ⟨g, 2, none⟩ = some (.string p2) ∧ y.cell? ⟨g, 3, none⟩ = some (.string p3)) (by kernel_rfl) hS0 (fun hH => ?_)
    clear hH
    generalize w2.drew = yd at bY0 hS0 ⊢
    refine take_dst 0 14 (.slice (some ⟨g, 0, none⟩) 4 c) rfl (by kernel_rfl) (by kernel_rfl) (by kernel_rfl) (fun _ _ _ h => h) (Or.inl ⟨by rfl, by intro wv hSv; (try dsimp only at hSv); go_simp⟩) hS0 rfl ?_
    try simp only [Act.put, List.setIfInBounds_toArray, List.set_cons_zero, List.set_cons_succ]
    refine take_dst 1 15 (.int .i64 4) rfl (by kernel_rfl) (by kernel_rfl) (by kernel_rfl) (fun _ _ _ h => h) (Or.inl ⟨by rfl, by intro wv hSv; (try dsimp only at hSv); go_simp⟩) hS0 rfl ?_
    try simp only [Act.put, List.setIfInBounds_toArray, List.set_cons_zero, List.set_cons_succ]
    refine take_dst 2 16 (.bool false) rfl (by kernel_rfl) (by kernel_rfl) (by kernel_rfl) (fun _ _ _ h => h) (Or.inl ⟨by rfl, by intro wv hSv; (try dsimp only at hSv); go_simp⟩) hS0 rfl ?_
    try simp only [Act.put, List.setIfInBounds_toArray, List.set_cons_zero, List.set_cons_succ]
    refine take_dst 3 17 (.slice (some ⟨g, 0, none⟩) 4 c) rfl (by kernel_rfl) (by kernel_rfl) (by kernel_rfl) (fun _ _ _ h => h) (Or.inl ⟨by rfl, by intro wv hSv; (try dsimp only at hSv); go_simp⟩) hS0 rfl ?_
    try simp only [Act.put, List.setIfInBounds_toArray, List.set_cons_zero, List.set_cons_succ]
    refine take_dst 4 18 (.pointer (some ⟨g, 1, none⟩)) rfl (by kernel_rfl) (by kernel_rfl) (by kernel_rfl) (fun _ _ _ h => h) (Or.inl ⟨by rfl, by intro wv hSv; (try dsimp only at hSv); go_simp⟩) hS0 rfl ?_
    try simp only [Act.put, List.setIfInBounds_toArray, List.set_cons_zero, List.set_cons_succ]
    refine take_dst 5 19 (.string p1) rfl (by kernel_rfl) (by kernel_rfl) (by kernel_rfl) (fun _ _ _ h => h) (Or.inl ⟨by rfl, by intro wv hSv; (try dsimp only at hSv); go_simp⟩) hS0 rfl ?_
    try simp only [Act.put, List.setIfInBounds_toArray, List.set_cons_zero, List.set_cons_succ]
    refine take_dst 7 21 (.slice (some ⟨g, 0, none⟩) 4 c) rfl (by kernel_rfl) (by kernel_rfl) (by kernel_rfl) (fun _ _ _ h => h) (Or.inl ⟨by rfl, by intro wv hSv; (try dsimp only at hSv); go_simp⟩) hS0 rfl ?_
    try simp only [Act.put, List.setIfInBounds_toArray, List.set_cons_zero, List.set_cons_succ]
    refine take_dst 8 22 (.pointer (some ⟨g, 2, none⟩)) rfl (by kernel_rfl) (by kernel_rfl) (by kernel_rfl) (fun _ _ _ h => h) (Or.inl ⟨by rfl, by intro wv hSv; (try dsimp only at hSv); go_simp⟩) hS0 rfl ?_
    try simp only [Act.put, List.setIfInBounds_toArray, List.set_cons_zero, List.set_cons_succ]
    refine take_dst 9 23 (.string p2) rfl (by kernel_rfl) (by kernel_rfl) (by kernel_rfl) (fun _ _ _ h => h) (Or.inl ⟨by rfl, by intro wv hSv; (try dsimp only at hSv); go_simp⟩) hS0 rfl ?_
    try simp only [Act.put, List.setIfInBounds_toArray, List.set_cons_zero, List.set_cons_succ]
    refine take_dst 11 25 (.slice (some ⟨g, 0, none⟩) 4 c) rfl (by kernel_rfl) (by kernel_rfl) (by kernel_rfl) (fun _ _ _ h => h) (Or.inl ⟨by rfl, by intro wv hSv; (try dsimp only at hSv); go_simp⟩) hS0 rfl ?_
    try simp only [Act.put, List.setIfInBounds_toArray, List.set_cons_zero, List.set_cons_succ]
    refine take_dst 12 26 (.pointer (some ⟨g, 3, none⟩)) rfl (by kernel_rfl) (by kernel_rfl) (by kernel_rfl) (fun _ _ _ h => h) (Or.inl ⟨by rfl, by intro wv hSv; (try dsimp only at hSv); go_simp⟩) hS0 rfl ?_
    try simp only [Act.put, List.setIfInBounds_toArray, List.set_cons_zero, List.set_cons_succ]
    refine take_dst 13 27 (.string p3) rfl (by kernel_rfl) (by kernel_rfl) (by kernel_rfl) (fun _ _ _ h => h) (Or.inl ⟨by rfl, by intro wv hSv; (try dsimp only at hSv); go_simp⟩) hS0 rfl ?_
    try simp only [Act.put, List.setIfInBounds_toArray, List.set_cons_zero, List.set_cons_succ]
    refine wpAnyH_ready (rs := [6, 16]) (by kernel_rfl) (by simp) ?_
    refine (AllReadyH.cons rfl (fun K hK => ?_) (AllReadyH.cons rfl (fun K hK => ?_) AllReadyH.nil))
    ·
      go_simp
      refine Calls.mono (hn1.out _) ?_
      rintro e y1 ⟨rfl, b1⟩
      have bY1 := bY0.trans (b1.mono bY0.size)
      have hS1 := hSk.out _ bY1
      go_wp2_with fail
      refine hK.out _ _ hS1 (fun _ => ?_)
      clear hK K
      try simp only [Act.put, List.setIfInBounds_toArray, List.set_cons_zero, List.set_cons_succ]
      refine wpAnyH_ready (rs := [10, 16]) (by kernel_rfl) (by simp) ?_
      refine (AllReadyH.cons rfl (fun K hK => ?_) (AllReadyH.cons rfl (fun K hK => ?_) AllReadyH.nil))
      ·
        go_simp
        refine Calls.mono (hn2.out _) ?_
        rintro e y2 ⟨rfl, b2⟩
        have bY2 := bY1.trans (b2.mono bY1.size)
        have hS2 := hSk.out _ bY2
        go_wp2_with fail
        refine hK.out _ _ hS2 (fun _ => ?_)
        clear hK K
        try simp only [Act.put, List.setIfInBounds_toArray, List.set_cons_zero, List.set_cons_succ]
        refine wpAnyH_ready (rs := [14, 16]) (by kernel_rfl) (by simp) ?_
        refine (AllReadyH.cons rfl (fun K hK => ?_) (AllReadyH.cons rfl (fun K hK => ?_) AllReadyH.nil))
        ·
          go_simp
          refine Calls.mono (hn3.out _) ?_
          rintro e y3 ⟨rfl, b3⟩
          have bY3 := bY2.trans (b3.mono bY2.size)
          have hS3 := hSk.out _ bY3
          go_wp2_with fail
          refine hK.out _ _ hS3 (fun _ => ?_)
          clear hK K
          try simp only [Act.put, List.setIfInBounds_toArray, List.set_cons_zero, List.set_cons_succ]
          refine take_dst 15 29 (.agg #[.int .i64 a, .bool false, .int .i64 b, .slice none 0 0, .slice none 0 0, .slice none 0 0, .int .i64 d, .string ⟨#[]⟩, .slice none 0 0, .slice none 0 0]) rfl (by kernel_rfl) (by kernel_rfl) (by kernel_rfl) (fun _ _ _ h => h) (Or.inl ⟨by rfl, by intro wv hSv; go_simp⟩) hS3 rfl ?_
          try simp only [Act.put, List.setIfInBounds_toArray, List.set_cons_zero, List.set_cons_succ]
          refine wpAnyH_ready (rs := [16]) (by kernel_rfl) (by simp) ?_
          refine (AllReadyH.cons rfl (fun K hK => ?_) AllReadyH.nil)
          go_simp
          have b4 : Below y3.heap.size y3 (y3.alloc (.cells #[.int .i64 0, .bool false, .int .i64 0, .slice none 0 0, .slice none 0 0, .slice none 0 0, .int .i64 0, .string ⟨#[]⟩, .slice none 0 0, .slice none 0 0] 53)) := (Below.refl _ _).alloc (Nat.le_refl _) _
          have bY4 := bY3.trans (b4.mono bY3.size)
          have hS4 := hSk.out _ bY4
          have hU4 := RowL.new y3 [.int .i64 0, .bool false, .int .i64 0, .slice none 0 0, .slice none 0 0, .slice none 0 0, .int .i64 0, .string ⟨#[]⟩, .slice none 0 0, .slice none 0 0] 53
          refine hK.out _ _ hS4 (fun _ => ?_)
          clear hK K
          try simp only [Act.put, List.setIfInBounds_toArray, List.set_cons_zero, List.set_cons_succ]
          generalize y3.alloc (.cells #[.int .i64 0, .bool false, .int .i64 0, .slice none 0 0, .slice none 0 0, .slice none 0 0, .int .i64 0, .string ⟨#[]⟩, .slice none 0 0, .slice none 0 0] 53) = y4 at b4 bY4 hS4 hU4 ⊢
          have hle : w2.heap.size ≤ y3.heap.size := by have := bY3.size; omega
          have hSf := hSk.out _ (below_row bY4 hle #[.int .i64 a, .bool false, .int .i64 b, .slice none 0 0, .slice none 0 0, .slice none 0 0, .int .i64 d, .string ⟨#[]⟩, .slice none 0 0, .slice none 0 0])
          have hfin := hidR (show RowL (y4.setRow (y3.heap.size) #[.int .i64 a, .bool false, .int .i64 b, .slice none 0 0, .slice none 0 0, .slice none 0 0, .int .i64 d, .string ⟨#[]⟩, .slice none 0 0, .slice none 0 0]) (y3.heap.size) 53 [.int .i64 a, .bool false, .int .i64 b, .slice none 0 0, .slice none 0 0, .slice none 0 0, .int .i64 d, .string ⟨#[]⟩, .slice none 0 0, .slice none 0 0] ∧ Below w2.heap.size w2 (y4.setRow (y3.heap.size) #[.int .i64 a, .bool false, .int .i64 b, .slice none 0 0, .slice none 0 0, .slice none 0 0, .int .i64 d, .string ⟨#[]⟩, .slice none 0 0, .slice none 0 0]) from ⟨hU4.setRow [.int .i64 a, .bool false, .int .i64 b, .slice none 0 0, .slice none 0 0, .slice none 0 0, .int .i64 d, .string ⟨#[]⟩, .slice none 0 0, .slice none 0 0] rfl, below_row bY4 hle _⟩)
          refine ready_storeL 17 (by kernel_rfl) rfl 53 (.tmp 4) (.tmp 29) rfl rfl rfl (y3.heap.size) _ [.int .i64 a, .bool false, .int .i64 b, .slice none 0 0, .slice none 0 0, .slice none 0 0, .int .i64 d, .string ⟨#[]⟩, .slice none 0 0, .slice none 0 0] rfl rfl _ hU4 infP1 rfl (by simp [Value.oneCell']) hSf ?_
          refine wpAnyH_done (by kernel_rfl) ?_ _
          go_wp2_with fail
          go_meet
          case rel => exact ⟨y3.heap.size, rfl, hle, hfin.out⟩
        ·
          go_simp
          have b5 : Below y2.heap.size y2 (y2.alloc (.cells #[.int .i64 0, .bool false, .int .i64 0, .slice none 0 0, .slice none 0 0, .slice none 0 0, .int .i64 0, .string ⟨#[]⟩, .slice none 0 0, .slice none 0 0] 53)) := (Below.refl _ _).alloc (Nat.le_refl _) _
          have bY5 := bY2.trans (b5.mono bY2.size)
          have hS5 := hSk.out _ bY5
          have hU5 := RowL.new y2 [.int .i64 0, .bool false, .int .i64 0, .slice none 0 0, .slice none 0 0, .slice none 0 0, .int .i64 0, .string ⟨#[]⟩, .slice none 0 0, .slice none 0 0] 53
          refine hK.out _ _ hS5 (fun _ => ?_)
          clear hK K
          try simp only [Act.put, List.setIfInBounds_toArray, List.set_cons_zero, List.set_cons_succ]
          generalize y2.alloc (.cells #[.int .i64 0, .bool false, .int .i64 0, .slice none 0 0, .slice none 0 0, .slice none 0 0, .int .i64 0, .string ⟨#[]⟩, .slice none 0 0, .slice none 0 0] 53) = y5 at b5 bY5 hS5 hU5 ⊢
          refine wpAnyH_ready (rs := [14]) (by kernel_rfl) (by simp) ?_
          refine (AllReadyH.cons rfl (fun K hK => ?_) AllReadyH.nil)
          go_simp
          refine Calls.mono (hn3.out _) ?_
          rintro e y6 ⟨rfl, b6⟩
          have bY6 := bY5.trans (b6.mono bY5.size)
          have hS6 := hSk.out _ bY6
          have hU6 := hU5.call b6
          go_wp2_with fail
          refine hK.out _ _ hS6 (fun _ => ?_)
          clear hK K
          try simp only [Act.put, List.setIfInBounds_toArray, List.set_cons_zero, List.set_cons_succ]
          refine take_dst 15 29 (.agg #[.int .i64 a, .bool false, .int .i64 b, .slice none 0 0, .slice none 0 0, .slice none 0 0, .int .i64 d, .string ⟨#[]⟩, .slice none 0 0, .slice none 0 0]) rfl (by kernel_rfl) (by kernel_rfl) (by kernel_rfl) (fun _ _ _ h => h) (Or.inl ⟨by rfl, by intro wv hSv; go_simp⟩) hS6 rfl ?_
          try simp only [Act.put, List.setIfInBounds_toArray, List.set_cons_zero, List.set_cons_succ]
          have hle : w2.heap.size ≤ y2.heap.size := by have := bY2.size; omega
          have hSf := hSk.out _ (below_row bY6 hle #[.int .i64 a, .bool false, .int .i64 b, .slice none 0 0, .slice none 0 0, .slice none 0 0, .int .i64 d, .string ⟨#[]⟩, .slice none 0 0, .slice none 0 0])
          have hfin := hidR (show RowL (y6.setRow (y2.heap.size) #[.int .i64 a, .bool false, .int .i64 b, .slice none 0 0, .slice none 0 0, .slice none 0 0, .int .i64 d, .string ⟨#[]⟩, .slice none 0 0, .slice none 0 0]) (y2.heap.size) 53 [.int .i64 a, .bool false, .int .i64 b, .slice none 0 0, .slice none 0 0, .slice none 0 0, .int .i64 d, .string ⟨#[]⟩, .slice none 0 0, .slice none 0 0] ∧ Below w2.heap.size w2 (y6.setRow (y2.heap.size) #[.int .i64 a, .bool false, .int .i64 b, .slice none 0 0, .slice none 0 0, .slice none 0 0, .int .i64 d, .string ⟨#[]⟩, .slice none 0 0, .slice none 0 0]) from ⟨hU6.setRow [.int .i64 a, .bool false, .int .i64 b, .slice none 0 0, .slice none 0 0, .slice none 0 0, .int .i64 d, .string ⟨#[]⟩, .slice none 0 0, .slice none 0 0] rfl, below_row bY6 hle _⟩)
          refine ready_storeL 17 (by kernel_rfl) rfl 53 (.tmp 4) (.tmp 29) rfl rfl rfl (y2.heap.size) _ [.int .i64 a, .bool false, .int .i64 b, .slice none 0 0, .slice none 0 0, .slice none 0 0, .int .i64 d, .string ⟨#[]⟩, .slice none 0 0, .slice none 0 0] rfl rfl _ hU6 infP1 rfl (by simp [Value.oneCell']) hSf ?_
          refine wpAnyH_done (by kernel_rfl) ?_ _
          go_wp2_with fail
          go_meet
          case rel => exact ⟨y2.heap.size, rfl, hle, hfin.out⟩
      ·
        go_simp
        have b7 : Below y1.heap.size y1 (y1.alloc (.cells #[.int .i64 0, .bool false, .int .i64 0, .slice none 0 0, .slice none 0 0, .slice none 0 0, .int .i64 0, .string ⟨#[]⟩, .slice none 0 0, .slice none 0 0] 53)) := (Below.refl _ _).alloc (Nat.le_refl _) _
        have bY7 := bY1.trans (b7.mono bY1.size)
        have hS7 := hSk.out _ bY7
        have hU7 := RowL.new y1 [.int .i64 0, .bool false, .int .i64 0, .slice none 0 0, .slice none 0 0, .slice none 0 0, .int .i64 0, .string ⟨#[]⟩, .slice none 0 0, .slice none 0 0] 53
        refine hK.out _ _ hS7 (fun _ => ?_)
        clear hK K
        try simp only [Act.put, List.setIfInBounds_toArray, List.set_cons_zero, List.set_cons_succ]
        generalize y1.alloc (.cells #[.int .i64 0, .bool false, .int .i64 0, .slice none 0 0, .slice none 0 0, .slice none 0 0, .int .i64 0, .string ⟨#[]⟩, .slice none 0 0, .slice none 0 0] 53) = y7 at b7 bY7 hS7 hU7 ⊢
        refine wpAnyH_ready (rs := [10]) (by kernel_rfl) (by simp) ?_
        refine (AllReadyH.cons rfl (fun K hK => ?_) AllReadyH.nil)
        go_simp
        refine Calls.mono (hn2.out _) ?_
        rintro e y8 ⟨rfl, b8⟩
        have bY8 := bY7.trans (b8.mono bY7.size)
        have hS8 := hSk.out _ bY8
        have hU8 := hU7.call b8
        go_wp2_with fail
        refine hK.out _ _ hS8 (fun _ => ?_)
        clear hK K
        try simp only [Act.put, List.setIfInBounds_toArray, List.set_cons_zero, List.set_cons_succ]
        refine wpAnyH_ready (rs := [14]) (by kernel_rfl) (by simp) ?_
        refine (AllReadyH.cons rfl (fun K hK => ?_) AllReadyH.nil)
        go_simp
        refine Calls.mono (hn3.out _) ?_
        rintro e y9 ⟨rfl, b9⟩
        have bY9 := bY8.trans (b9.mono bY8.size)
        have hS9 := hSk.out _ bY9
        have hU9 := hU8.call b9
        go_wp2_with fail
        refine hK.out _ _ hS9 (fun _ => ?_)
        clear hK K
        try simp only [Act.put, List.setIfInBounds_toArray, List.set_cons_zero, List.set_cons_succ]
        refine take_dst 15 29 (.agg #[.int .i64 a, .bool false, .int .i64 b, .slice none 0 0, .slice none 0 0, .slice none 0 0, .int .i64 d, .string ⟨#[]⟩, .slice none 0 0, .slice none 0 0]) rfl (by kernel_rfl) (by kernel_rfl) (by kernel_rfl) (fun _ _ _ h => h) (Or.inl ⟨by rfl, by intro wv hSv; go_simp⟩) hS9 rfl ?_
        try simp only [Act.put, List.setIfInBounds_toArray, List.set_cons_zero, List.set_cons_succ]
        have hle : w2.heap.size ≤ y1.heap.size := by have := bY1.size; omega
        have hSf := hSk.out _ (below_row bY9 hle #[.int .i64 a, .bool false, .int .i64 b, .slice none 0 0, .slice none 0 0, .slice none 0 0, .int .i64 d, .string ⟨#[]⟩, .slice none 0 0, .slice none 0 0])
        have hfin := hidR (show RowL (y9.setRow (y1.heap.size) #[.int .i64 a, .bool false, .int .i64 b, .slice none 0 0, .slice none 0 0, .slice none 0 0, .int .i64 d, .string ⟨#[]⟩, .slice none 0 0, .slice none 0 0]) (y1.heap.size) 53 [.int .i64 a, .bool false, .int .i64 b, .slice none 0 0, .slice none 0 0, .slice none 0 0, .int .i64 d, .string ⟨#[]⟩, .slice none 0 0, .slice none 0 0] ∧ Below w2.heap.size w2 (y9.setRow (y1.heap.size) #[.int .i64 a, .bool false, .int .i64 b, .slice none 0 0, .slice none 0 0, .slice none 0 0, .int .i64 d, .string ⟨#[]⟩, .slice none 0 0, .slice none 0 0]) from ⟨hU9.setRow [.int .i64 a, .bool false, .int .i64 b, .slice none 0 0, .slice none 0 0, .slice none 0 0, .int .i64 d, .string ⟨#[]⟩, .slice none 0 0, .slice none 0 0] rfl, below_row bY9 hle _⟩)
        refine ready_storeL 17 (by kernel_rfl) rfl 53 (.tmp 4) (.tmp 29) rfl rfl rfl (y1.heap.size) _ [.int .i64 a, .bool false, .int .i64 b, .slice none 0 0, .slice none 0 0, .slice none 0 0, .int .i64 d, .string ⟨#[]⟩, .slice none 0 0, .slice none 0 0] rfl rfl _ hU9 infP1 rfl (by simp [Value.oneCell']) hSf ?_
        refine wpAnyH_done (by kernel_rfl) ?_ _
        go_wp2_with fail
        go_meet
        case rel => exact ⟨y1.heap.size, rfl, hle, hfin.out⟩
    ·
      go_simp
      have b10 : Below yd.heap.size yd (yd.alloc (.cells #[.int .i64 0, .bool false, .int .i64 0, .slice none 0 0, .slice none 0 0, .slice none 0 0, .int .i64 0, .string ⟨#[]⟩, .slice none 0 0, .slice none 0 0] 53)) := (Below.refl _ _).alloc (Nat.le_refl _) _
      have bY10 := bY0.trans (b10.mono bY0.size)
      have hS10 := hSk.out _ bY10
      have hU10 := RowL.new yd [.int .i64 0, .bool false, .int .i64 0, .slice none 0 0, .slice none 0 0, .slice none 0 0, .int .i64 0, .string ⟨#[]⟩, .slice none 0 0, .slice none 0 0] 53
      refine hK.out _ _ hS10 (fun _ => ?_)
      clear hK K
      try simp only [Act.put, List.setIfInBounds_toArray, List.set_cons_zero, List.set_cons_succ]
      generalize yd.alloc (.cells #[.int .i64 0, .bool false, .int .i64 0, .slice none 0 0, .slice none 0 0, .slice none 0 0, .int .i64 0, .string ⟨#[]⟩, .slice none 0 0, .slice none 0 0] 53) = y10 at b10 bY10 hS10 hU10 ⊢
      refine wpAnyH_ready (rs := [6]) (by kernel_rfl) (by simp) ?_
      refine (AllReadyH.cons rfl (fun K hK => ?_) AllReadyH.nil)
      go_simp
      refine Calls.mono (hn1.out _) ?_
      rintro e y11 ⟨rfl, b11⟩
      have bY11 := bY10.trans (b11.mono bY10.size)
      have hS11 := hSk.out _ bY11
      have hU11 := hU10.call b11
      go_wp2_with fail
      refine hK.out _ _ hS11 (fun _ => ?_)
      clear hK K
      try simp only [Act.put, List.setIfInBounds_toArray, List.set_cons_zero, List.set_cons_succ]
      refine wpAnyH_ready (rs := [10]) (by kernel_rfl) (by simp) ?_
      refine (AllReadyH.cons rfl (fun K hK => ?_) AllReadyH.nil)
      go_simp
      refine Calls.mono (hn2.out _) ?_
      rintro e y12 ⟨rfl, b12⟩
      have bY12 := bY11.trans (b12.mono bY11.size)
      have hS12 := hSk.out _ bY12
      have hU12 := hU11.call b12
      go_wp2_with fail
      refine hK.out _ _ hS12 (fun _ => ?_)
      clear hK K
      try simp only [Act.put, List.setIfInBounds_toArray, List.set_cons_zero, List.set_cons_succ]
      refine wpAnyH_ready (rs := [14]) (by kernel_rfl) (by simp) ?_
      refine (AllReadyH.cons rfl (fun K hK => ?_) AllReadyH.nil)
      go_simp
      refine Calls.mono (hn3.out _) ?_
      rintro e y13 ⟨rfl, b13⟩
      have bY13 := bY12.trans (b13.mono bY12.size)
      have hS13 := hSk.out _ bY13
      have hU13 := hU12.call b13
      go_wp2_with fail
      refine hK.out _ _ hS13 (fun _ => ?_)
      clear hK K
      try simp only [Act.put, List.setIfInBounds_toArray, List.set_cons_zero, List.set_cons_succ]
      refine take_dst 15 29 (.agg #[.int .i64 a, .bool false, .int .i64 b, .slice none 0 0, .slice none 0 0, .slice none 0 0, .int .i64 d, .string ⟨#[]⟩, .slice none 0 0, .slice none 0 0]) rfl (by kernel_rfl) (by kernel_rfl) (by kernel_rfl) (fun _ _ _ h => h) (Or.inl ⟨by rfl, by intro wv hSv; go_simp⟩) hS13 rfl ?_
      try simp only [Act.put, List.setIfInBounds_toArray, List.set_cons_zero, List.set_cons_succ]
      have hle : w2.heap.size ≤ yd.heap.size := by have := bY0.size; omega
      have hSf := hSk.out _ (below_row bY13 hle #[.int .i64 a, .bool false, .int .i64 b, .slice none 0 0, .slice none 0 0, .slice none 0 0, .int .i64 d, .string ⟨#[]⟩, .slice none 0 0, .slice none 0 0])
      have hfin := hidR (show RowL (y13.setRow (yd.heap.size) #[.int .i64 a, .bool false, .int .i64 b, .slice none 0 0, .slice none 0 0, .slice none 0 0, .int .i64 d, .string ⟨#[]⟩, .slice none 0 0, .slice none 0 0]) (yd.heap.size) 53 [.int .i64 a, .bool false, .int .i64 b, .slice none 0 0, .slice none 0 0, .slice none 0 0, .int .i64 d, .string ⟨#[]⟩, .slice none 0 0, .slice none 0 0] ∧ Below w2.heap.size w2 (y13.setRow (yd.heap.size) #[.int .i64 a, .bool false, .int .i64 b, .slice none 0 0, .slice none 0 0, .slice none 0 0, .int .i64 d, .string ⟨#[]⟩, .slice none 0 0, .slice none 0 0]) from ⟨hU13.setRow [.int .i64 a, .bool false, .int .i64 b, .slice none 0 0, .slice none 0 0, .slice none 0 0, .int .i64 d, .string ⟨#[]⟩, .slice none 0 0, .slice none 0 0] rfl, below_row bY13 hle _⟩)
      refine ready_storeL 17 (by kernel_rfl) rfl 53 (.tmp 4) (.tmp 29) rfl rfl rfl (yd.heap.size) _ [.int .i64 a, .bool false, .int .i64 b, .slice none 0 0, .slice none 0 0, .slice none 0 0, .int .i64 d, .string ⟨#[]⟩, .slice none 0 0, .slice none 0 0] rfl rfl _ hU13 infP1 rfl (by simp [Value.oneCell']) hSf ?_
      refine wpAnyH_done (by kernel_rfl) ?_ _
      go_wp2_with fail
      go_meet
      case rel => exact ⟨yd.heap.size, rfl, hle, hfin.out⟩
  obtain ⟨UB, rfl, hle, hq⟩ := hcut
  obtain ⟨yz, hyz⟩ : ∃ x, x = wc := ⟨_, rfl⟩
  subst hyz
  have hU := hq.out.1
  have hB := hq.out.2
  have hR := RB.out.call hB
  have bz := bw.out.trans (hB.mono bw.out.size)
  have hpc := hSk.out _ hB
  have u0 := hU.cell 0 rfl
  have u1 := hU.cell 1 rfl
  have u2 := hU.cell 2 rfl
  have u3 := hU.cell 3 rfl
  have u4 := hU.cell 4 rfl
  have u5 := hU.cell 5 rfl
  have u6 := hU.cell 6 rfl
  have u7 := hU.cell 7 rfl
  have u8 := hU.cell 8 rfl
  have u9 := hU.cell 9 rfl
  have ul := hU.lt
  have el := hR.lt
  have gl : g < yz.heap.size := Nat.lt_of_lt_of_le hg2 hB.size
  have hwl : w.heap.size < w2.heap.size := RB.out.lt
  have hRd := hR.call (Below.refl yz.heap.size yz).drew
  have L := hRd.setRow [.int .i64 a, .bool false, .int .i64 b, .slice none 0 0, .slice none 0 0, .slice none 0 0, .int .i64 d, .string ⟨#[]⟩, .slice none 0 0, .slice none 0 0] rfl
  have L5 := hR.setRow [.int .i64 a, .bool false, .int .i64 b, .slice none 0 0, .slice none 0 0, .slice none 0 0, .int .i64 d, .string ⟨#[]⟩, .slice none 0 0, .slice none 0 0] rfl
  have bf := below_row bz.drew (Nat.le_refl w.heap.size) #[.int .i64 a, .bool false, .int .i64 b, .slice none 0 0, .slice none 0 0, .slice none 0 0, .int .i64 d, .string ⟨#[]⟩, .slice none 0 0, .slice none 0 0]
  have bf5 := below_row bz (Nat.le_refl w.heap.size) #[.int .i64 a, .bool false, .int .i64 b, .slice none 0 0, .slice none 0 0, .slice none 0 0, .int .i64 d, .string ⟨#[]⟩, .slice none 0 0, .slice none 0 0]
  have hne1 : ¬ (UB = w.heap.size) := by omega
  have hSd : yz.drew.cell? ⟨UB, 0, none⟩ = some (.int .i64 a) ∧ yz.drew.cell? ⟨UB, 1, none⟩ = some (.bool false) ∧ yz.drew.cell? ⟨UB, 2, none⟩ = some (.int .i64 b) ∧ yz.drew.cell? ⟨UB, 3, none⟩ = some (.slice none 0 0) ∧ yz.drew.cell? ⟨UB, 4, none⟩ = some (.slice none 0 0) ∧ yz.drew.cell? ⟨UB, 5, none⟩ = some (.slice none 0 0) ∧ yz.drew.cell? ⟨UB, 6, none⟩ = some (.int .i64 d) ∧ yz.drew.cell? ⟨UB, 7, none⟩ = some (.string ⟨#[]⟩) ∧ yz.drew.cell? ⟨UB, 8, none⟩ = some (.slice none 0 0) ∧ yz.drew.cell? ⟨UB, 9, none⟩ = some (.slice none 0 0) := ⟨u0, u1, u2, u3, u4, u5, u6, u7, u8, u9⟩
  replace hR := hidR hR
  replace hU := hidR hU
  replace hRd := hidR hRd
  replace L := hidR L
  replace L5 := hidR L5
  clear hq hSk hn1 hn2 hn3 hB
  by_cases ha : a ≥ 0
  rotate_left
  · have hE : Hid (HeadEnds [p1, p2, p3] (.returned (.tuple #[hdV a b d false, .bool false]))) := ⟨a, b, d, false, false, rfl, by simp, fun _ => by rw [hR0.out, if_neg (by omega)]⟩
    obtain rfl : a = -1 := by omega
    go_upto_region 6 with fail
    refine wp_region_held_drew (S := fun y => y.cell? ⟨UB, 0, none⟩ = some (.int .i64 (-1)) ∧ y.cell? ⟨UB, 1, none⟩ = some (.bool false) ∧ y.cell? ⟨UB, 2, none⟩ = some (.int .i64 b) ∧ y.cell? ⟨UB, 3, none⟩ = some (.slice none 0 0) ∧ y.cell? ⟨UB, 4, none⟩ = some (.slice none 0 0) ∧ y.cell? ⟨UB, 5, none⟩ = some (.slice none 0 0) ∧ y.cell? ⟨UB, 6, none⟩ = some (.int .i64 d) ∧ y.cell? ⟨UB, 7, none⟩ = some (.string ⟨#[]⟩) ∧ y.cell? ⟨UB, 8, none⟩ = some (.slice none 0 0) ∧ y.cell? ⟨UB, 9, none⟩ = some (.slice none 0 0)) (by kernel_rfl) hSd (fun hH => ?_)
    clear hH
    refine take_dst 0 40 (.agg #[.int .i64 (-1), .bool false, .int .i64 b, .slice none 0 0, .slice none 0 0, .slice none 0 0, .int .i64 d, .string ⟨#[]⟩, .slice none 0 0, .slice none 0 0]) rfl (by kernel_rfl) (by kernel_rfl) (by kernel_rfl) (fun _ _ _ h => h) (Or.inl ⟨by rfl, by intro wv hSv; (try dsimp only at hSv); go_simp⟩) hSd rfl ?_
    try simp only [Act.put, List.setIfInBounds_toArray, List.set_cons_zero, List.set_cons_succ]
    refine take_dst 1 41 (.pointer (some ⟨UB, 0, none⟩)) rfl (by kernel_rfl) (by kernel_rfl) (by kernel_rfl) (fun _ _ _ h => h) (Or.inl ⟨by rfl, by intro wv hSv; (try dsimp only at hSv); go_simp⟩) hSd rfl ?_
    try simp only [Act.put, List.setIfInBounds_toArray, List.set_cons_zero, List.set_cons_succ]
    refine take_dst 2 42 (.int .i64 (-1)) rfl (by kernel_rfl) (by kernel_rfl) (by kernel_rfl) (fun _ _ _ h => h) (Or.inl ⟨by rfl, by intro wv hSv; (try dsimp only at hSv); go_simp⟩) hSd rfl ?_
    try simp only [Act.put, List.setIfInBounds_toArray, List.set_cons_zero, List.set_cons_succ]
    refine take_dst 3 43 (.bool false) rfl (by kernel_rfl) (by kernel_rfl) (by kernel_rfl) (fun _ _ _ h => h) (Or.inl ⟨by rfl, by intro wv hSv; (try dsimp only at hSv); go_simp⟩) hSd rfl ?_
    try simp only [Act.put, List.setIfInBounds_toArray, List.set_cons_zero, List.set_cons_succ]
    refine take_dst 4 44 (.bool false) rfl (by kernel_rfl) (by kernel_rfl) (by kernel_rfl) (fun _ _ _ h => h) (Or.inl ⟨by rfl, by intro wv hSv; (try dsimp only at hSv); go_simp⟩) hSd rfl ?_
    try simp only [Act.put, List.setIfInBounds_toArray, List.set_cons_zero, List.set_cons_succ]
    refine take_dst 5 45 undef rfl (by kernel_rfl) (by kernel_rfl) (by kernel_rfl) (fun _ _ _ h => h) (Or.inr ⟨by rfl, rfl⟩) hSd rfl ?_
    try simp only [Act.put, List.setIfInBounds_toArray, List.set_cons_zero, List.set_cons_succ]
    refine take_dst 6 46 undef rfl (by kernel_rfl) (by kernel_rfl) (by kernel_rfl) (fun _ _ _ h => h) (Or.inr ⟨by rfl, rfl⟩) hSd rfl ?_
    try simp only [Act.put, List.setIfInBounds_toArray, List.set_cons_zero, List.set_cons_succ]
    refine take_dst 7 47 undef rfl (by kernel_rfl) (by kernel_rfl) (by kernel_rfl) (fun _ _ _ h => h) (Or.inr ⟨by rfl, rfl⟩) hSd rfl ?_
    try simp only [Act.put, List.setIfInBounds_toArray, List.set_cons_zero, List.set_cons_succ]
    refine take_dst 8 48 (.bool false) rfl (by kernel_rfl) (by kernel_rfl) (by kernel_rfl) (fun _ _ _ h => h) (Or.inl ⟨by rfl, by intro wv hSv; (try dsimp only at hSv); go_simp⟩) hSd rfl ?_
    try simp only [Act.put, List.setIfInBounds_toArray, List.set_cons_zero, List.set_cons_succ]
    refine take_dst 9 49 (.bool false) rfl (by kernel_rfl) (by kernel_rfl) (by kernel_rfl) (fun _ _ _ h => h) (Or.inl ⟨by rfl, by intro wv hSv; (try dsimp only at hSv); go_simp⟩) hSd rfl ?_
    try simp only [Act.put, List.setIfInBounds_toArray, List.set_cons_zero, List.set_cons_succ]
    refine take_dst 10 50 undef rfl (by kernel_rfl) (by kernel_rfl) (by kernel_rfl) (fun _ _ _ h => h) (Or.inr ⟨by rfl, rfl⟩) hSd rfl ?_
    try simp only [Act.put, List.setIfInBounds_toArray, List.set_cons_zero, List.set_cons_succ]
    refine take_dst 11 51 undef rfl (by kernel_rfl) (by kernel_rfl) (by kernel_rfl) (fun _ _ _ h => h) (Or.inr ⟨by rfl, rfl⟩) hSd rfl ?_
    try simp only [Act.put, List.setIfInBounds_toArray, List.set_cons_zero, List.set_cons_succ]
    refine take_dst 12 52 undef rfl (by kernel_rfl) (by kernel_rfl) (by kernel_rfl) (fun _ _ _ h => h) (Or.inr ⟨by rfl, rfl⟩) hSd rfl ?_
    try simp only [Act.put, List.setIfInBounds_toArray, List.set_cons_zero, List.set_cons_succ]
    refine take_dst 13 53 (.bool false) rfl (by kernel_rfl) (by kernel_rfl) (by kernel_rfl) (fun _ _ _ h => h) (Or.inl ⟨by rfl, by intro wv hSv; (try dsimp only at hSv); go_simp⟩) hSd rfl ?_
    try simp only [Act.put, List.setIfInBounds_toArray, List.set_cons_zero, List.set_cons_succ]
    have hSe : (yz.drew.setRow w.heap.size #[.int .i64 (-1), .bool false, .int .i64 b, .slice none 0 0, .slice none 0 0, .slice none 0 0, .int .i64 d, .string ⟨#[]⟩, .slice none 0 0, .slice none 0 0]).cell? ⟨UB, 0, none⟩ = some (.int .i64 (-1)) ∧ (yz.drew.setRow w.heap.size #[.int .i64 (-1), .bool false, .int .i64 b, .slice none 0 0, .slice none 0 0, .slice none 0 0, .int .i64 d, .string ⟨#[]⟩, .slice none 0 0, .slice none 0 0]).cell? ⟨UB, 1, none⟩ = some (.bool false) ∧ (yz.drew.setRow w.heap.size #[.int .i64 (-1), .bool false, .int .i64 b, .slice none 0 0, .slice none 0 0, .slice none 0 0, .int .i64 d, .string ⟨#[]⟩, .slice none 0 0, .slice none 0 0]).cell? ⟨UB, 2, none⟩ = some (.int .i64 b) ∧ (yz.drew.setRow w.heap.size #[.int .i64 (-1), .bool false, .int .i64 b, .slice none 0 0, .slice none 0 0, .slice none 0 0, .int .i64 d, .string ⟨#[]⟩, .slice none 0 0, .slice none 0 0]).cell? ⟨UB, 3, none⟩ = some (.slice none 0 0) ∧ (yz.drew.setRow w.heap.size #[.int .i64 (-1), .bool false, .int .i64 b, .slice none 0 0, .slice none 0 0, .slice none 0 0, .int .i64 d, .string ⟨#[]⟩, .slice none 0 0, .slice none 0 0]).cell? ⟨UB, 4, none⟩ = some (.slice none 0 0) ∧ (yz.drew.setRow w.heap.size #[.int .i64 (-1), .bool false, .int .i64 b, .slice none 0 0, .slice none 0 0, .slice none 0 0, .int .i64 d, .string ⟨#[]⟩, .slice none 0 0, .slice none 0 0]).cell? ⟨UB, 5, none⟩ = some (.slice none 0 0) ∧ (yz.drew.setRow w.heap.size #[.int .i64 (-1), .bool false, .int .i64 b, .slice none 0 0, .slice none 0 0, .slice none 0 0, .int .i64 d, .string ⟨#[]⟩, .slice none 0 0, .slice none 0 0]).cell? ⟨UB, 6, none⟩ = some (.int .i64 d) ∧ (yz.drew.setRow w.heap.size #[.int .i64 (-1), .bool false, .int .i64 b, .slice none 0 0, .slice none 0 0, .slice none 0 0, .int .i64 d, .string ⟨#[]⟩, .slice none 0 0, .slice none 0 0]).cell? ⟨UB, 7, none⟩ = some (.string ⟨#[]⟩) ∧ (yz.drew.setRow w.heap.size #[.int .i64 (-1), .bool false, .int .i64 b, .slice none 0 0, .slice none 0 0, .slice none 0 0, .int .i64 d, .string ⟨#[]⟩, .slice none 0 0, .slice none 0 0]).cell? ⟨UB, 8, none⟩ = some (.slice none 0 0) ∧ (yz.drew.setRow w.heap.size #[.int .i64 (-1), .bool false, .int .i64 b, .slice none 0 0, .slice none 0 0, .slice none 0 0, .int .i64 d, .string ⟨#[]⟩, .slice none 0 0, .slice none 0 0]).cell? ⟨UB, 9, none⟩ = some (.slice none 0 0) := ⟨(World.cell?_of_block (setRow_other _ _ _ _ hne1)).trans u0, (World.cell?_of_block (setRow_other _ _ _ _ hne1)).trans u1, (World.cell?_of_block (setRow_other _ _ _ _ hne1)).trans u2, (World.cell?_of_block (setRow_other _ _ _ _ hne1)).trans u3, (World.cell?_of_block (setRow_other _ _ _ _ hne1)).trans u4, (World.cell?_of_block (setRow_other _ _ _ _ hne1)).trans u5, (World.cell?_of_block (setRow_other _ _ _ _ hne1)).trans u6, (World.cell?_of_block (setRow_other _ _ _ _ hne1)).trans u7, (World.cell?_of_block (setRow_other _ _ _ _ hne1)).trans u8, (World.cell?_of_block (setRow_other _ _ _ _ hne1)).trans u9⟩
    refine ready_storeL 14 (by kernel_rfl) rfl 53 (.tmp 2) (.tmp 40) rfl rfl rfl w.heap.size _ [.int .i64 (-1), .bool false, .int .i64 b, .slice none 0 0, .slice none 0 0, .slice none 0 0, .int .i64 d, .string ⟨#[]⟩, .slice none 0 0, .slice none 0 0] rfl rfl _ hRd.out infP1 rfl (by simp [Value.oneCell']) hSe ?_
    refine take_dst 15 3 (.bool false) rfl (by kernel_rfl) (by kernel_rfl) (by kernel_rfl) (fun _ _ _ h => h) (Or.inl ⟨by rfl, by intro wv hSv; (try dsimp only at hSv); go_simp⟩) hSe rfl ?_
    try simp only [Act.put, List.setIfInBounds_toArray, List.set_cons_zero, List.set_cons_succ]
    refine wpAnyH_done (by kernel_rfl) ?_ _
    go_wp2_with fail
    exact bodyPost_ret (v := .tuple #[hdV (-1) b d false, .bool false]) (by simp [results, Tryz.results20, go_sem, L.out.cell 0 rfl, L.out.cell 1 rfl, L.out.cell 2 rfl, L.out.cell 3 rfl, L.out.cell 4 rfl, L.out.cell 5 rfl, L.out.cell 6 rfl, L.out.cell 7 rfl, L.out.cell 8 rfl, L.out.cell 9 rfl]) rfl ⟨hE.out, bf⟩
  by_cases hb : b ≥ 0
  rotate_left
  · have hE : Hid (HeadEnds [p1, p2, p3] (.returned (.tuple #[hdV a b d false, .bool false]))) := ⟨a, b, d, false, false, rfl, by simp, fun _ => by rw [hR0.out, if_neg (by omega)]⟩
    obtain rfl : b = -1 := by omega
    go_upto_region 6 with fail
    refine wp_region_held_drew (S := fun y => y.cell? ⟨UB, 0, none⟩ = some (.int .i64 a) ∧ y.cell? ⟨UB, 1, none⟩ = some (.bool false) ∧ y.cell? ⟨UB, 2, none⟩ = some (.int .i64 (-1)) ∧ y.cell? ⟨UB, 3, none⟩ = some (.slice none 0 0) ∧ y.cell? ⟨UB, 4, none⟩ = some (.slice none 0 0) ∧ y.cell? ⟨UB, 5, none⟩ = some (.slice none 0 0) ∧ y.cell? ⟨UB, 6, none⟩ = some (.int .i64 d) ∧ y.cell? ⟨UB, 7, none⟩ = some (.string ⟨#[]⟩) ∧ y.cell? ⟨UB, 8, none⟩ = some (.slice none 0 0) ∧ y.cell? ⟨UB, 9, none⟩ = some (.slice none 0 0)) (by kernel_rfl) hSd (fun hH => ?_)
    clear hH
    refine take_dst 0 40 (.agg #[.int .i64 a, .bool false, .int .i64 (-1), .slice none 0 0, .slice none 0 0, .slice none 0 0, .int .i64 d, .string ⟨#[]⟩, .slice none 0 0, .slice none 0 0]) rfl (by kernel_rfl) (by kernel_rfl) (by kernel_rfl) (fun _ _ _ h => h) (Or.inl ⟨by rfl, by intro wv hSv; (try dsimp only at hSv); go_simp⟩) hSd rfl ?_
    try simp only [Act.put, List.setIfInBounds_toArray, List.set_cons_zero, List.set_cons_succ]
    refine take_dst 1 41 (.pointer (some ⟨UB, 0, none⟩)) rfl (by kernel_rfl) (by kernel_rfl) (by kernel_rfl) (fun _ _ _ h => h) (Or.inl ⟨by rfl, by intro wv hSv; (try dsimp only at hSv); go_simp⟩) hSd rfl ?_
    try simp only [Act.put, List.setIfInBounds_toArray, List.set_cons_zero, List.set_cons_succ]
    refine take_dst 2 42 (.int .i64 a) rfl (by kernel_rfl) (by kernel_rfl) (by kernel_rfl) (fun _ _ _ h => h) (Or.inl ⟨by rfl, by intro wv hSv; (try dsimp only at hSv); go_simp⟩) hSd rfl ?_
    try simp only [Act.put, List.setIfInBounds_toArray, List.set_cons_zero, List.set_cons_succ]
    refine take_dst 3 43 (.bool true) rfl (by kernel_rfl) (by kernel_rfl) (by kernel_rfl) (fun _ _ _ h => h) (Or.inl ⟨by rfl, by intro wv hSv; (try dsimp only at hSv); go_simp⟩) hSd rfl ?_
    try simp only [Act.put, List.setIfInBounds_toArray, List.set_cons_zero, List.set_cons_succ]
    refine take_dst 4 44 (.bool true) rfl (by kernel_rfl) (by kernel_rfl) (by kernel_rfl) (fun _ _ _ h => h) (Or.inl ⟨by rfl, by intro wv hSv; (try dsimp only at hSv); go_simp⟩) hSd rfl ?_
    try simp only [Act.put, List.setIfInBounds_toArray, List.set_cons_zero, List.set_cons_succ]
    refine take_dst 5 45 (.pointer (some ⟨UB, 2, none⟩)) rfl (by kernel_rfl) (by kernel_rfl) (by kernel_rfl) (fun _ _ _ h => h) (Or.inl ⟨by rfl, by intro wv hSv; (try dsimp only at hSv); go_simp⟩) hSd rfl ?_
    try simp only [Act.put, List.setIfInBounds_toArray, List.set_cons_zero, List.set_cons_succ]
    refine take_dst 6 46 (.int .i64 (-1)) rfl (by kernel_rfl) (by kernel_rfl) (by kernel_rfl) (fun _ _ _ h => h) (Or.inl ⟨by rfl, by intro wv hSv; (try dsimp only at hSv); go_simp⟩) hSd rfl ?_
    try simp only [Act.put, List.setIfInBounds_toArray, List.set_cons_zero, List.set_cons_succ]
    refine take_dst 7 47 (.bool false) rfl (by kernel_rfl) (by kernel_rfl) (by kernel_rfl) (fun _ _ _ h => h) (Or.inl ⟨by rfl, by intro wv hSv; (try dsimp only at hSv); go_simp⟩) hSd rfl ?_
    try simp only [Act.put, List.setIfInBounds_toArray, List.set_cons_zero, List.set_cons_succ]
    refine take_dst 8 48 (.bool false) rfl (by kernel_rfl) (by kernel_rfl) (by kernel_rfl) (fun _ _ _ h => h) (Or.inl ⟨by rfl, by intro wv hSv; (try dsimp only at hSv); go_simp⟩) hSd rfl ?_
    try simp only [Act.put, List.setIfInBounds_toArray, List.set_cons_zero, List.set_cons_succ]
    refine take_dst 9 49 (.bool false) rfl (by kernel_rfl) (by kernel_rfl) (by kernel_rfl) (fun _ _ _ h => h) (Or.inl ⟨by rfl, by intro wv hSv; (try dsimp only at hSv); go_simp⟩) hSd rfl ?_
    try simp only [Act.put, List.setIfInBounds_toArray, List.set_cons_zero, List.set_cons_succ]
    refine take_dst 10 50 undef rfl (by kernel_rfl) (by kernel_rfl) (by kernel_rfl) (fun _ _ _ h => h) (Or.inr ⟨by rfl, rfl⟩) hSd rfl ?_
    try simp only [Act.put, List.setIfInBounds_toArray, List.set_cons_zero, List.set_cons_succ]
    refine take_dst 11 51 undef rfl (by kernel_rfl) (by kernel_rfl) (by kernel_rfl) (fun _ _ _ h => h) (Or.inr ⟨by rfl, rfl⟩) hSd rfl ?_
    try simp only [Act.put, List.setIfInBounds_toArray, List.set_cons_zero, List.set_cons_succ]
    refine take_dst 12 52 undef rfl (by kernel_rfl) (by kernel_rfl) (by kernel_rfl) (fun _ _ _ h => h) (Or.inr ⟨by rfl, rfl⟩) hSd rfl ?_
    try simp only [Act.put, List.setIfInBounds_toArray, List.set_cons_zero, List.set_cons_succ]
    refine take_dst 13 53 (.bool false) rfl (by kernel_rfl) (by kernel_rfl) (by kernel_rfl) (fun _ _ _ h => h) (Or.inl ⟨by rfl, by intro wv hSv; (try dsimp only at hSv); go_simp⟩) hSd rfl ?_
    try simp only [Act.put, List.setIfInBounds_toArray, List.set_cons_zero, List.set_cons_succ]
    have hSe : (yz.drew.setRow w.heap.size #[.int .i64 a, .bool false, .int .i64 (-1), .slice none 0 0, .slice none 0 0, .slice none 0 0, .int .i64 d, .string ⟨#[]⟩, .slice none 0 0, .slice none 0 0]).cell? ⟨UB, 0, none⟩ = some (.int .i64 a) ∧ (yz.drew.setRow w.heap.size #[.int .i64 a, .bool false, .int .i64 (-1), .slice none 0 0, .slice none 0 0, .slice none 0 0, .int .i64 d, .string ⟨#[]⟩, .slice none 0 0, .slice none 0 0]).cell? ⟨UB, 1, none⟩ = some (.bool false) ∧ (yz.drew.setRow w.heap.size #[.int .i64 a, .bool false, .int .i64 (-1), .slice none 0 0, .slice none 0 0, .slice none 0 0, .int .i64 d, .string ⟨#[]⟩, .slice none 0 0, .slice none 0 0]).cell? ⟨UB, 2, none⟩ = some (.int .i64 (-1)) ∧ (yz.drew.setRow w.heap.size #[.int .i64 a, .bool false, .int .i64 (-1), .slice none 0 0, .slice none 0 0, .slice none 0 0, .int .i64 d, .string ⟨#[]⟩, .slice none 0 0, .slice none 0 0]).cell? ⟨UB, 3, none⟩ = some (.slice none 0 0) ∧ (yz.drew.setRow w.heap.size #[.int .i64 a, .bool false, .int .i64 (-1), .slice none 0 0, .slice none 0 0, .slice none 0 0, .int .i64 d, .string ⟨#[]⟩, .slice none 0 0, .slice none 0 0]).cell? ⟨UB, 4, none⟩ = some (.slice none 0 0) ∧ (yz.drew.setRow w.heap.size #[.int .i64 a, .bool false, .int .i64 (-1), .slice none 0 0, .slice none 0 0, .slice none 0 0, .int .i64 d, .string ⟨#[]⟩, .slice none 0 0, .slice none 0 0]).cell? ⟨UB, 5, none⟩ = some (.slice none 0 0) ∧ (yz.drew.setRow w.heap.size #[.int .i64 a, .bool false, .int .i64 (-1), .slice none 0 0, .slice none 0 0, .slice none 0 0, .int .i64 d, .string ⟨#[]⟩, .slice none 0 0, .slice none 0 0]).cell? ⟨UB, 6, none⟩ = some (.int .i64 d) ∧ (yz.drew.setRow w.heap.size #[.int .i64 a, .bool false, .int .i64 (-1), .slice none 0 0, .slice none 0 0, .slice none 0 0, .int .i64 d, .string ⟨#[]⟩, .slice none 0 0, .slice none 0 0]).cell? ⟨UB, 7, none⟩ = some (.string ⟨#[]⟩) ∧ (yz.drew.setRow w.heap.size #[.int .i64 a, .bool false, .int .i64 (-1), .slice none 0 0, .slice none 0 0, .slice none 0 0, .int .i64 d, .string ⟨#[]⟩, .slice none 0 0, .slice none 0 0]).cell? ⟨UB, 8, none⟩ = some (.slice none 0 0) ∧ (yz.drew.setRow w.heap.size #[.int .i64 a, .bool false, .int .i64 (-1), .slice none 0 0, .slice none 0 0, .slice none 0 0, .int .i64 d, .string ⟨#[]⟩, .slice none 0 0, .slice none 0 0]).cell? ⟨UB, 9, none⟩ = some (.slice none 0 0) := ⟨(World.cell?_of_block (setRow_other _ _ _ _ hne1)).trans u0, (World.cell?_of_block (setRow_other _ _ _ _ hne1)).trans u1, (World.cell?_of_block (setRow_other _ _ _ _ hne1)).trans u2, (World.cell?_of_block (setRow_other _ _ _ _ hne1)).trans u3, (World.cell?_of_block (setRow_other _ _ _ _ hne1)).trans u4, (World.cell?_of_block (setRow_other _ _ _ _ hne1)).trans u5, (World.cell?_of_block (setRow_other _ _ _ _ hne1)).trans u6, (World.cell?_of_block (setRow_other _ _ _ _ hne1)).trans u7, (World.cell?_of_block (setRow_other _ _ _ _ hne1)).trans u8, (World.cell?_of_block (setRow_other _ _ _ _ hne1)).trans u9⟩
    refine ready_storeL 14 (by kernel_rfl) rfl 53 (.tmp 2) (.tmp 40) rfl rfl rfl w.heap.size _ [.int .i64 a, .bool false, .int .i64 (-1), .slice none 0 0, .slice none 0 0, .slice none 0 0, .int .i64 d, .string ⟨#[]⟩, .slice none 0 0, .slice none 0 0] rfl rfl _ hRd.out infP1 rfl (by simp [Value.oneCell']) hSe ?_
    refine take_dst 15 3 (.bool false) rfl (by kernel_rfl) (by kernel_rfl) (by kernel_rfl) (fun _ _ _ h => h) (Or.inl ⟨by rfl, by intro wv hSv; (try dsimp only at hSv); go_simp⟩) hSe rfl ?_
    try simp only [Act.put, List.setIfInBounds_toArray, List.set_cons_zero, List.set_cons_succ]
    refine wpAnyH_done (by kernel_rfl) ?_ _
    go_wp2_with fail
    exact bodyPost_ret (v := .tuple #[hdV a (-1) d false, .bool false]) (by simp [results, Tryz.results20, go_sem, L.out.cell 0 rfl, L.out.cell 1 rfl, L.out.cell 2 rfl, L.out.cell 3 rfl, L.out.cell 4 rfl, L.out.cell 5 rfl, L.out.cell 6 rfl, L.out.cell 7 rfl, L.out.cell 8 rfl, L.out.cell 9 rfl]) rfl ⟨hE.out, bf⟩
  by_cases hd : d ≥ 0
  rotate_left
  · have hE : Hid (HeadEnds [p1, p2, p3] (.returned (.tuple #[hdV a b d false, .bool false]))) := ⟨a, b, d, false, false, rfl, by simp, fun _ => by rw [hR0.out, if_neg (by omega)]⟩
    obtain rfl : d = -1 := by omega
    go_upto_region 6 with fail
    refine wp_region_held_drew (S := fun y => y.cell? ⟨UB, 0, none⟩ = some (.int .i64 a) ∧ y.cell? ⟨UB, 1, none⟩ = some (.bool false) ∧ y.cell? ⟨UB, 2, none⟩ = some (.int .i64 b) ∧ y.cell? ⟨UB, 3, none⟩ = some (.slice none 0 0) ∧ y.cell? ⟨UB, 4, none⟩ = some (.slice none 0 0) ∧ y.cell? ⟨UB, 5, none⟩ = some (.slice none 0 0) ∧ y.cell? ⟨UB, 6, none⟩ = some (.int .i64 (-1)) ∧ y.cell? ⟨UB, 7, none⟩ = some (.string ⟨#[]⟩) ∧ y.cell? ⟨UB, 8, none⟩ = some (.slice none 0 0) ∧ y.cell? ⟨UB, 9, none⟩ = some (.slice none 0 0)) (by kernel_rfl) hSd (fun hH => ?_)
    clear hH
    refine take_dst 0 40 (.agg #[.int .i64 a, .bool false, .int .i64 b, .slice none 0 0, .slice none 0 0, .slice none 0 0, .int .i64 (-1), .string ⟨#[]⟩, .slice none 0 0, .slice none 0 0]) rfl (by kernel_rfl) (by kernel_rfl) (by kernel_rfl) (fun _ _ _ h => h) (Or.inl ⟨by rfl, by intro wv hSv; (try dsimp only at hSv); go_simp⟩) hSd rfl ?_
    try simp only [Act.put, List.setIfInBounds_toArray, List.set_cons_zero, List.set_cons_succ]
    refine take_dst 1 41 (.pointer (some ⟨UB, 0, none⟩)) rfl (by kernel_rfl) (by kernel_rfl) (by kernel_rfl) (fun _ _ _ h => h) (Or.inl ⟨by rfl, by intro wv hSv; (try dsimp only at hSv); go_simp⟩) hSd rfl ?_
    try simp only [Act.put, List.setIfInBounds_toArray, List.set_cons_zero, List.set_cons_succ]
    refine take_dst 2 42 (.int .i64 a) rfl (by kernel_rfl) (by kernel_rfl) (by kernel_rfl) (fun _ _ _ h => h) (Or.inl ⟨by rfl, by intro wv hSv; (try dsimp only at hSv); go_simp⟩) hSd rfl ?_
    try simp only [Act.put, List.setIfInBounds_toArray, List.set_cons_zero, List.set_cons_succ]
    refine take_dst 3 43 (.bool true) rfl (by kernel_rfl) (by kernel_rfl) (by kernel_rfl) (fun _ _ _ h => h) (Or.inl ⟨by rfl, by intro wv hSv; (try dsimp only at hSv); go_simp⟩) hSd rfl ?_
    try simp only [Act.put, List.setIfInBounds_toArray, List.set_cons_zero, List.set_cons_succ]
    refine take_dst 4 44 (.bool true) rfl (by kernel_rfl) (by kernel_rfl) (by kernel_rfl) (fun _ _ _ h => h) (Or.inl ⟨by rfl, by intro wv hSv; (try dsimp only at hSv); go_simp⟩) hSd rfl ?_
    try simp only [Act.put, List.setIfInBounds_toArray, List.set_cons_zero, List.set_cons_succ]
    refine take_dst 5 45 (.pointer (some ⟨UB, 2, none⟩)) rfl (by kernel_rfl) (by kernel_rfl) (by kernel_rfl) (fun _ _ _ h => h) (Or.inl ⟨by rfl, by intro wv hSv; (try dsimp only at hSv); go_simp⟩) hSd rfl ?_
    try simp only [Act.put, List.setIfInBounds_toArray, List.set_cons_zero, List.set_cons_succ]
    refine take_dst 6 46 (.int .i64 b) rfl (by kernel_rfl) (by kernel_rfl) (by kernel_rfl) (fun _ _ _ h => h) (Or.inl ⟨by rfl, by intro wv hSv; (try dsimp only at hSv); go_simp⟩) hSd rfl ?_
    try simp only [Act.put, List.setIfInBounds_toArray, List.set_cons_zero, List.set_cons_succ]
    refine take_dst 7 47 (.bool true) rfl (by kernel_rfl) (by kernel_rfl) (by kernel_rfl) (fun _ _ _ h => h) (Or.inl ⟨by rfl, by intro wv hSv; (try dsimp only at hSv); go_simp⟩) hSd rfl ?_
    try simp only [Act.put, List.setIfInBounds_toArray, List.set_cons_zero, List.set_cons_succ]
    refine take_dst 8 48 (.bool true) rfl (by kernel_rfl) (by kernel_rfl) (by kernel_rfl) (fun _ _ _ h => h) (Or.inl ⟨by rfl, by intro wv hSv; (try dsimp only at hSv); go_simp⟩) hSd rfl ?_
    try simp only [Act.put, List.setIfInBounds_toArray, List.set_cons_zero, List.set_cons_succ]
    refine take_dst 9 49 (.bool true) rfl (by kernel_rfl) (by kernel_rfl) (by kernel_rfl) (fun _ _ _ h => h) (Or.inl ⟨by rfl, by intro wv hSv; (try dsimp only at hSv); go_simp⟩) hSd rfl ?_
    try simp only [Act.put, List.setIfInBounds_toArray, List.set_cons_zero, List.set_cons_succ]
    refine take_dst 10 50 (.pointer (some ⟨UB, 6, none⟩)) rfl (by kernel_rfl) (by kernel_rfl) (by kernel_rfl) (fun _ _ _ h => h) (Or.inl ⟨by rfl, by intro wv hSv; (try dsimp only at hSv); go_simp⟩) hSd rfl ?_
    try simp only [Act.put, List.setIfInBounds_toArray, List.set_cons_zero, List.set_cons_succ]
    refine take_dst 11 51 (.int .i64 (-1)) rfl (by kernel_rfl) (by kernel_rfl) (by kernel_rfl) (fun _ _ _ h => h) (Or.inl ⟨by rfl, by intro wv hSv; (try dsimp only at hSv); go_simp⟩) hSd rfl ?_
    try simp only [Act.put, List.setIfInBounds_toArray, List.set_cons_zero, List.set_cons_succ]
    refine take_dst 12 52 (.bool false) rfl (by kernel_rfl) (by kernel_rfl) (by kernel_rfl) (fun _ _ _ h => h) (Or.inl ⟨by rfl, by intro wv hSv; (try dsimp only at hSv); go_simp⟩) hSd rfl ?_
    try simp only [Act.put, List.setIfInBounds_toArray, List.set_cons_zero, List.set_cons_succ]
    refine take_dst 13 53 (.bool false) rfl (by kernel_rfl) (by kernel_rfl) (by kernel_rfl) (fun _ _ _ h => h) (Or.inl ⟨by rfl, by intro wv hSv; (try dsimp only at hSv); go_simp⟩) hSd rfl ?_
    try simp only [Act.put, List.setIfInBounds_toArray, List.set_cons_zero, List.set_cons_succ]
    have hSe : (yz.drew.setRow w.heap.size #[.int .i64 a, .bool false, .int .i64 b, .slice none 0 0, .slice none 0 0, .slice none 0 0, .int .i64 (-1), .string ⟨#[]⟩, .slice none 0 0, .slice none 0 0]).cell? ⟨UB, 0, none⟩ = some (.int .i64 a) ∧ (yz.drew.setRow w.heap.size #[.int .i64 a, .bool false, .int .i64 b, .slice none 0 0, .slice none 0 0, .slice none 0 0, .int .i64 (-1), .string ⟨#[]⟩, .slice none 0 0, .slice none 0 0]).cell? ⟨UB, 1, none⟩ = some (.bool false) ∧ (yz.drew.setRow w.heap.size #[.int .i64 a, .bool false, .int .i64 b, .slice none 0 0, .slice none 0 0, .slice none 0 0, .int .i64 (-1), .string ⟨#[]⟩, .slice none 0 0, .slice none 0 0]).cell? ⟨UB, 2, none⟩ = some (.int .i64 b) ∧ (yz.drew.setRow w.heap.size #[.int .i64 a, .bool false, .int .i64 b, .slice none 0 0, .slice none 0 0, .slice none 0 0, .int .i64 (-1), .string ⟨#[]⟩, .slice none 0 0, .slice none 0 0]).cell? ⟨UB, 3, none⟩ = some (.slice none 0 0) ∧ (yz.drew.setRow w.heap.size #[.int .i64 a, .bool false, .int .i64 b, .slice none 0 0, .slice none 0 0, .slice none 0 0, .int .i64 (-1), .string ⟨#[]⟩, .slice none 0 0, .slice none 0 0]).cell? ⟨UB, 4, none⟩ = some (.slice none 0 0) ∧ (yz.drew.setRow w.heap.size #[.int .i64 a, .bool false, .int .i64 b, .slice none 0 0, .slice none 0 0, .slice none 0 0, .int .i64 (-1), .string ⟨#[]⟩, .slice none 0 0, .slice none 0 0]).cell? ⟨UB, 5, none⟩ = some (.slice none 0 0) ∧ (yz.drew.setRow w.heap.size #[.int .i64 a, .bool false, .int .i64 b, .slice none 0 0, .slice none 0 0, .slice none 0 0, .int .i64 (-1), .string ⟨#[]⟩, .slice none 0 0, .slice none 0 0]).cell? ⟨UB, 6, none⟩ = some (.int .i64 (-1)) ∧ (yz.drew.setRow w.heap.size #[.int .i64 a, .bool false, .int .i64 b, .slice none 0 0, .slice none 0 0, .slice none 0 0, .int .i64 (-1), .string ⟨#[]⟩, .slice none 0 0, .slice none 0 0]).cell? ⟨UB, 7, none⟩ = some (.string ⟨#[]⟩) ∧ (yz.drew.setRow w.heap.size #[.int .i64 a, .bool false, .int .i64 b, .slice none 0 0, .slice none 0 0, .slice none 0 0, .int .i64 (-1), .string ⟨#[]⟩, .slice none 0 0, .slice none 0 0]).cell? ⟨UB, 8, none⟩ = some (.slice none 0 0) ∧ (yz.drew.setRow w.heap.size #[.int .i64 a, .bool false, .int .i64 b, .slice none 0 0, .slice none 0 0, .slice none 0 0, .int .i64 (-1), .string ⟨#[]⟩, .slice none 0 0, .slice none 0 0]).cell? ⟨UB, 9, none⟩ = some (.slice none 0 0) := ⟨(World.cell?_of_block (setRow_other _ _ _ _ hne1)).trans u0, (World.cell?_of_block (setRow_other _ _ _ _ hne1)).trans u1, (World.cell?_of_block (setRow_other _ _ _ _ hne1)).trans u2, (World.cell?_of_block (setRow_other _ _ _ _ hne1)).trans u3, (World.cell?_of_block (setRow_other _ _ _ _ hne1)).trans u4, (World.cell?_of_block (setRow_other _ _ _ _ hne1)).trans u5, (World.cell?_of_block (setRow_other _ _ _ _ hne1)).trans u6, (World.cell?_of_block (setRow_other _ _ _ _ hne1)).trans u7, (World.cell?_of_block (setRow_other _ _ _ _ hne1)).trans u8, (World.cell?_of_block (setRow_other _ _ _ _ hne1)).trans u9⟩
    refine ready_storeL 14 (by kernel_rfl) rfl 53 (.tmp 2) (.tmp 40) rfl rfl rfl w.heap.size _ [.int .i64 a, .bool false, .int .i64 b, .slice none 0 0, .slice none 0 0, .slice none 0 0, .int .i64 (-1), .string ⟨#[]⟩, .slice none 0 0, .slice none 0 0] rfl rfl _ hRd.out infP1 rfl (by simp [Value.oneCell']) hSe ?_
    refine take_dst 15 3 (.bool false) rfl (by kernel_rfl) (by kernel_rfl) (by kernel_rfl) (fun _ _ _ h => h) (Or.inl ⟨by rfl, by intro wv hSv; (try dsimp only at hSv); go_simp⟩) hSe rfl ?_
    try simp only [Act.put, List.setIfInBounds_toArray, List.set_cons_zero, List.set_cons_succ]
    refine wpAnyH_done (by kernel_rfl) ?_ _
    go_wp2_with fail
    exact bodyPost_ret (v := .tuple #[hdV a b (-1) false, .bool false]) (by simp [results, Tryz.results20, go_sem, L.out.cell 0 rfl, L.out.cell 1 rfl, L.out.cell 2 rfl, L.out.cell 3 rfl, L.out.cell 4 rfl, L.out.cell 5 rfl, L.out.cell 6 rfl, L.out.cell 7 rfl, L.out.cell 8 rfl, L.out.cell 9 rfl]) rfl ⟨hE.out, bf⟩
  have hE : Hid (HeadEnds [p1, p2, p3] (.returned (.tuple #[hdV a b d false, .bool true]))) := ⟨a, b, d, false, true, rfl, fun _ => by rw [hR0.out, if_pos ⟨ha, hb, hd⟩], by simp⟩
  go_upto_region 6 with fail
  refine wp_region_held_drew (S := fun y => y.cell? ⟨UB, 0, none⟩ = some (.int .i64 a) ∧ y.cell? ⟨UB, 1, none⟩ = some (.bool false) ∧ y.cell? ⟨UB, 2, none⟩ = some (.int .i64 b) ∧ y.cell? ⟨UB, 3, none⟩ = some (.slice none 0 0) ∧ y.cell? ⟨UB, 4, none⟩ = some (.slice none 0 0) ∧ y.cell? ⟨UB, 5, none⟩ = some (.slice none 0 0) ∧ y.cell? ⟨UB, 6, none⟩ = some (.int .i64 d) ∧ y.cell? ⟨UB, 7, none⟩ = some (.string ⟨#[]⟩) ∧ y.cell? ⟨UB, 8, none⟩ = some (.slice none 0 0) ∧ y.cell? ⟨UB, 9, none⟩ = some (.slice none 0 0)) (by kernel_rfl) hSd (fun hH => ?_)
  clear hH
  refine take_dst 0 40 (.agg #[.int .i64 a, .bool false, .int .i64 b, .slice none 0 0, .slice none 0 0, .slice none 0 0, .int .i64 d, .string ⟨#[]⟩, .slice none 0 0, .slice none 0 0]) rfl (by kernel_rfl) (by kernel_rfl) (by kernel_rfl) (fun _ _ _ h => h) (Or.inl ⟨by rfl, by intro wv hSv; (try dsimp only at hSv); go_simp⟩) hSd rfl ?_
  try simp only [Act.put, List.setIfInBounds_toArray, List.set_cons_zero, List.set_cons_succ]
  refine take_dst 1 41 (.pointer (some ⟨UB, 0, none⟩)) rfl (by kernel_rfl) (by kernel_rfl) (by kernel_rfl) (fun _ _ _ h => h) (Or.inl ⟨by rfl, by intro wv hSv; (try dsimp only at hSv); go_simp⟩) hSd rfl ?_
  try simp only [Act.put, List.setIfInBounds_toArray, List.set_cons_zero, List.set_cons_succ]
  refine take_dst 2 42 (.int .i64 a) rfl (by kernel_rfl) (by kernel_rfl) (by kernel_rfl) (fun _ _ _ h => h) (Or.inl ⟨by rfl, by intro wv hSv; (try dsimp only at hSv); go_simp⟩) hSd rfl ?_
  try simp only [Act.put, List.setIfInBounds_toArray, List.set_cons_zero, List.set_cons_succ]
  refine take_dst 3 43 (.bool true) rfl (by kernel_rfl) (by kernel_rfl) (by kernel_rfl) (fun _ _ _ h => h) (Or.inl ⟨by rfl, by intro wv hSv; (try dsimp only at hSv); go_simp⟩) hSd rfl ?_
  try simp only [Act.put, List.setIfInBounds_toArray, List.set_cons_zero, List.set_cons_succ]
  refine take_dst 4 44 (.bool true) rfl (by kernel_rfl) (by kernel_rfl) (by kernel_rfl) (fun _ _ _ h => h) (Or.inl ⟨by rfl, by intro wv hSv; (try dsimp only at hSv); go_simp⟩) hSd rfl ?_
  try simp only [Act.put, List.setIfInBounds_toArray, List.set_cons_zero, List.set_cons_succ]
  refine take_dst 5 45 (.pointer (some ⟨UB, 2, none⟩)) rfl (by kernel_rfl) (by kernel_rfl) (by kernel_rfl) (fun _ _ _ h => h) (Or.inl ⟨by rfl, by intro wv hSv; (try dsimp only at hSv); go_simp⟩) hSd rfl ?_
  try simp only [Act.put, List.setIfInBounds_toArray, List.set_cons_zero, List.set_cons_succ]
  refine take_dst 6 46 (.int .i64 b) rfl (by kernel_rfl) (by kernel_rfl) (by kernel_rfl) (fun _ _ _ h => h) (Or.inl ⟨by rfl, by intro wv hSv; (try dsimp only at hSv); go_simp⟩) hSd rfl ?_
  try simp only [Act.put, List.setIfInBounds_toArray, List.set_cons_zero, List.set_cons_succ]
  refine take_dst 7 47 (.bool true) rfl (by kernel_rfl) (by kernel_rfl) (by kernel_rfl) (fun _ _ _ h => h) (Or.inl ⟨by rfl, by intro wv hSv; (try dsimp only at hSv); go_simp⟩) hSd rfl ?_
  try simp only [Act.put, List.setIfInBounds_toArray, List.set_cons_zero, List.set_cons_succ]
  refine take_dst 8 48 (.bool true) rfl (by kernel_rfl) (by kernel_rfl) (by kernel_rfl) (fun _ _ _ h => h) (Or.inl ⟨by rfl, by intro wv hSv; (try dsimp only at hSv); go_simp⟩) hSd rfl ?_
  try simp only [Act.put, List.setIfInBounds_toArray, List.set_cons_zero, List.set_cons_succ]
  refine take_dst 9 49 (.bool true) rfl (by kernel_rfl) (by kernel_rfl) (by kernel_rfl) (fun _ _ _ h => h) (Or.inl ⟨by rfl, by intro wv hSv; (try dsimp only at hSv); go_simp⟩) hSd rfl ?_
  try simp only [Act.put, List.setIfInBounds_toArray, List.set_cons_zero, List.set_cons_succ]
  refine take_dst 10 50 (.pointer (some ⟨UB, 6, none⟩)) rfl (by kernel_rfl) (by kernel_rfl) (by kernel_rfl) (fun _ _ _ h => h) (Or.inl ⟨by rfl, by intro wv hSv; (try dsimp only at hSv); go_simp⟩) hSd rfl ?_
  try simp only [Act.put, List.setIfInBounds_toArray, List.set_cons_zero, List.set_cons_succ]
  refine take_dst 11 51 (.int .i64 d) rfl (by kernel_rfl) (by kernel_rfl) (by kernel_rfl) (fun _ _ _ h => h) (Or.inl ⟨by rfl, by intro wv hSv; (try dsimp only at hSv); go_simp⟩) hSd rfl ?_
  try simp only [Act.put, List.setIfInBounds_toArray, List.set_cons_zero, List.set_cons_succ]
  refine take_dst 12 52 (.bool true) rfl (by kernel_rfl) (by kernel_rfl) (by kernel_rfl) (fun _ _ _ h => h) (Or.inl ⟨by rfl, by intro wv hSv; (try dsimp only at hSv); go_simp⟩) hSd rfl ?_
  try simp only [Act.put, List.setIfInBounds_toArray, List.set_cons_zero, List.set_cons_succ]
  refine take_dst 13 53 (.bool true) rfl (by kernel_rfl) (by kernel_rfl) (by kernel_rfl) (fun _ _ _ h => h) (Or.inl ⟨by rfl, by intro wv hSv; (try dsimp only at hSv); go_simp⟩) hSd rfl ?_
  try simp only [Act.put, List.setIfInBounds_toArray, List.set_cons_zero, List.set_cons_succ]
  have hSe : (yz.drew.setRow w.heap.size #[.int .i64 a, .bool false, .int .i64 b, .slice none 0 0, .slice none 0 0, .slice none 0 0, .int .i64 d, .string ⟨#[]⟩, .slice none 0 0, .slice none 0 0]).cell? ⟨UB, 0, none⟩ = some (.int .i64 a) ∧ (yz.drew.setRow w.heap.size #[.int .i64 a, .bool false, .int .i64 b, .slice none 0 0, .slice none 0 0, .slice none 0 0, .int .i64 d, .string ⟨#[]⟩, .slice none 0 0, .slice none 0 0]).cell? ⟨UB, 1, none⟩ = some (.bool false) ∧ (yz.drew.setRow w.heap.size #[.int .i64 a, .bool false, .int .i64 b, .slice none 0 0, .slice none 0 0, .slice none 0 0, .int .i64 d, .string ⟨#[]⟩, .slice none 0 0, .slice none 0 0]).cell? ⟨UB, 2, none⟩ = some (.int .i64 b) ∧ (yz.drew.setRow w.heap.size #[.int .i64 a, .bool false, .int .i64 b, .slice none 0 0, .slice none 0 0, .slice none 0 0, .int .i64 d, .string ⟨#[]⟩, .slice none 0 0, .slice none 0 0]).cell? ⟨UB, 3, none⟩ = some (.slice none 0 0) ∧ (yz.drew.setRow w.heap.size #[.int .i64 a, .bool false, .int .i64 b, .slice none 0 0, .slice none 0 0, .slice none 0 0, .int .i64 d, .string ⟨#[]⟩, .slice none 0 0, .slice none 0 0]).cell? ⟨UB, 4, none⟩ = some (.slice none 0 0) ∧ (yz.drew.setRow w.heap.size #[.int .i64 a, .bool false, .int .i64 b, .slice none 0 0, .slice none 0 0, .slice none 0 0, .int .i64 d, .string ⟨#[]⟩, .slice none 0 0, .slice none 0 0]).cell? ⟨UB, 5, none⟩ = some (.slice none 0 0) ∧ (yz.drew.setRow w.heap.size #[.int .i64 a, .bool false, .int .i64 b, .slice none 0 0, .slice none 0 0, .slice none 0 0, .int .i64 d, .string ⟨#[]⟩, .slice none 0 0, .slice none 0 0]).cell? ⟨UB, 6, none⟩ = some (.int .i64 d) ∧ (yz.drew.setRow w.heap.size #[.int .i64 a, .bool false, .int .i64 b, .slice none 0 0, .slice none 0 0, .slice none 0 0, .int .i64 d, .string ⟨#[]⟩, .slice none 0 0, .slice none 0 0]).cell? ⟨UB, 7, none⟩ = some (.string ⟨#[]⟩) ∧ (yz.drew.setRow w.heap.size #[.int .i64 a, .bool false, .int .i64 b, .slice none 0 0, .slice none 0 0, .slice none 0 0, .int .i64 d, .string ⟨#[]⟩, .slice none 0 0, .slice none 0 0]).cell? ⟨UB, 8, none⟩ = some (.slice none 0 0) ∧ (yz.drew.setRow w.heap.size #[.int .i64 a, .bool false, .int .i64 b, .slice none 0 0, .slice none 0 0, .slice none 0 0, .int .i64 d, .string ⟨#[]⟩, .slice none 0 0, .slice none 0 0]).cell? ⟨UB, 9, none⟩ = some (.slice none 0 0) := ⟨(World.cell?_of_block (setRow_other _ _ _ _ hne1)).trans u0, (World.cell?_of_block (setRow_other _ _ _ _ hne1)).trans u1, (World.cell?_of_block (setRow_other _ _ _ _ hne1)).trans u2, (World.cell?_of_block (setRow_other _ _ _ _ hne1)).trans u3, (World.cell?_of_block (setRow_other _ _ _ _ hne1)).trans u4, (World.cell?_of_block (setRow_other _ _ _ _ hne1)).trans u5, (World.cell?_of_block (setRow_other _ _ _ _ hne1)).trans u6, (World.cell?_of_block (setRow_other _ _ _ _ hne1)).trans u7, (World.cell?_of_block (setRow_other _ _ _ _ hne1)).trans u8, (World.cell?_of_block (setRow_other _ _ _ _ hne1)).trans u9⟩
  refine ready_storeL 14 (by kernel_rfl) rfl 53 (.tmp 2) (.tmp 40) rfl rfl rfl w.heap.size _ [.int .i64 a, .bool false, .int .i64 b, .slice none 0 0, .slice none 0 0, .slice none 0 0, .int .i64 d, .string ⟨#[]⟩, .slice none 0 0, .slice none 0 0] rfl rfl _ hRd.out infP1 rfl (by simp [Value.oneCell']) hSe ?_
  refine take_dst 15 3 (.bool true) rfl (by kernel_rfl) (by kernel_rfl) (by kernel_rfl) (fun _ _ _ h => h) (Or.inl ⟨by rfl, by intro wv hSv; (try dsimp only at hSv); go_simp⟩) hSe rfl ?_
  try simp only [Act.put, List.setIfInBounds_toArray, List.set_cons_zero, List.set_cons_succ]
  refine wpAnyH_done (by kernel_rfl) ?_ _
  go_wp2_with fail
  exact bodyPost_ret (v := .tuple #[hdV a b d false, .bool true]) (by simp [results, Tryz.results20, go_sem, L.out.cell 0 rfl, L.out.cell 1 rfl, L.out.cell 2 rfl, L.out.cell 3 rfl, L.out.cell 4 rfl, L.out.cell 5 rfl, L.out.cell 6 rfl, L.out.cell 7 rfl, L.out.cell 8 rfl, L.out.cell 9 rfl]) rfl ⟨hE.out, bf⟩
end Go.Proofs.YtkanjbopfflioaaGreatDoor

import Derived.Test.YtenonpajjlppjaaGreatDoorLjI
namespace Go.Proofs.YtenonpajjlppjaaGreatDoor
open Go.RowKit
set_option linter.unusedVariables false
set_option linter.unusedSimpArgs false
set_option maxRecDepth 100000
set_option maxHeartbeats 2000000
/-- the line of a word. -/
noncomputable def wordT (z : Int) : ByteArray :=
  if 33 < opW z then ⟨#[119, 111, 114, 100, 32]⟩ ++ dec z else if WideOp (opW z).toNat then nm (opW z).toNat ++ spB ++ dec (aW z) ++ spB ++ dec (sW z) else nm (opW z).toNat ++ spB ++ dec (aW z) ++ spB ++ dec (bW z) ++ spB ++ dec (cW z)
theorem add_str (X Y : ByteArray) (h : X.size + Y.size ≤ 100000) : X.size + Y.size ≤ 9223372036854775807 := by omega
theorem l6Word_wide (k : Nat) (hk : k < 34) (a b c s : Int) (da : (-9223372036854775808 ≤ a ∧ a ≤ 9223372036854775807)) (db : (-9223372036854775808 ≤ b ∧ b ≤ 9223372036854775807)) (dc : (-9223372036854775808 ≤ c ∧ c ≤ 9223372036854775807)) (ds : (-9223372036854775808 ≤ s ∧ s ≤ 9223372036854775807)) (z : Int)
    (hU : ∀ y, Calls Tryz.prog 67 #[.int .u32 z] y fun e w' => e = .returned (.agg #[.int .i64 (k : Int), .int .i64 a, .int .i64 b, .int .i64 c, .int .i64 s]) ∧ Below y.heap.size y w') (hw : WideOp k) (w : World) :
    Calls Tryz.prog 26 #[.int .u32 z] w fun e w' => e = .returned (.string (nm k ++ ⟨#[32]⟩ ++ dec a ++ ⟨#[32]⟩ ++ dec s)) ∧ Below w.heap.size w w' := by
  have hkI : ¬ (k : Int) > 33 := by omega
  have hwd := hidR (fun y => l6Wide_in k hk y)
  rw [decide_eq_true hw] at hwd
  have hnm := hidR (fun y => specName k hk y)
  have zn := nm_size hk
  have za := dec_size a da.1 da.2
  have zb := dec_size b db.1 db.2
  have zc := dec_size c dc.1 dc.2
  have zs := dec_size s ds.1 ds.2
  have ha := hidR (fun y => l6Num_in a da.1 da.2 y)
  have hb := hidR (fun y => l6Num_in b db.1 db.2 y)
  have hc := hidR (fun y => l6Num_in c dc.1 dc.2 y)
  have hs := hidR (fun y => l6Num_in s ds.1 ds.2 y)
  replace hU := hidR hU
  clear da db dc ds hw
  generalize nm k = N at hnm zn ⊢
  generalize dec a = A at ha za ⊢
  generalize dec b = B at hb zb ⊢
  generalize dec c = C at hc zc ⊢
  generalize dec s = S at hs zs ⊢
  go_enter Tryz.func26, Tryz.ntmps26
  go_wp2_with fail
  refine Calls.mono (hU.out _) ?_
  rintro e y1 ⟨rfl, b1⟩
  have R0 := RowL.new y1 [.int .i64 (k : Int), .int .i64 a, .int .i64 b, .int .i64 c, .int .i64 s] 93
  have b2 : Below w.heap.size w (y1.alloc (.cells #[.int .i64 (k : Int), .int .i64 a, .int .i64 b, .int .i64 c, .int .i64 s] 93)) := b1.alloc b1.size _
  clear hU b1
  go_upto_region 4 with fail
  replace R0 : RowL (y1.alloc (.cells #[.int .i64 (k : Int), .int .i64 a, .int .i64 b, .int .i64 c, .int .i64 s] 93)) y1.heap.size 93 [.int .i64 (k : Int), .int .i64 a, .int .i64 b, .int .i64 c, .int .i64 s] := R0
  generalize y1.alloc (.cells #[.int .i64 (k : Int), .int .i64 a, .int .i64 b, .int .i64 c, .int .i64 s] 93) = y2 at R0 b2 ⊢
  generalize y1.heap.size = I at R0 ⊢
  have c0 := R0.cell 0 rfl
  have cl := R0.lt
  replace R0 := hidR R0
  go_wp2_with fail
  refine Calls.mono (hwd.out _) ?_
  rintro e y3 ⟨rfl, b3⟩
  have R3 := hidR ((R0.out.call b3).call (Below.refl _ _).drew)
  have b4 := hidR ((b2.trans (b3.mono b2.size)).drew)
  clear R0 c0 cl b3 b2 hwd
  go_upto_region 5 with fail
  refine wp_region_held_drew (S := fun wv => RowL wv I 93 [.int .i64 (k : Int), .int .i64 a, .int .i64 b, .int .i64 c, .int .i64 s]) (by kernel_rfl) R3.out (fun hH => ?_)
  clear hH
  generalize y3.drew = y4 at R3 b4 ⊢
  refine take_dst 0 16 (.pointer (some ⟨I, 0, none⟩)) rfl (by kernel_rfl) (by kernel_rfl) (by kernel_rfl) (fun _ _ _ h => h) (Or.inl ⟨by rfl, by intro wv hSv; clear hSv; go_simp⟩) R3.out rfl ?_
  try simp only [Act.put, List.setIfInBounds_toArray, List.set_cons_zero, List.set_cons_succ]
  refine take_dst 1 17 (.int .i64 (k : Int)) rfl (by kernel_rfl) (by kernel_rfl) (by kernel_rfl) (fun _ _ _ h => h) (Or.inl ⟨by rfl, by intro wv hSv; have g0 := hSv.cell 0 rfl; clear hSv; go_simp⟩) R3.out rfl ?_
  try simp only [Act.put, List.setIfInBounds_toArray, List.set_cons_zero, List.set_cons_succ]
  refine take_dst 4 20 (.pointer (some ⟨I, 1, none⟩)) rfl (by kernel_rfl) (by kernel_rfl) (by kernel_rfl) (fun _ _ _ h => h) (Or.inl ⟨by rfl, by intro wv hSv; clear hSv; go_simp⟩) R3.out rfl ?_
  try simp only [Act.put, List.setIfInBounds_toArray, List.set_cons_zero, List.set_cons_succ]
  refine take_dst 5 21 (.int .i64 a) rfl (by kernel_rfl) (by kernel_rfl) (by kernel_rfl) (fun _ _ _ h => h) (Or.inl ⟨by rfl, by intro wv hSv; have g0 := hSv.cell 1 rfl; clear hSv; go_simp⟩) R3.out rfl ?_
  try simp only [Act.put, List.setIfInBounds_toArray, List.set_cons_zero, List.set_cons_succ]
  refine take_dst 9 25 (.pointer (some ⟨I, 4, none⟩)) rfl (by kernel_rfl) (by kernel_rfl) (by kernel_rfl) (fun _ _ _ h => h) (Or.inl ⟨by rfl, by intro wv hSv; clear hSv; go_simp⟩) R3.out rfl ?_
  try simp only [Act.put, List.setIfInBounds_toArray, List.set_cons_zero, List.set_cons_succ]
  refine take_dst 10 26 (.int .i64 s) rfl (by kernel_rfl) (by kernel_rfl) (by kernel_rfl) (fun _ _ _ h => h) (Or.inl ⟨by rfl, by intro wv hSv; have g0 := hSv.cell 4 rfl; clear hSv; go_simp⟩) R3.out rfl ?_
  try simp only [Act.put, List.setIfInBounds_toArray, List.set_cons_zero, List.set_cons_succ]
  refine wpAnyH_ready (rs := [2]) (by kernel_rfl) (by simp) ?_
  refine AllReadyH.cons rfl (fun K hK => ?_) AllReadyH.nil
  go_simp
  refine Calls.mono (hnm.out _) ?_
  rintro e y5 ⟨rfl, bq⟩
  have R5 := hidR (R3.out.call bq)
  have b5 := hidR (b4.out.trans (bq.mono b4.out.size))
  clear bq R3 b4 hnm
  go_wp2_with fail
  refine hK.out _ _ R5.out (fun hzz => ?_)
  clear hK K hzz
  try simp only [Act.put, List.setIfInBounds_toArray, List.set_cons_zero, List.set_cons_succ]
  refine take_dst 3 19 (.string (N ++ ⟨#[32]⟩)) rfl (by kernel_rfl) (by kernel_rfl) (by kernel_rfl) (fun _ _ _ h => h) (Or.inl ⟨by rfl, by intro wv hSv; clear hSv; go_simp <;> omega⟩) R5.out rfl ?_
  try simp only [Act.put, List.setIfInBounds_toArray, List.set_cons_zero, List.set_cons_succ]
  refine wpAnyH_ready (rs := [6]) (by kernel_rfl) (by simp) ?_
  refine AllReadyH.cons rfl (fun K hK => ?_) AllReadyH.nil
  go_simp
  refine Calls.mono (ha.out _) ?_
  rintro e y6 ⟨rfl, bq⟩
  have R6 := hidR (R5.out.call bq)
  have b6 := hidR (b5.out.trans (bq.mono b5.out.size))
  clear bq R5 b5 ha
  go_wp2_with fail
  refine hK.out _ _ R6.out (fun hzz => ?_)
  clear hK K hzz
  try simp only [Act.put, List.setIfInBounds_toArray, List.set_cons_zero, List.set_cons_succ]
  refine take_dst 7 23 (.string (N ++ ⟨#[32]⟩ ++ A)) rfl (by kernel_rfl) (by kernel_rfl) (by kernel_rfl) (fun _ _ _ h => h) (Or.inl ⟨by rfl, by intro wv hSv; clear hSv; go_simp <;> omega⟩) R6.out rfl ?_
  try simp only [Act.put, List.setIfInBounds_toArray, List.set_cons_zero, List.set_cons_succ]
  refine take_dst 8 24 (.string (N ++ ⟨#[32]⟩ ++ A ++ ⟨#[32]⟩)) rfl (by kernel_rfl) (by kernel_rfl) (by kernel_rfl) (fun _ _ _ h => h) (Or.inl ⟨by rfl, by intro wv hSv; clear hSv; go_simp <;> omega⟩) R6.out rfl ?_
  try simp only [Act.put, List.setIfInBounds_toArray, List.set_cons_zero, List.set_cons_succ]
  refine wpAnyH_ready (rs := [11]) (by kernel_rfl) (by simp) ?_
  refine AllReadyH.cons rfl (fun K hK => ?_) AllReadyH.nil
  go_simp
  refine Calls.mono (hs.out _) ?_
  rintro e y7 ⟨rfl, bq⟩
  have R7 := hidR (R6.out.call bq)
  have b7 := hidR (b6.out.trans (bq.mono b6.out.size))
  clear bq R6 b6 hs
  go_wp2_with fail
  refine hK.out _ _ R7.out (fun hzz => ?_)
  clear hK K hzz
  try simp only [Act.put, List.setIfInBounds_toArray, List.set_cons_zero, List.set_cons_succ]
  refine take_dst 12 28 (.string (N ++ ⟨#[32]⟩ ++ A ++ ⟨#[32]⟩ ++ S)) rfl (by kernel_rfl) (by kernel_rfl) (by kernel_rfl) (fun _ _ _ h => h) (Or.inl ⟨by rfl, by intro wv hSv; clear hSv; go_simp <;> omega⟩) R7.out rfl ?_
  try simp only [Act.put, List.setIfInBounds_toArray, List.set_cons_zero, List.set_cons_succ]
  refine wpAnyH_ready (rs := [13]) (by kernel_rfl) (by simp) ?_
  refine AllReadyH.cons rfl (fun K hK => ?_) AllReadyH.nil
  go_simp
  refine hK.out _ _ R7.out (fun hzz => ?_)
  clear hK K hzz
  try simp only [Act.put, List.setIfInBounds_toArray, List.set_cons_zero, List.set_cons_succ]
  refine wpAnyH_done (by kernel_rfl) ?_ _
  go_wp2_with fail
  go_ret
  exact ⟨rfl, b7.out⟩
theorem l6Word_abc (k : Nat) (hk : k < 34) (a b c s : Int) (da : (-9223372036854775808 ≤ a ∧ a ≤ 9223372036854775807)) (db : (-9223372036854775808 ≤ b ∧ b ≤ 9223372036854775807)) (dc : (-9223372036854775808 ≤ c ∧ c ≤ 9223372036854775807)) (ds : (-9223372036854775808 ≤ s ∧ s ≤ 9223372036854775807)) (z : Int)
    (hU : ∀ y, Calls Tryz.prog 67 #[.int .u32 z] y fun e w' => e = .returned (.agg #[.int .i64 (k : Int), .int .i64 a, .int .i64 b, .int .i64 c, .int .i64 s]) ∧ Below y.heap.size y w') (hw : ¬ WideOp k) (w : World) :
    Calls Tryz.prog 26 #[.int .u32 z] w fun e w' => e = .returned (.string (nm k ++ ⟨#[32]⟩ ++ dec a ++ ⟨#[32]⟩ ++ dec b ++ ⟨#[32]⟩ ++ dec c)) ∧ Below w.heap.size w w' := by
  have hkI : ¬ (k : Int) > 33 := by omega
  have hwd := hidR (fun y => l6Wide_in k hk y)
  rw [decide_eq_false hw] at hwd
  have hnm := hidR (fun y => specName k hk y)
  have zn := nm_size hk
  have za := dec_size a da.1 da.2
  have zb := dec_size b db.1 db.2
  have zc := dec_size c dc.1 dc.2
  have zs := dec_size s ds.1 ds.2
  have ha := hidR (fun y => l6Num_in a da.1 da.2 y)
  have hb := hidR (fun y => l6Num_in b db.1 db.2 y)
  have hc := hidR (fun y => l6Num_in c dc.1 dc.2 y)
  have hs := hidR (fun y => l6Num_in s ds.1 ds.2 y)
  replace hU := hidR hU
  clear da db dc ds hw
  generalize nm k = N at hnm zn ⊢
  generalize dec a = A at ha za ⊢
  generalize dec b = B at hb zb ⊢
  generalize dec c = C at hc zc ⊢
  generalize dec s = S at hs zs ⊢
  go_enter Tryz.func26, Tryz.ntmps26
  go_wp2_with fail
  refine Calls.mono (hU.out _) ?_
  rintro e y1 ⟨rfl, b1⟩
  have R0 := RowL.new y1 [.int .i64 (k : Int), .int .i64 a, .int .i64 b, .int .i64 c, .int .i64 s] 93
  have b2 : Below w.heap.size w (y1.alloc (.cells #[.int .i64 (k : Int), .int .i64 a, .int .i64 b, .int .i64 c, .int .i64 s] 93)) := b1.alloc b1.size _
  clear hU b1
  go_upto_region 4 with fail
  replace R0 : RowL (y1.alloc (.cells #[.int .i64 (k : Int), .int .i64 a, .int .i64 b, .int .i64 c, .int .i64 s] 93)) y1.heap.size 93 [.int .i64 (k : Int), .int .i64 a, .int .i64 b, .int .i64 c, .int .i64 s] := R0
  generalize y1.alloc (.cells #[.int .i64 (k : Int), .int .i64 a, .int .i64 b, .int .i64 c, .int .i64 s] 93) = y2 at R0 b2 ⊢
  generalize y1.heap.size = I at R0 ⊢
  have c0 := R0.cell 0 rfl
  have cl := R0.lt
  replace R0 := hidR R0
  go_wp2_with fail
  refine Calls.mono (hwd.out _) ?_
  rintro e y3 ⟨rfl, b3⟩
  have R3 := hidR ((R0.out.call b3).call (Below.refl _ _).drew)
  have b4 := hidR ((b2.trans (b3.mono b2.size)).drew)
  clear R0 c0 cl b3 b2 hwd
  go_upto_region 6 with fail
  refine wp_region_held_drew (S := fun wv => RowL wv I 93 [.int .i64 (k : Int), .int .i64 a, .int .i64 b, .int .i64 c, .int .i64 s]) (by kernel_rfl) R3.out (fun hH => ?_)
  clear hH
  generalize y3.drew = y4 at R3 b4 ⊢
  refine take_dst 0 29 (.pointer (some ⟨I, 0, none⟩)) rfl (by kernel_rfl) (by kernel_rfl) (by kernel_rfl) (fun _ _ _ h => h) (Or.inl ⟨by rfl, by intro wv hSv; clear hSv; go_simp⟩) R3.out rfl ?_
  try simp only [Act.put, List.setIfInBounds_toArray, List.set_cons_zero, List.set_cons_succ]
  refine take_dst 1 30 (.int .i64 (k : Int)) rfl (by kernel_rfl) (by kernel_rfl) (by kernel_rfl) (fun _ _ _ h => h) (Or.inl ⟨by rfl, by intro wv hSv; have g0 := hSv.cell 0 rfl; clear hSv; go_simp⟩) R3.out rfl ?_
  try simp only [Act.put, List.setIfInBounds_toArray, List.set_cons_zero, List.set_cons_succ]
  refine take_dst 4 33 (.pointer (some ⟨I, 1, none⟩)) rfl (by kernel_rfl) (by kernel_rfl) (by kernel_rfl) (fun _ _ _ h => h) (Or.inl ⟨by rfl, by intro wv hSv; clear hSv; go_simp⟩) R3.out rfl ?_
  try simp only [Act.put, List.setIfInBounds_toArray, List.set_cons_zero, List.set_cons_succ]
  refine take_dst 5 34 (.int .i64 a) rfl (by kernel_rfl) (by kernel_rfl) (by kernel_rfl) (fun _ _ _ h => h) (Or.inl ⟨by rfl, by intro wv hSv; have g0 := hSv.cell 1 rfl; clear hSv; go_simp⟩) R3.out rfl ?_
  try simp only [Act.put, List.setIfInBounds_toArray, List.set_cons_zero, List.set_cons_succ]
  refine take_dst 9 38 (.pointer (some ⟨I, 2, none⟩)) rfl (by kernel_rfl) (by kernel_rfl) (by kernel_rfl) (fun _ _ _ h => h) (Or.inl ⟨by rfl, by intro wv hSv; clear hSv; go_simp⟩) R3.out rfl ?_
  try simp only [Act.put, List.setIfInBounds_toArray, List.set_cons_zero, List.set_cons_succ]
  refine take_dst 10 39 (.int .i64 b) rfl (by kernel_rfl) (by kernel_rfl) (by kernel_rfl) (fun _ _ _ h => h) (Or.inl ⟨by rfl, by intro wv hSv; have g0 := hSv.cell 2 rfl; clear hSv; go_simp⟩) R3.out rfl ?_
  try simp only [Act.put, List.setIfInBounds_toArray, List.set_cons_zero, List.set_cons_succ]
  refine take_dst 14 43 (.pointer (some ⟨I, 3, none⟩)) rfl (by kernel_rfl) (by kernel_rfl) (by kernel_rfl) (fun _ _ _ h => h) (Or.inl ⟨by rfl, by intro wv hSv; clear hSv; go_simp⟩) R3.out rfl ?_
  try simp only [Act.put, List.setIfInBounds_toArray, List.set_cons_zero, List.set_cons_succ]
  refine take_dst 15 44 (.int .i64 c) rfl (by kernel_rfl) (by kernel_rfl) (by kernel_rfl) (fun _ _ _ h => h) (Or.inl ⟨by rfl, by intro wv hSv; have g0 := hSv.cell 3 rfl; clear hSv; go_simp⟩) R3.out rfl ?_
  try simp only [Act.put, List.setIfInBounds_toArray, List.set_cons_zero, List.set_cons_succ]
  refine wpAnyH_ready (rs := [2]) (by kernel_rfl) (by simp) ?_
  refine AllReadyH.cons rfl (fun K hK => ?_) AllReadyH.nil
  go_simp
  refine Calls.mono (hnm.out _) ?_
  rintro e y5 ⟨rfl, bq⟩
  have R5 := hidR (R3.out.call bq)
  have b5 := hidR (b4.out.trans (bq.mono b4.out.size))
  clear bq R3 b4 hnm
  go_wp2_with fail
  refine hK.out _ _ R5.out (fun hzz => ?_)
  clear hK K hzz
  try simp only [Act.put, List.setIfInBounds_toArray, List.set_cons_zero, List.set_cons_succ]
  refine take_dst 3 32 (.string (N ++ ⟨#[32]⟩)) rfl (by kernel_rfl) (by kernel_rfl) (by kernel_rfl) (fun _ _ _ h => h) (Or.inl ⟨by rfl, by intro wv hSv; clear hSv; go_simp <;> omega⟩) R5.out rfl ?_
  try simp only [Act.put, List.setIfInBounds_toArray, List.set_cons_zero, List.set_cons_succ]
  refine wpAnyH_ready (rs := [6]) (by kernel_rfl) (by simp) ?_
  refine AllReadyH.cons rfl (fun K hK => ?_) AllReadyH.nil
  go_simp
  refine Calls.mono (ha.out _) ?_
  rintro e y6 ⟨rfl, bq⟩
  have R6 := hidR (R5.out.call bq)
  have b6 := hidR (b5.out.trans (bq.mono b5.out.size))
  clear bq R5 b5 ha
  go_wp2_with fail
  refine hK.out _ _ R6.out (fun hzz => ?_)
  clear hK K hzz
  try simp only [Act.put, List.setIfInBounds_toArray, List.set_cons_zero, List.set_cons_succ]
  refine take_dst 7 36 (.string (N ++ ⟨#[32]⟩ ++ A)) rfl (by kernel_rfl) (by kernel_rfl) (by kernel_rfl) (fun _ _ _ h => h) (Or.inl ⟨by rfl, by intro wv hSv; clear hSv; go_simp <;> omega⟩) R6.out rfl ?_
  try simp only [Act.put, List.setIfInBounds_toArray, List.set_cons_zero, List.set_cons_succ]
  refine take_dst 8 37 (.string (N ++ ⟨#[32]⟩ ++ A ++ ⟨#[32]⟩)) rfl (by kernel_rfl) (by kernel_rfl) (by kernel_rfl) (fun _ _ _ h => h) (Or.inl ⟨by rfl, by intro wv hSv; clear hSv; go_simp <;> omega⟩) R6.out rfl ?_
  try simp only [Act.put, List.setIfInBounds_toArray, List.set_cons_zero, List.set_cons_succ]
  refine wpAnyH_ready (rs := [11]) (by kernel_rfl) (by simp) ?_
  refine AllReadyH.cons rfl (fun K hK => ?_) AllReadyH.nil
  go_simp
  refine Calls.mono (hb.out _) ?_
  rintro e y7 ⟨rfl, bq⟩
  have R7 := hidR (R6.out.call bq)
  have b7 := hidR (b6.out.trans (bq.mono b6.out.size))
  clear bq R6 b6 hb
  go_wp2_with fail
  refine hK.out _ _ R7.out (fun hzz => ?_)
  clear hK K hzz
  try simp only [Act.put, List.setIfInBounds_toArray, List.set_cons_zero, List.set_cons_succ]
  refine take_dst 12 41 (.string (N ++ ⟨#[32]⟩ ++ A ++ ⟨#[32]⟩ ++ B)) rfl (by kernel_rfl) (by kernel_rfl) (by kernel_rfl) (fun _ _ _ h => h) (Or.inl ⟨by rfl, by intro wv hSv; clear hSv; go_simp <;> omega⟩) R7.out rfl ?_
  try simp only [Act.put, List.setIfInBounds_toArray, List.set_cons_zero, List.set_cons_succ]
  refine take_dst 13 42 (.string (N ++ ⟨#[32]⟩ ++ A ++ ⟨#[32]⟩ ++ B ++ ⟨#[32]⟩)) rfl (by kernel_rfl) (by kernel_rfl) (by kernel_rfl) (fun _ _ _ h => h) (Or.inl ⟨by rfl, by intro wv hSv; clear hSv; go_simp <;> omega⟩) R7.out rfl ?_
  try simp only [Act.put, List.setIfInBounds_toArray, List.set_cons_zero, List.set_cons_succ]
  refine wpAnyH_ready (rs := [16]) (by kernel_rfl) (by simp) ?_
  refine AllReadyH.cons rfl (fun K hK => ?_) AllReadyH.nil
  go_simp
  refine Calls.mono (hc.out _) ?_
  rintro e y8 ⟨rfl, bq⟩
  have R8 := hidR (R7.out.call bq)
  have b8 := hidR (b7.out.trans (bq.mono b7.out.size))
  clear bq R7 b7 hc
  go_wp2_with fail
  refine hK.out _ _ R8.out (fun hzz => ?_)
  clear hK K hzz
  try simp only [Act.put, List.setIfInBounds_toArray, List.set_cons_zero, List.set_cons_succ]
  refine take_dst 17 46 (.string (N ++ ⟨#[32]⟩ ++ A ++ ⟨#[32]⟩ ++ B ++ ⟨#[32]⟩ ++ C)) rfl (by kernel_rfl) (by kernel_rfl) (by kernel_rfl) (fun _ _ _ h => h) (Or.inl ⟨by rfl, by intro wv hSv; clear hSv; go_simp <;> omega⟩) R8.out rfl ?_
  try simp only [Act.put, List.setIfInBounds_toArray, List.set_cons_zero, List.set_cons_succ]
  refine wpAnyH_ready (rs := [18]) (by kernel_rfl) (by simp) ?_
  refine AllReadyH.cons rfl (fun K hK => ?_) AllReadyH.nil
  go_simp
  refine hK.out _ _ R8.out (fun hzz => ?_)
  clear hK K hzz
  try simp only [Act.put, List.setIfInBounds_toArray, List.set_cons_zero, List.set_cons_succ]
  refine wpAnyH_done (by kernel_rfl) ?_ _
  go_wp2_with fail
  go_ret
  exact ⟨rfl, b8.out⟩
end Go.Proofs.YtenonpajjlppjaaGreatDoor

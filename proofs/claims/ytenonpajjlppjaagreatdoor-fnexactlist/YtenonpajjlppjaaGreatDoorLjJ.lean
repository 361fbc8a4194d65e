import Derived.Test.YtenonpajjlppjaaGreatDoorLjX
import Derived.Test.YtenonpajjlppjaaGreatDoorLjE
import Derived.Test.YtenonpajjlppjaaGreatDoorUgA
namespace Go.Proofs.YtenonpajjlppjaaGreatDoor
open Go.RowKit
set_option linter.unusedVariables false
set_option linter.unusedSimpArgs false
set_option maxRecDepth 100000
set_option maxHeartbeats 2000000
theorem us_wide (k : Nat) (h : k < 34) : usC k 3 = .int .i64 (if WideOp k then (if k = 1 then 3 else if k = 25 then 5 else 6) else 0) := by
  match k, h with
  | 0, _ => rfl
  | 1, _ => rfl
  | 2, _ => rfl
  | 3, _ => rfl
  | 4, _ => rfl
  | 5, _ => rfl
  | 6, _ => rfl
  | 7, _ => rfl
  | 8, _ => rfl
  | 9, _ => rfl
  | 10, _ => rfl
  | 11, _ => rfl
  | 12, _ => rfl
  | 13, _ => rfl
  | 14, _ => rfl
  | 15, _ => rfl
  | 16, _ => rfl
  | 17, _ => rfl
  | 18, _ => rfl
  | 19, _ => rfl
  | 20, _ => rfl
  | 21, _ => rfl
  | 22, _ => rfl
  | 23, _ => rfl
  | 24, _ => rfl
  | 25, _ => rfl
  | 26, _ => rfl
  | 27, _ => rfl
  | 28, _ => rfl
  | 29, _ => rfl
  | 30, _ => rfl
  | 31, _ => rfl
  | 32, _ => rfl
  | 33, _ => rfl
  | n + 34, h => omega
theorem Lw.use {P : Nat} {w0 y : World} {v0 v : Value} {X : ByteArray} (h : Lw P usTab.toList w0 v0 y v X) {n j : Nat} (hn : n < 64) (hj : j < 10) : y.cell? ⟨P, 2 + (10 * n + j), none⟩ = some (usC n j) := by
  obtain ⟨a, _, hb⟩ := h.box
  refine hb.cell _ ?_
  have := usTab_get hn hj
  rw [← Array.getElem?_toList] at this
  rw [show 2 + (10 * n + j) = (10 * n + j) + 1 + 1 by omega, List.getElem?_cons_succ, List.getElem?_cons_succ]
  exact this
theorem lword_wide (P : Nat) (k : Nat) (hk : k < 34) (a b c s : Int) (da : (-9223372036854775808 ≤ a ∧ a ≤ 9223372036854775807)) (db : (-9223372036854775808 ≤ b ∧ b ≤ 9223372036854775807)) (dc : (-9223372036854775808 ≤ c ∧ c ≤ 9223372036854775807)) (ds : (-9223372036854775808 ≤ s ∧ s ≤ 9223372036854775807)) (z : Int) (w0 : World) (v0 : Value) (y : World) (v : Value) (X : ByteArray) (h : Lw P usTab.toList w0 v0 y v X) (hS : Spans y) (hN : Named y) (ht : PowTab y) (hs : X.size ≤ 70368744177664)
    (hU : ∀ y, Spans y → Calls Tryz.prog 93 #[.int .u32 z] y fun e w' => e = .returned (.agg #[.int .i64 (k : Int), .int .i64 a, .int .i64 b, .int .i64 c, .int .i64 s]) ∧ Below y.heap.size y w') (hw : WideOp k) :
    Calls Tryz.prog 55 #[.pointer (some ⟨P, 0, none⟩), .int .u32 z] y fun e w' => ∃ v', e = .returned (.tuple #[]) ∧ Lw P usTab.toList w0 v0 w' v' (X ++ (nm k ++ spB ++ dec a ++ spB ++ dec s ++ ⟨#[10]⟩)) := by
  have hkI : ¬ (k : Int) > 33 := by omega
  have hk64 : (k : Int) < 64 := by omega
  have hun := hidR (hU y hS)
  have hL := hidR h
  have hup : lineB [nm k, joinB [dec a, dec s]] = nm k ++ spB ++ dec a ++ spB ++ dec s ++ ⟨#[10]⟩ := by
    unfold lineB
    rw [joinB_more, joinB_one, joinB_more, joinB_one]
    simp only [ByteArray.append_assoc]
  have zj : (joinB [dec a, dec s]).size ≤ 1000 := by
    have z1 := dec_size a da.1 da.2
    have z2 := dec_size b db.1 db.2
    have z3 := dec_size c dc.1 dc.2
    have z4 := dec_size s ds.1 ds.2
    rw [joinB_size2]
    omega
  have hjs : (joinB [nm k, joinB [dec a, dec s]]).size ≤ 100000 := by
    have z0 := nm_size hk
    rw [joinB_size2]
    omega
  obtain ⟨Z, hZ⟩ : ∃ Z : ByteArray, nm k ++ spB ++ dec a ++ spB ++ dec s ++ ⟨#[10]⟩ = Z := ⟨_, rfl⟩
  rw [hZ] at hup ⊢
  have hnm := hidR (fun y => fun h => implName k hk y h)
  have hdm := hidR (show ∀ (y1 : World) (bk : Nat), PowTab y1 → bk < y1.heap.size → (∀ (j : Nat) x, ([a, s] : List Int)[j]? = some x → y1.cell? ⟨bk, 0 + j, none⟩ = some (.int .i64 x)) → Calls Tryz.prog 51 #[.slice (some ⟨bk, 0, none⟩) 2 2] y1 fun e w' => e = .returned (.string (joinB [dec a, dec s])) ∧ Below y1.heap.size y1 w' from
    fun y1 bk hp hb hc => decimals_in [a, s] bk 0 2 y1 hc hb (by simp) (by simp) (fun x hx => by simp at hx; rcases hx with rfl | rfl <;> assumption) hp (by show (joinB [dec a, dec s]).size ≤ 100000; omega) (by omega))
  have hln := hidR (show ∀ (y1 : World) (bk : Nat), Lw P usTab.toList w0 v0 y1 v X → bk < y1.heap.size → (∀ (j : Nat) x, ([nm k, joinB [dec a, dec s]] : List ByteArray)[j]? = some x → y1.cell? ⟨bk, 0 + j, none⟩ = some (.string x)) → Calls Tryz.prog 52 #[.pointer (some ⟨P, 0, none⟩), .slice (some ⟨bk, 0, none⟩) 2 2] y1 fun e w' => ∃ v', e = .returned (.tuple #[]) ∧ Lw P usTab.toList w0 v0 w' v' (X ++ lineB [nm k, joinB [dec a, dec s]]) ∧ Fr (fun k => k = P) y1 v w' v' from
    fun y1 bk hl hbk hc => (line_in P usTab.toList (by rw [Array.length_toList, usTab_size]) bk 0 2 [nm k, joinB [dec a, dec s]] y1 v y1 v X hl.fresh hc hbk (by simp) (by simp) hjs hs).mono fun e w' ⟨v', he, h'⟩ => ⟨v', he, hl.trans h', h'.fr⟩)
  rw [hup] at hln
  generalize joinB [dec a, dec s] = D at hdm hln
  generalize nm k = N at hnm hln
  replace hS := hidR hS
  replace hN := hidR hN
  replace ht := hidR ht
  clear hU h hup hjs zj hZ da db dc ds
  go_enter Tryz.func55, Tryz.ntmps55
  go_wp2_with fail
  refine Calls.mono hun.out ?_
  rintro e y1 ⟨rfl, b1⟩
  have R0 := RowL.new y1 [.int .i64 (k : Int), .int .i64 a, .int .i64 b, .int .i64 c, .int .i64 s] 93
  have b2 : Below y.heap.size y (y1.alloc (.cells #[.int .i64 (k : Int), .int .i64 a, .int .i64 b, .int .i64 c, .int .i64 s] 93)) := b1.alloc b1.size _
  have bz1 := b1.size
  clear hun b1
  go_upto_region 4 with fail
  replace R0 : RowL (y1.alloc (.cells #[.int .i64 (k : Int), .int .i64 a, .int .i64 b, .int .i64 c, .int .i64 s] 93)) y1.heap.size 93 [.int .i64 (k : Int), .int .i64 a, .int .i64 b, .int .i64 c, .int .i64 s] := R0
  have hPI : P < y1.heap.size := Nat.lt_of_lt_of_le hL.out.lt bz1
  have hvI := hidR (fun q (hq : v.ownBlock = some q) => show q < y1.heap.size from Nat.lt_of_lt_of_le (hL.out.buf.lt q hq) bz1)
  clear bz1
  generalize y1.alloc (.cells #[.int .i64 (k : Int), .int .i64 a, .int .i64 b, .int .i64 c, .int .i64 s] 93) = y2 at R0 b2 ⊢
  generalize y1.heap.size = I at R0 hPI hvI ⊢
  have hu := us_wide k hk
  obtain ⟨sv, hsv⟩ : ∃ sv : Int, (if WideOp k then (if k = 1 then (3 : Int) else if k = 25 then 5 else 6) else 0) = sv := ⟨_, rfl⟩
  rw [hsv] at hu
  have hb9 : (sv != 0) = true := by
    rw [← hsv]
    rw [if_pos hw]
    split
    · rfl
    · split <;> rfl
  have b3 := hidR b2.drew
  have q0 := hidR ((hL.out.later b3.out).use (n := k) (j := 3) (by omega) (by omega))
  rw [hu, show 2 + (10 * k + 3) = 2 + k * 10 + 3 by omega] at q0
  have R3 := hidR (R0.call (Below.refl _ _).drew)
  clear R0 hu hsv hw b2
  refine wp_region_held_drew (S := fun wv => RowL wv I 93 [.int .i64 (k : Int), .int .i64 a, .int .i64 b, .int .i64 c, .int .i64 s] ∧ wv.cell? ⟨P, 2 + k * 10 + 3, none⟩ = some (.int .i64 sv)) (by kernel_rfl) ⟨R3.out, q0.out⟩ (fun hH => ?_)
  refine take_dst 0 32 (.pointer (some ⟨P, 0, none⟩)) rfl (by kernel_rfl) (by kernel_rfl) (by kernel_rfl) (fun _ _ _ h => h) (Or.inl ⟨by rfl, by intro wv hSv; clear hSv; go_simp⟩) hH rfl ?_
  try simp only [Act.put, List.setIfInBounds_toArray, List.set_cons_zero, List.set_cons_succ]
  refine take_dst 1 33 (.pointer (some ⟨I, 0, none⟩)) rfl (by kernel_rfl) (by kernel_rfl) (by kernel_rfl) (fun _ _ _ h => h) (Or.inl ⟨by rfl, by intro wv hSv; clear hSv; go_simp⟩) hH rfl ?_
  try simp only [Act.put, List.setIfInBounds_toArray, List.set_cons_zero, List.set_cons_succ]
  refine take_dst 2 34 (.int .i64 (k : Int)) rfl (by kernel_rfl) (by kernel_rfl) (by kernel_rfl) (fun _ _ _ h => h) (Or.inl ⟨by rfl, by intro wv hSv; have g0 := hSv.1.cell 0 rfl; clear hSv; go_simp⟩) hH rfl ?_
  try simp only [Act.put, List.setIfInBounds_toArray, List.set_cons_zero, List.set_cons_succ]
  refine take_dst 3 35 (.pointer (some ⟨P, 0, none⟩)) rfl (by kernel_rfl) (by kernel_rfl) (by kernel_rfl) (fun _ _ _ h => h) (Or.inl ⟨by rfl, by intro wv hSv; clear hSv; go_simp⟩) hH rfl ?_
  try simp only [Act.put, List.setIfInBounds_toArray, List.set_cons_zero, List.set_cons_succ]
  refine take_dst 4 36 (.pointer (some ⟨P, 2, none⟩)) rfl (by kernel_rfl) (by kernel_rfl) (by kernel_rfl) (fun _ _ _ h => h) (Or.inl ⟨by rfl, by intro wv hSv; clear hSv; go_simp⟩) hH rfl ?_
  try simp only [Act.put, List.setIfInBounds_toArray, List.set_cons_zero, List.set_cons_succ]
  refine take_dst 5 37 (.pointer (some ⟨P, 2 + k * 10, none⟩)) rfl (by kernel_rfl) (by kernel_rfl) (by kernel_rfl) (fun _ _ _ h => h) (Or.inl ⟨by rfl, by intro wv hSv; clear hSv; go_simp⟩) hH rfl ?_
  try simp only [Act.put, List.setIfInBounds_toArray, List.set_cons_zero, List.set_cons_succ]
  refine take_dst 6 38 (.pointer (some ⟨P, 2 + k * 10 + 3, none⟩)) rfl (by kernel_rfl) (by kernel_rfl) (by kernel_rfl) (fun _ _ _ h => h) (Or.inl ⟨by rfl, by intro wv hSv; clear hSv; go_simp⟩) hH rfl ?_
  try simp only [Act.put, List.setIfInBounds_toArray, List.set_cons_zero, List.set_cons_succ]
  refine take_dst 7 39 (.int .i64 sv) rfl (by kernel_rfl) (by kernel_rfl) (by kernel_rfl) (fun _ _ _ h => h) (Or.inl ⟨by rfl, by intro wv hSv; have g0 := hSv.2; clear hSv; go_simp⟩) hH rfl ?_
  try simp only [Act.put, List.setIfInBounds_toArray, List.set_cons_zero, List.set_cons_succ]
  refine take_dst 8 40 (.bool (sv != 0)) rfl (by kernel_rfl) (by kernel_rfl) (by kernel_rfl) (fun _ _ _ h => h) (Or.inl ⟨by rfl, by intro wv hSv; clear hSv; go_simp⟩) hH rfl ?_
  try simp only [Act.put, List.setIfInBounds_toArray, List.set_cons_zero, List.set_cons_succ]
  rw [hb9]
  refine wpAnyH_ready (rs := [9]) (by kernel_rfl) (by simp) ?_
  refine AllReadyH.cons rfl (fun K hK => ?_) AllReadyH.nil
  go_simp
  refine hK.out _ _ hH (fun hzz => ?_)
  clear hK K hzz
  try simp only [Act.put, List.setIfInBounds_toArray, List.set_cons_zero, List.set_cons_succ]
  refine wpAnyH_done (by kernel_rfl) ?_ _
  clear hH q0 hb9
  generalize y2.drew = y3 at R3 b3 ⊢
  go_upto_region 5 with fail
  have R5 := hidR (R3.out.call (Below.refl _ _).drew)
  have b5 := hidR b3.out.drew
  clear R3 b3
  refine wp_region_held_drew (S := fun wv => RowL wv I 93 [.int .i64 (k : Int), .int .i64 a, .int .i64 b, .int .i64 c, .int .i64 s]) (by kernel_rfl) R5.out (fun hH => ?_)
  clear hH
  generalize y3.drew = y4 at R5 b5 ⊢
  refine take_dst 0 41 (.pointer (some ⟨P, 0, none⟩)) rfl (by kernel_rfl) (by kernel_rfl) (by kernel_rfl) (fun _ _ _ h => h) (Or.inl ⟨by rfl, by intro wv hSv; clear hSv; go_simp⟩) R5.out rfl ?_
  try simp only [Act.put, List.setIfInBounds_toArray, List.set_cons_zero, List.set_cons_succ]
  refine take_dst 1 42 (.pointer (some ⟨I, 0, none⟩)) rfl (by kernel_rfl) (by kernel_rfl) (by kernel_rfl) (fun _ _ _ h => h) (Or.inl ⟨by rfl, by intro wv hSv; clear hSv; go_simp⟩) R5.out rfl ?_
  try simp only [Act.put, List.setIfInBounds_toArray, List.set_cons_zero, List.set_cons_succ]
  refine take_dst 2 43 (.int .i64 (k : Int)) rfl (by kernel_rfl) (by kernel_rfl) (by kernel_rfl) (fun _ _ _ h => h) (Or.inl ⟨by rfl, by intro wv hSv; have g0 := hSv.cell 0 rfl; clear hSv; go_simp⟩) R5.out rfl ?_
  try simp only [Act.put, List.setIfInBounds_toArray, List.set_cons_zero, List.set_cons_succ]
  refine take_dst 4 45 (.pointer (some ⟨I, 1, none⟩)) rfl (by kernel_rfl) (by kernel_rfl) (by kernel_rfl) (fun _ _ _ h => h) (Or.inl ⟨by rfl, by intro wv hSv; clear hSv; go_simp⟩) R5.out rfl ?_
  try simp only [Act.put, List.setIfInBounds_toArray, List.set_cons_zero, List.set_cons_succ]
  refine take_dst 5 46 (.int .i64 a) rfl (by kernel_rfl) (by kernel_rfl) (by kernel_rfl) (fun _ _ _ h => h) (Or.inl ⟨by rfl, by intro wv hSv; have g0 := hSv.cell 1 rfl; clear hSv; go_simp⟩) R5.out rfl ?_
  try simp only [Act.put, List.setIfInBounds_toArray, List.set_cons_zero, List.set_cons_succ]
  refine take_dst 6 47 (.pointer (some ⟨I, 4, none⟩)) rfl (by kernel_rfl) (by kernel_rfl) (by kernel_rfl) (fun _ _ _ h => h) (Or.inl ⟨by rfl, by intro wv hSv; clear hSv; go_simp⟩) R5.out rfl ?_
  try simp only [Act.put, List.setIfInBounds_toArray, List.set_cons_zero, List.set_cons_succ]
  refine take_dst 7 48 (.int .i64 s) rfl (by kernel_rfl) (by kernel_rfl) (by kernel_rfl) (fun _ _ _ h => h) (Or.inl ⟨by rfl, by intro wv hSv; have g0 := hSv.cell 4 rfl; clear hSv; go_simp⟩) R5.out rfl ?_
  try simp only [Act.put, List.setIfInBounds_toArray, List.set_cons_zero, List.set_cons_succ]
  refine wpAnyH_ready (rs := [3, 8]) (by kernel_rfl) (by simp) ?_
  refine AllReadyH.cons rfl (fun K hK => ?_) (AllReadyH.cons rfl (fun K hK => ?_) AllReadyH.nil)
  · have hn9 := hidR (hnm.out y4 (hN.out.below b5.out))
    go_simp
    refine Calls.mono hn9.out ?_
    rintro e y5 ⟨rfl, b6⟩
    have R6 := hidR (R5.out.call b6)
    have B6 := hidR (b5.out.trans (b6.mono b5.out.size))
    clear hn9 b6 R5 b5 hnm
    go_wp2_with fail
    refine hK.out _ _ R6.out (fun hzz => ?_)
    clear hK K hzz
    try simp only [Act.put, List.setIfInBounds_toArray, List.set_cons_zero, List.set_cons_succ]
    refine wpAnyH_ready (rs := [8]) (by kernel_rfl) (by simp) ?_
    refine AllReadyH.cons rfl (fun K hK => ?_) AllReadyH.nil
    have RA := hidR (R6.out.alloc (.cells #[.int .i64 a, .int .i64 s] 3))
    have BA := hidR (B6.out.alloc B6.out.size (.cells #[.int .i64 a, .int .i64 s] 3))
    go_simp
    refine hK.out _ _ RA.out (fun hzz => ?_)
    clear hK K hzz R6 B6
    try simp only [Act.put, List.setIfInBounds_toArray, List.set_cons_zero, List.set_cons_succ]
    refine wpAnyH_ready (rs := [9]) (by kernel_rfl) (by simp) ?_
    refine AllReadyH.cons rfl (fun K hK => ?_) AllReadyH.nil
    have hd9 := hidR (hdm.out _ y5.heap.size (powTab_below ht.out BA.out) (by rw [World.size_alloc]; omega) (fun j x hx => by refine cellsOf (L := [.int .i64 a, .int .i64 s]) ?_; rcases j with _ | _ | j <;> simp at hx <;> simp [hx]))
    go_simp
    refine Calls.mono hd9.out ?_
    rintro e y7 ⟨rfl, b7⟩
    have R7 := hidR (RA.out.call b7)
    have B7 := hidR (BA.out.trans (b7.mono BA.out.size))
    clear hd9 b7 RA BA hdm
    go_wp2_with fail
    refine hK.out _ _ R7.out (fun hzz => ?_)
    clear hK K hzz
    try simp only [Act.put, List.setIfInBounds_toArray, List.set_cons_zero, List.set_cons_succ]
    refine wpAnyH_ready (rs := [10]) (by kernel_rfl) (by simp) ?_
    refine AllReadyH.cons rfl (fun K hK => ?_) AllReadyH.nil
    have R8 := hidR (R7.out.alloc (.cells #[.string N, .string D] 9))
    have B8 := hidR (B7.out.alloc B7.out.size (.cells #[.string N, .string D] 9))
    have hl9 := hidR (hln.out _ y7.heap.size (hL.out.later B8.out) (by rw [World.size_alloc]; omega) (fun j x hx => by
      refine cellsOf (L := [.string N, .string D]) ?_
      rcases j with _ | _ | j
      · simp at hx; simp [hx]
      · simp at hx; simp [hx]
      · simp at hx))
    clear R7 B7 hln
    go_simp
    refine hK.out _ _ R8.out (fun hzz => ?_)
    clear hK K hzz
    try simp only [Act.put, List.setIfInBounds_toArray, List.set_cons_zero, List.set_cons_succ]
    refine wpAnyH_ready (rs := [11]) (by kernel_rfl) (by simp) ?_
    refine AllReadyH.cons rfl (fun K hK => ?_) AllReadyH.nil
    go_simp
    refine Calls.mono hl9.out ?_
    rintro e y9 ⟨v9, rfl, h9, f9⟩
    have R9 := hidR (show RowL y9 I 93 [.int .i64 (k : Int), .int .i64 a, .int .i64 b, .int .i64 c, .int .i64 s] from World.rowIs.of_block R8.out (f9.block I (World.rowIs.lt R8.out) (by omega) (fun e => by have := hvI.out I e; omega)))
    replace h9 := hidR h9
    clear hl9 R8 B8 f9
    go_wp2_with fail
    refine hK.out _ _ R9.out (fun hzz => ?_)
    clear hK K hzz
    try simp only [Act.put, List.setIfInBounds_toArray, List.set_cons_zero, List.set_cons_succ]
    refine wpAnyH_done (by kernel_rfl) ?_ _
    go_wp2_with fail
    go_end0
    exact ⟨_, rfl, h9.out⟩
  · have RA := hidR (R5.out.alloc (.cells #[.int .i64 a, .int .i64 s] 3))
    have BA := hidR (b5.out.alloc b5.out.size (.cells #[.int .i64 a, .int .i64 s] 3))
    have hn9 := hidR (hnm.out _ (hN.out.below BA.out))
    have hcc := hidR (show ∀ (j : Nat) x, ([a, s] : List Int)[j]? = some x → (y4.alloc (.cells #[.int .i64 a, .int .i64 s] 3)).cell? ⟨y4.heap.size, 0 + j, none⟩ = some (.int .i64 x) from fun j x hx => by refine cellsOf (L := [.int .i64 a, .int .i64 s]) ?_; rcases j with _ | _ | j <;> simp at hx <;> simp [hx])
    go_simp
    refine hK.out _ _ RA.out (fun hzz => ?_)
    clear hK K hzz
    try simp only [Act.put, List.setIfInBounds_toArray, List.set_cons_zero, List.set_cons_succ]
    clear R5 b5 hnm
    refine wpAnyH_ready (rs := [3]) (by kernel_rfl) (by simp) ?_
    refine AllReadyH.cons rfl (fun K hK => ?_) AllReadyH.nil
    go_simp
    refine Calls.mono hn9.out ?_
    rintro e y5 ⟨rfl, b6⟩
    have R6 := hidR (RA.out.call b6)
    have B6 := hidR (BA.out.trans (b6.mono BA.out.size))
    have hc6 := hidR (show ∀ (j : Nat) x, ([a, s] : List Int)[j]? = some x → y5.cell? ⟨y4.heap.size, 0 + j, none⟩ = some (.int .i64 x) from fun j x hx => (b6.cell (p := ⟨y4.heap.size, 0 + j, none⟩) (by simp)).trans (hcc.out j x hx))
    have hz6 : y4.heap.size < y5.heap.size := by have := b6.size; rw [World.size_alloc] at this; omega
    clear hn9 b6 RA BA hcc
    go_wp2_with fail
    refine hK.out _ _ R6.out (fun hzz => ?_)
    clear hK K hzz
    try simp only [Act.put, List.setIfInBounds_toArray, List.set_cons_zero, List.set_cons_succ]
    refine wpAnyH_ready (rs := [9]) (by kernel_rfl) (by simp) ?_
    refine AllReadyH.cons rfl (fun K hK => ?_) AllReadyH.nil
    have hd9 := hidR (hdm.out _ y4.heap.size (powTab_below ht.out B6.out) hz6 hc6.out)
    go_simp
    refine Calls.mono hd9.out ?_
    rintro e y7 ⟨rfl, b7⟩
    have R7 := hidR (R6.out.call b7)
    have B7 := hidR (B6.out.trans (b7.mono B6.out.size))
    clear hd9 b7 R6 B6 hdm
    go_wp2_with fail
    refine hK.out _ _ R7.out (fun hzz => ?_)
    clear hK K hzz
    try simp only [Act.put, List.setIfInBounds_toArray, List.set_cons_zero, List.set_cons_succ]
    refine wpAnyH_ready (rs := [10]) (by kernel_rfl) (by simp) ?_
    refine AllReadyH.cons rfl (fun K hK => ?_) AllReadyH.nil
    have R8 := hidR (R7.out.alloc (.cells #[.string N, .string D] 9))
    have B8 := hidR (B7.out.alloc B7.out.size (.cells #[.string N, .string D] 9))
    have hl9 := hidR (hln.out _ y7.heap.size (hL.out.later B8.out) (by rw [World.size_alloc]; omega) (fun j x hx => by
      refine cellsOf (L := [.string N, .string D]) ?_
      rcases j with _ | _ | j
      · simp at hx; simp [hx]
      · simp at hx; simp [hx]
      · simp at hx))
    clear R7 B7 hln
    go_simp
    refine hK.out _ _ R8.out (fun hzz => ?_)
    clear hK K hzz
    try simp only [Act.put, List.setIfInBounds_toArray, List.set_cons_zero, List.set_cons_succ]
    refine wpAnyH_ready (rs := [11]) (by kernel_rfl) (by simp) ?_
    refine AllReadyH.cons rfl (fun K hK => ?_) AllReadyH.nil
    go_simp
    refine Calls.mono hl9.out ?_
    rintro e y9 ⟨v9, rfl, h9, f9⟩
    have R9 := hidR (show RowL y9 I 93 [.int .i64 (k : Int), .int .i64 a, .int .i64 b, .int .i64 c, .int .i64 s] from World.rowIs.of_block R8.out (f9.block I (World.rowIs.lt R8.out) (by omega) (fun e => by have := hvI.out I e; omega)))
    replace h9 := hidR h9
    clear hl9 R8 B8 f9
    go_wp2_with fail
    refine hK.out _ _ R9.out (fun hzz => ?_)
    clear hK K hzz
    try simp only [Act.put, List.setIfInBounds_toArray, List.set_cons_zero, List.set_cons_succ]
    refine wpAnyH_done (by kernel_rfl) ?_ _
    go_wp2_with fail
    go_end0
    exact ⟨_, rfl, h9.out⟩
theorem lword_abc (P : Nat) (k : Nat) (hk : k < 34) (a b c s : Int) (da : (-9223372036854775808 ≤ a ∧ a ≤ 9223372036854775807)) (db : (-9223372036854775808 ≤ b ∧ b ≤ 9223372036854775807)) (dc : (-9223372036854775808 ≤ c ∧ c ≤ 9223372036854775807)) (ds : (-9223372036854775808 ≤ s ∧ s ≤ 9223372036854775807)) (z : Int) (w0 : World) (v0 : Value) (y : World) (v : Value) (X : ByteArray) (h : Lw P usTab.toList w0 v0 y v X) (hS : Spans y) (hN : Named y) (ht : PowTab y) (hs : X.size ≤ 70368744177664)
    (hU : ∀ y, Spans y → Calls Tryz.prog 93 #[.int .u32 z] y fun e w' => e = .returned (.agg #[.int .i64 (k : Int), .int .i64 a, .int .i64 b, .int .i64 c, .int .i64 s]) ∧ Below y.heap.size y w') (hw : ¬ WideOp k) :
    Calls Tryz.prog 55 #[.pointer (some ⟨P, 0, none⟩), .int .u32 z] y fun e w' => ∃ v', e = .returned (.tuple #[]) ∧ Lw P usTab.toList w0 v0 w' v' (X ++ (nm k ++ spB ++ dec a ++ spB ++ dec b ++ spB ++ dec c ++ ⟨#[10]⟩)) := by
  have hkI : ¬ (k : Int) > 33 := by omega
  have hk64 : (k : Int) < 64 := by omega
  have hun := hidR (hU y hS)
  have hL := hidR h
  have hup : lineB [nm k, joinB [dec a, dec b, dec c]] = nm k ++ spB ++ dec a ++ spB ++ dec b ++ spB ++ dec c ++ ⟨#[10]⟩ := by
    unfold lineB
    rw [joinB_more, joinB_one, joinB_more, joinB_more, joinB_one]
    simp only [ByteArray.append_assoc]
  have zj : (joinB [dec a, dec b, dec c]).size ≤ 1000 := by
    have z1 := dec_size a da.1 da.2
    have z2 := dec_size b db.1 db.2
    have z3 := dec_size c dc.1 dc.2
    have z4 := dec_size s ds.1 ds.2
    rw [joinB_size3]
    omega
  have hjs : (joinB [nm k, joinB [dec a, dec b, dec c]]).size ≤ 100000 := by
    have z0 := nm_size hk
    rw [joinB_size2]
    omega
  obtain ⟨Z, hZ⟩ : ∃ Z : ByteArray, nm k ++ spB ++ dec a ++ spB ++ dec b ++ spB ++ dec c ++ ⟨#[10]⟩ = Z := ⟨_, rfl⟩
  rw [hZ] at hup ⊢
  have hnm := hidR (fun y => fun h => implName k hk y h)
  have hdm := hidR (show ∀ (y1 : World) (bk : Nat), PowTab y1 → bk < y1.heap.size → (∀ (j : Nat) x, ([a, b, c] : List Int)[j]? = some x → y1.cell? ⟨bk, 0 + j, none⟩ = some (.int .i64 x)) → Calls Tryz.prog 51 #[.slice (some ⟨bk, 0, none⟩) 3 3] y1 fun e w' => e = .returned (.string (joinB [dec a, dec b, dec c])) ∧ Below y1.heap.size y1 w' from
    fun y1 bk hp hb hc => decimals_in [a, b, c] bk 0 3 y1 hc hb (by simp) (by simp) (fun x hx => by simp at hx; rcases hx with rfl | rfl | rfl <;> assumption) hp (by show (joinB [dec a, dec b, dec c]).size ≤ 100000; omega) (by omega))
  have hln := hidR (show ∀ (y1 : World) (bk : Nat), Lw P usTab.toList w0 v0 y1 v X → bk < y1.heap.size → (∀ (j : Nat) x, ([nm k, joinB [dec a, dec b, dec c]] : List ByteArray)[j]? = some x → y1.cell? ⟨bk, 0 + j, none⟩ = some (.string x)) → Calls Tryz.prog 52 #[.pointer (some ⟨P, 0, none⟩), .slice (some ⟨bk, 0, none⟩) 2 2] y1 fun e w' => ∃ v', e = .returned (.tuple #[]) ∧ Lw P usTab.toList w0 v0 w' v' (X ++ lineB [nm k, joinB [dec a, dec b, dec c]]) ∧ Fr (fun k => k = P) y1 v w' v' from
    fun y1 bk hl hbk hc => (line_in P usTab.toList (by rw [Array.length_toList, usTab_size]) bk 0 2 [nm k, joinB [dec a, dec b, dec c]] y1 v y1 v X hl.fresh hc hbk (by simp) (by simp) hjs hs).mono fun e w' ⟨v', he, h'⟩ => ⟨v', he, hl.trans h', h'.fr⟩)
  rw [hup] at hln
  generalize joinB [dec a, dec b, dec c] = D at hdm hln
  generalize nm k = N at hnm hln
  replace hS := hidR hS
  replace hN := hidR hN
  replace ht := hidR ht
  clear hU h hup hjs zj hZ da db dc ds
  go_enter Tryz.func55, Tryz.ntmps55
  go_wp2_with fail
  refine Calls.mono hun.out ?_
  rintro e y1 ⟨rfl, b1⟩
  have R0 := RowL.new y1 [.int .i64 (k : Int), .int .i64 a, .int .i64 b, .int .i64 c, .int .i64 s] 93
  have b2 : Below y.heap.size y (y1.alloc (.cells #[.int .i64 (k : Int), .int .i64 a, .int .i64 b, .int .i64 c, .int .i64 s] 93)) := b1.alloc b1.size _
  have bz1 := b1.size
  clear hun b1
  go_upto_region 4 with fail
  replace R0 : RowL (y1.alloc (.cells #[.int .i64 (k : Int), .int .i64 a, .int .i64 b, .int .i64 c, .int .i64 s] 93)) y1.heap.size 93 [.int .i64 (k : Int), .int .i64 a, .int .i64 b, .int .i64 c, .int .i64 s] := R0
  have hPI : P < y1.heap.size := Nat.lt_of_lt_of_le hL.out.lt bz1
  have hvI := hidR (fun q (hq : v.ownBlock = some q) => show q < y1.heap.size from Nat.lt_of_lt_of_le (hL.out.buf.lt q hq) bz1)
  clear bz1
  generalize y1.alloc (.cells #[.int .i64 (k : Int), .int .i64 a, .int .i64 b, .int .i64 c, .int .i64 s] 93) = y2 at R0 b2 ⊢
  generalize y1.heap.size = I at R0 hPI hvI ⊢
  have hu := us_wide k hk
  obtain ⟨sv, hsv⟩ : ∃ sv : Int, (if WideOp k then (if k = 1 then (3 : Int) else if k = 25 then 5 else 6) else 0) = sv := ⟨_, rfl⟩
  rw [hsv] at hu
  have hb9 : (sv != 0) = false := by
    rw [← hsv]
    rw [if_neg hw]
    rfl
  have b3 := hidR b2.drew
  have q0 := hidR ((hL.out.later b3.out).use (n := k) (j := 3) (by omega) (by omega))
  rw [hu, show 2 + (10 * k + 3) = 2 + k * 10 + 3 by omega] at q0
  have R3 := hidR (R0.call (Below.refl _ _).drew)
  clear R0 hu hsv hw b2
  refine wp_region_held_drew (S := fun wv => RowL wv I 93 [.int .i64 (k : Int), .int .i64 a, .int .i64 b, .int .i64 c, .int .i64 s] ∧ wv.cell? ⟨P, 2 + k * 10 + 3, none⟩ = some (.int .i64 sv)) (by kernel_rfl) ⟨R3.out, q0.out⟩ (fun hH => ?_)
  refine take_dst 0 32 (.pointer (some ⟨P, 0, none⟩)) rfl (by kernel_rfl) (by kernel_rfl) (by kernel_rfl) (fun _ _ _ h => h) (Or.inl ⟨by rfl, by intro wv hSv; clear hSv; go_simp⟩) hH rfl ?_
  try simp only [Act.put, List.setIfInBounds_toArray, List.set_cons_zero, List.set_cons_succ]
  refine take_dst 1 33 (.pointer (some ⟨I, 0, none⟩)) rfl (by kernel_rfl) (by kernel_rfl) (by kernel_rfl) (fun _ _ _ h => h) (Or.inl ⟨by rfl, by intro wv hSv; clear hSv; go_simp⟩) hH rfl ?_
  try simp only [Act.put, List.setIfInBounds_toArray, List.set_cons_zero, List.set_cons_succ]
  refine take_dst 2 34 (.int .i64 (k : Int)) rfl (by kernel_rfl) (by kernel_rfl) (by kernel_rfl) (fun _ _ _ h => h) (Or.inl ⟨by rfl, by intro wv hSv; have g0 := hSv.1.cell 0 rfl; clear hSv; go_simp⟩) hH rfl ?_
  try simp only [Act.put, List.setIfInBounds_toArray, List.set_cons_zero, List.set_cons_succ]
  refine take_dst 3 35 (.pointer (some ⟨P, 0, none⟩)) rfl (by kernel_rfl) (by kernel_rfl) (by kernel_rfl) (fun _ _ _ h => h) (Or.inl ⟨by rfl, by intro wv hSv; clear hSv; go_simp⟩) hH rfl ?_
  try simp only [Act.put, List.setIfInBounds_toArray, List.set_cons_zero, List.set_cons_succ]
  refine take_dst 4 36 (.pointer (some ⟨P, 2, none⟩)) rfl (by kernel_rfl) (by kernel_rfl) (by kernel_rfl) (fun _ _ _ h => h) (Or.inl ⟨by rfl, by intro wv hSv; clear hSv; go_simp⟩) hH rfl ?_
  try simp only [Act.put, List.setIfInBounds_toArray, List.set_cons_zero, List.set_cons_succ]
  refine take_dst 5 37 (.pointer (some ⟨P, 2 + k * 10, none⟩)) rfl (by kernel_rfl) (by kernel_rfl) (by kernel_rfl) (fun _ _ _ h => h) (Or.inl ⟨by rfl, by intro wv hSv; clear hSv; go_simp⟩) hH rfl ?_
  try simp only [Act.put, List.setIfInBounds_toArray, List.set_cons_zero, List.set_cons_succ]
  refine take_dst 6 38 (.pointer (some ⟨P, 2 + k * 10 + 3, none⟩)) rfl (by kernel_rfl) (by kernel_rfl) (by kernel_rfl) (fun _ _ _ h => h) (Or.inl ⟨by rfl, by intro wv hSv; clear hSv; go_simp⟩) hH rfl ?_
  try simp only [Act.put, List.setIfInBounds_toArray, List.set_cons_zero, List.set_cons_succ]
  refine take_dst 7 39 (.int .i64 sv) rfl (by kernel_rfl) (by kernel_rfl) (by kernel_rfl) (fun _ _ _ h => h) (Or.inl ⟨by rfl, by intro wv hSv; have g0 := hSv.2; clear hSv; go_simp⟩) hH rfl ?_
  try simp only [Act.put, List.setIfInBounds_toArray, List.set_cons_zero, List.set_cons_succ]
  refine take_dst 8 40 (.bool (sv != 0)) rfl (by kernel_rfl) (by kernel_rfl) (by kernel_rfl) (fun _ _ _ h => h) (Or.inl ⟨by rfl, by intro wv hSv; clear hSv; go_simp⟩) hH rfl ?_
  try simp only [Act.put, List.setIfInBounds_toArray, List.set_cons_zero, List.set_cons_succ]
  rw [hb9]
  refine wpAnyH_ready (rs := [9]) (by kernel_rfl) (by simp) ?_
  refine AllReadyH.cons rfl (fun K hK => ?_) AllReadyH.nil
  go_simp
  refine hK.out _ _ hH (fun hzz => ?_)
  clear hK K hzz
  try simp only [Act.put, List.setIfInBounds_toArray, List.set_cons_zero, List.set_cons_succ]
  refine wpAnyH_done (by kernel_rfl) ?_ _
  clear hH q0 hb9
  generalize y2.drew = y3 at R3 b3 ⊢
  go_upto_region 1 with fail
  have R5 := hidR (R3.out.call (Below.refl _ _).drew)
  have b5 := hidR b3.out.drew
  clear R3 b3
  refine wp_region_held_drew (S := fun wv => RowL wv I 93 [.int .i64 (k : Int), .int .i64 a, .int .i64 b, .int .i64 c, .int .i64 s]) (by kernel_rfl) R5.out (fun hH => ?_)
  clear hH
  generalize y3.drew = y4 at R5 b5 ⊢
  refine take_dst 0 7 (.pointer (some ⟨P, 0, none⟩)) rfl (by kernel_rfl) (by kernel_rfl) (by kernel_rfl) (fun _ _ _ h => h) (Or.inl ⟨by rfl, by intro wv hSv; clear hSv; go_simp⟩) R5.out rfl ?_
  try simp only [Act.put, List.setIfInBounds_toArray, List.set_cons_zero, List.set_cons_succ]
  refine take_dst 1 8 (.pointer (some ⟨I, 0, none⟩)) rfl (by kernel_rfl) (by kernel_rfl) (by kernel_rfl) (fun _ _ _ h => h) (Or.inl ⟨by rfl, by intro wv hSv; clear hSv; go_simp⟩) R5.out rfl ?_
  try simp only [Act.put, List.setIfInBounds_toArray, List.set_cons_zero, List.set_cons_succ]
  refine take_dst 2 9 (.int .i64 (k : Int)) rfl (by kernel_rfl) (by kernel_rfl) (by kernel_rfl) (fun _ _ _ h => h) (Or.inl ⟨by rfl, by intro wv hSv; have g0 := hSv.cell 0 rfl; clear hSv; go_simp⟩) R5.out rfl ?_
  try simp only [Act.put, List.setIfInBounds_toArray, List.set_cons_zero, List.set_cons_succ]
  refine take_dst 4 11 (.pointer (some ⟨I, 1, none⟩)) rfl (by kernel_rfl) (by kernel_rfl) (by kernel_rfl) (fun _ _ _ h => h) (Or.inl ⟨by rfl, by intro wv hSv; clear hSv; go_simp⟩) R5.out rfl ?_
  try simp only [Act.put, List.setIfInBounds_toArray, List.set_cons_zero, List.set_cons_succ]
  refine take_dst 5 12 (.int .i64 a) rfl (by kernel_rfl) (by kernel_rfl) (by kernel_rfl) (fun _ _ _ h => h) (Or.inl ⟨by rfl, by intro wv hSv; have g0 := hSv.cell 1 rfl; clear hSv; go_simp⟩) R5.out rfl ?_
  try simp only [Act.put, List.setIfInBounds_toArray, List.set_cons_zero, List.set_cons_succ]
  refine take_dst 6 13 (.pointer (some ⟨I, 2, none⟩)) rfl (by kernel_rfl) (by kernel_rfl) (by kernel_rfl) (fun _ _ _ h => h) (Or.inl ⟨by rfl, by intro wv hSv; clear hSv; go_simp⟩) R5.out rfl ?_
  try simp only [Act.put, List.setIfInBounds_toArray, List.set_cons_zero, List.set_cons_succ]
  refine take_dst 7 14 (.int .i64 b) rfl (by kernel_rfl) (by kernel_rfl) (by kernel_rfl) (fun _ _ _ h => h) (Or.inl ⟨by rfl, by intro wv hSv; have g0 := hSv.cell 2 rfl; clear hSv; go_simp⟩) R5.out rfl ?_
  try simp only [Act.put, List.setIfInBounds_toArray, List.set_cons_zero, List.set_cons_succ]
  refine take_dst 8 15 (.pointer (some ⟨I, 3, none⟩)) rfl (by kernel_rfl) (by kernel_rfl) (by kernel_rfl) (fun _ _ _ h => h) (Or.inl ⟨by rfl, by intro wv hSv; clear hSv; go_simp⟩) R5.out rfl ?_
  try simp only [Act.put, List.setIfInBounds_toArray, List.set_cons_zero, List.set_cons_succ]
  refine take_dst 9 16 (.int .i64 c) rfl (by kernel_rfl) (by kernel_rfl) (by kernel_rfl) (fun _ _ _ h => h) (Or.inl ⟨by rfl, by intro wv hSv; have g0 := hSv.cell 3 rfl; clear hSv; go_simp⟩) R5.out rfl ?_
  try simp only [Act.put, List.setIfInBounds_toArray, List.set_cons_zero, List.set_cons_succ]
  refine wpAnyH_ready (rs := [3, 10]) (by kernel_rfl) (by simp) ?_
  refine AllReadyH.cons rfl (fun K hK => ?_) (AllReadyH.cons rfl (fun K hK => ?_) AllReadyH.nil)
  · have hn9 := hidR (hnm.out y4 (hN.out.below b5.out))
    go_simp
    refine Calls.mono hn9.out ?_
    rintro e y5 ⟨rfl, b6⟩
    have R6 := hidR (R5.out.call b6)
    have B6 := hidR (b5.out.trans (b6.mono b5.out.size))
    clear hn9 b6 R5 b5 hnm
    go_wp2_with fail
    refine hK.out _ _ R6.out (fun hzz => ?_)
    clear hK K hzz
    try simp only [Act.put, List.setIfInBounds_toArray, List.set_cons_zero, List.set_cons_succ]
    refine wpAnyH_ready (rs := [10]) (by kernel_rfl) (by simp) ?_
    refine AllReadyH.cons rfl (fun K hK => ?_) AllReadyH.nil
    have RA := hidR (R6.out.alloc (.cells #[.int .i64 a, .int .i64 b, .int .i64 c] 3))
    have BA := hidR (B6.out.alloc B6.out.size (.cells #[.int .i64 a, .int .i64 b, .int .i64 c] 3))
    go_simp
    refine hK.out _ _ RA.out (fun hzz => ?_)
    clear hK K hzz R6 B6
    try simp only [Act.put, List.setIfInBounds_toArray, List.set_cons_zero, List.set_cons_succ]
    refine wpAnyH_ready (rs := [11]) (by kernel_rfl) (by simp) ?_
    refine AllReadyH.cons rfl (fun K hK => ?_) AllReadyH.nil
    have hd9 := hidR (hdm.out _ y5.heap.size (powTab_below ht.out BA.out) (by rw [World.size_alloc]; omega) (fun j x hx => by refine cellsOf (L := [.int .i64 a, .int .i64 b, .int .i64 c]) ?_; rcases j with _ | _ | _ | j <;> simp at hx <;> simp [hx]))
    go_simp
    refine Calls.mono hd9.out ?_
    rintro e y7 ⟨rfl, b7⟩
    have R7 := hidR (RA.out.call b7)
    have B7 := hidR (BA.out.trans (b7.mono BA.out.size))
    clear hd9 b7 RA BA hdm
    go_wp2_with fail
    refine hK.out _ _ R7.out (fun hzz => ?_)
    clear hK K hzz
    try simp only [Act.put, List.setIfInBounds_toArray, List.set_cons_zero, List.set_cons_succ]
    refine wpAnyH_ready (rs := [12]) (by kernel_rfl) (by simp) ?_
    refine AllReadyH.cons rfl (fun K hK => ?_) AllReadyH.nil
    have R8 := hidR (R7.out.alloc (.cells #[.string N, .string D] 9))
    have B8 := hidR (B7.out.alloc B7.out.size (.cells #[.string N, .string D] 9))
    have hl9 := hidR (hln.out _ y7.heap.size (hL.out.later B8.out) (by rw [World.size_alloc]; omega) (fun j x hx => by
      refine cellsOf (L := [.string N, .string D]) ?_
      rcases j with _ | _ | j
      · simp at hx; simp [hx]
      · simp at hx; simp [hx]
      · simp at hx))
    clear R7 B7 hln
    go_simp
    refine hK.out _ _ R8.out (fun hzz => ?_)
    clear hK K hzz
    try simp only [Act.put, List.setIfInBounds_toArray, List.set_cons_zero, List.set_cons_succ]
    refine wpAnyH_ready (rs := [13]) (by kernel_rfl) (by simp) ?_
    refine AllReadyH.cons rfl (fun K hK => ?_) AllReadyH.nil
    go_simp
    refine Calls.mono hl9.out ?_
    rintro e y9 ⟨v9, rfl, h9, f9⟩
    have R9 := hidR (show RowL y9 I 93 [.int .i64 (k : Int), .int .i64 a, .int .i64 b, .int .i64 c, .int .i64 s] from World.rowIs.of_block R8.out (f9.block I (World.rowIs.lt R8.out) (by omega) (fun e => by have := hvI.out I e; omega)))
    replace h9 := hidR h9
    clear hl9 R8 B8 f9
    go_wp2_with fail
    refine hK.out _ _ R9.out (fun hzz => ?_)
    clear hK K hzz
    try simp only [Act.put, List.setIfInBounds_toArray, List.set_cons_zero, List.set_cons_succ]
    refine wpAnyH_done (by kernel_rfl) ?_ _
    go_wp2_with fail
    go_end0
    exact ⟨_, rfl, h9.out⟩
  · have RA := hidR (R5.out.alloc (.cells #[.int .i64 a, .int .i64 b, .int .i64 c] 3))
    have BA := hidR (b5.out.alloc b5.out.size (.cells #[.int .i64 a, .int .i64 b, .int .i64 c] 3))
    have hn9 := hidR (hnm.out _ (hN.out.below BA.out))
    have hcc := hidR (show ∀ (j : Nat) x, ([a, b, c] : List Int)[j]? = some x → (y4.alloc (.cells #[.int .i64 a, .int .i64 b, .int .i64 c] 3)).cell? ⟨y4.heap.size, 0 + j, none⟩ = some (.int .i64 x) from fun j x hx => by refine cellsOf (L := [.int .i64 a, .int .i64 b, .int .i64 c]) ?_; rcases j with _ | _ | _ | j <;> simp at hx <;> simp [hx])
    go_simp
    refine hK.out _ _ RA.out (fun hzz => ?_)
    clear hK K hzz
    try simp only [Act.put, List.setIfInBounds_toArray, List.set_cons_zero, List.set_cons_succ]
    clear R5 b5 hnm
    refine wpAnyH_ready (rs := [3]) (by kernel_rfl) (by simp) ?_
    refine AllReadyH.cons rfl (fun K hK => ?_) AllReadyH.nil
    go_simp
    refine Calls.mono hn9.out ?_
    rintro e y5 ⟨rfl, b6⟩
    have R6 := hidR (RA.out.call b6)
    have B6 := hidR (BA.out.trans (b6.mono BA.out.size))
    have hc6 := hidR (show ∀ (j : Nat) x, ([a, b, c] : List Int)[j]? = some x → y5.cell? ⟨y4.heap.size, 0 + j, none⟩ = some (.int .i64 x) from fun j x hx => (b6.cell (p := ⟨y4.heap.size, 0 + j, none⟩) (by simp)).trans (hcc.out j x hx))
    have hz6 : y4.heap.size < y5.heap.size := by have := b6.size; rw [World.size_alloc] at this; omega
    clear hn9 b6 RA BA hcc
    go_wp2_with fail
    refine hK.out _ _ R6.out (fun hzz => ?_)
    clear hK K hzz
    try simp only [Act.put, List.setIfInBounds_toArray, List.set_cons_zero, List.set_cons_succ]
    refine wpAnyH_ready (rs := [11]) (by kernel_rfl) (by simp) ?_
    refine AllReadyH.cons rfl (fun K hK => ?_) AllReadyH.nil
    have hd9 := hidR (hdm.out _ y4.heap.size (powTab_below ht.out B6.out) hz6 hc6.out)
    go_simp
    refine Calls.mono hd9.out ?_
    rintro e y7 ⟨rfl, b7⟩
    have R7 := hidR (R6.out.call b7)
    have B7 := hidR (B6.out.trans (b7.mono B6.out.size))
    clear hd9 b7 R6 B6 hdm
    go_wp2_with fail
    refine hK.out _ _ R7.out (fun hzz => ?_)
    clear hK K hzz
    try simp only [Act.put, List.setIfInBounds_toArray, List.set_cons_zero, List.set_cons_succ]
    refine wpAnyH_ready (rs := [12]) (by kernel_rfl) (by simp) ?_
    refine AllReadyH.cons rfl (fun K hK => ?_) AllReadyH.nil
    have R8 := hidR (R7.out.alloc (.cells #[.string N, .string D] 9))
    have B8 := hidR (B7.out.alloc B7.out.size (.cells #[.string N, .string D] 9))
    have hl9 := hidR (hln.out _ y7.heap.size (hL.out.later B8.out) (by rw [World.size_alloc]; omega) (fun j x hx => by
      refine cellsOf (L := [.string N, .string D]) ?_
      rcases j with _ | _ | j
      · simp at hx; simp [hx]
      · simp at hx; simp [hx]
      · simp at hx))
    clear R7 B7 hln
    go_simp
    refine hK.out _ _ R8.out (fun hzz => ?_)
    clear hK K hzz
    try simp only [Act.put, List.setIfInBounds_toArray, List.set_cons_zero, List.set_cons_succ]
    refine wpAnyH_ready (rs := [13]) (by kernel_rfl) (by simp) ?_
    refine AllReadyH.cons rfl (fun K hK => ?_) AllReadyH.nil
    go_simp
    refine Calls.mono hl9.out ?_
    rintro e y9 ⟨v9, rfl, h9, f9⟩
    have R9 := hidR (show RowL y9 I 93 [.int .i64 (k : Int), .int .i64 a, .int .i64 b, .int .i64 c, .int .i64 s] from World.rowIs.of_block R8.out (f9.block I (World.rowIs.lt R8.out) (by omega) (fun e => by have := hvI.out I e; omega)))
    replace h9 := hidR h9
    clear hl9 R8 B8 f9
    go_wp2_with fail
    refine hK.out _ _ R9.out (fun hzz => ?_)
    clear hK K hzz
    try simp only [Act.put, List.setIfInBounds_toArray, List.set_cons_zero, List.set_cons_succ]
    refine wpAnyH_done (by kernel_rfl) ?_ _
    go_wp2_with fail
    go_end0
    exact ⟨_, rfl, h9.out⟩
end Go.Proofs.YtenonpajjlppjaaGreatDoor

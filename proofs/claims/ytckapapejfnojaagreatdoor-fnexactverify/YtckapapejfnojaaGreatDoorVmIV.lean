import Derived.Test.YtckapapejfnojaaGreatDoorGGV
import Derived.Test.YtckapapejfnojaaGreatDoorGAV
namespace Go.Proofs.YtckapapejfnojaaGreatDoor
open Go.RowKit Go.Shelf
set_option linter.unusedVariables false
set_option linter.unusedSimpArgs false
set_option maxRecDepth 100000
set_option maxHeartbeats 2000000
theorem aU6 (n : Nat) : 0 ≤ aU n ∧ aU n ≤ 6 := by
  unfold aU
  repeat' split
  all_goals omega
theorem bU6 (n : Nat) : 0 ≤ bU n ∧ bU n ≤ 6 := by
  unfold bU
  repeat' split
  all_goals omega
theorem cU6 (n : Nat) : 0 ≤ cU n ∧ cU n ≤ 6 := by
  unfold cU
  repeat' split
  all_goals omega
set_option maxHeartbeats 4000000 in
theorem ff_0 (w : World) (pb po B uo : Nat) (pc : Int) (n : Nat) (a b c s : Int) (p : PD) (a3 a4 a5 : Value) (hP : PtrP w pb po p a3 a4 a5) (hU : UsO w B uo) (hB : B < w.heap.size) (hn : n ≤ 33) (hf4 : usC n 4 = .bool false) (hV : Hid (n = 24 → p.vararg = true)) :
    Calls Tryz.prog 110 #[plN pb po B uo pc n a b c s] w fun e w' => Says e (FieldOk n a b c p.vararg) ∧ Below w.heap.size w w' := by
  have hI : Hid (FieldOk n a b c p.vararg ↔ ((n = 24 → p.vararg = true) ∧ Allow (aU n) a ∧ (sU n ≠ 0 ∨ (Allow (bU n) b ∧ Allow (cU n) c)))) := field_iff n hn a b c p.vararg
  have a6 := aU6 n
  have b6 := bU6 n
  have c6 := cU6 n
  have hU9 := hU n
  have t0 : w.cell? ⟨B, uo + n * 10 + 0, none⟩ = some (.int .i64 (aU n)) := by rw [← us0 n (by omega)]; exact hU n 0 (by omega) (by omega)
  have t1 : w.cell? ⟨B, uo + n * 10 + 1, none⟩ = some (.int .i64 (bU n)) := by rw [← us1 n (by omega)]; exact hU n 1 (by omega) (by omega)
  have t2 : w.cell? ⟨B, uo + n * 10 + 2, none⟩ = some (.int .i64 (cU n)) := by rw [← us2 n (by omega)]; exact hU n 2 (by omega) (by omega)
  have t3 : w.cell? ⟨B, uo + n * 10 + 3, none⟩ = some (.int .i64 (sU n)) := by rw [← us3 n (by omega)]; exact hU n 3 (by omega) (by omega)
  have t4 : w.cell? ⟨B, uo + n * 10 + 4, none⟩ = some (.bool false) := by rw [← hf4]; exact hU n 4 (by omega) (by omega)
  clear hU9
  go_enter Tryz.func110, Tryz.ntmps110
  go_wp2_with fail
  have R0 := RowL.new w [.pointer (some ⟨pb, po, none⟩), .pointer (some ⟨B, uo + n * 10, none⟩), .int .i64 pc, .int .i64 (n : Int), .int .i64 a, .int .i64 b, .int .i64 c, .int .i64 s] 150
  have bw : Below w.heap.size w (w.alloc (.cells #[.pointer (some ⟨pb, po, none⟩), .pointer (some ⟨B, uo + n * 10, none⟩), .int .i64 pc, .int .i64 (n : Int), .int .i64 a, .int .i64 b, .int .i64 c, .int .i64 s] 150)) := (Below.refl _ _).alloc (Nat.le_refl _) _
  generalize w.alloc (.cells #[.pointer (some ⟨pb, po, none⟩), .pointer (some ⟨B, uo + n * 10, none⟩), .int .i64 pc, .int .i64 (n : Int), .int .i64 a, .int .i64 b, .int .i64 c, .int .i64 s] 150) = w0 at R0 bw ⊢
  have r0 := R0.cell 0 rfl
  have r1 := R0.cell 1 rfl
  have r2 := R0.cell 2 rfl
  have r3 := R0.cell 3 rfl
  have r4 := R0.cell 4 rfl
  have r5 := R0.cell 5 rfl
  have r6 := R0.cell 6 rfl
  have r7 := R0.cell 7 rfl
  have hl := R0.lt
  clear R0
  have hP0 := hP.later bw
  have p1 := hP0.c1
  have p2 := hP0.c2
  have p3 := hP0.c3
  have p4 := hP0.c4
  have p5 := hP0.c5
  have p6 := hP0.c6
  have hpb := hP0.lt
  have hB0 : B < w0.heap.size := Nat.lt_of_lt_of_le hB bw.size
  replace t0 := (bw.cell (p := ⟨B, uo + n * 10 + 0, none⟩) hB).trans t0
  replace t1 := (bw.cell (p := ⟨B, uo + n * 10 + 1, none⟩) hB).trans t1
  replace t2 := (bw.cell (p := ⟨B, uo + n * 10 + 2, none⟩) hB).trans t2
  replace t3 := (bw.cell (p := ⟨B, uo + n * 10 + 3, none⟩) hB).trans t3
  replace t4 := (bw.cell (p := ⟨B, uo + n * 10 + 4, none⟩) hB).trans t4
  replace hP0 : Hid _ := hP0
  replace hP : Hid _ := hP
  replace hU : Hid _ := hU
  have hd : OldS w0 w0.drew := OldS.of (Below.refl _ _).drew
  refine wp_region_held_drew (S := OldS w0) (by kernel_rfl) hd (fun hH => ?_)
  refine take_dst 0 5 (.pointer (some ⟨w.heap.size, 1, none⟩)) rfl (by kernel_rfl) (by kernel_rfl) (by kernel_rfl) (fun _ _ _ h => h) (Or.inl ⟨by rfl, by intro wv hSv; unfold OldS at hSv; go_simp⟩) hd rfl ?_
  try simp only [tk0, tk1, tk2, tk3, tk4]
  refine take_dst 1 6 (.pointer (some ⟨B, uo + n * 10, none⟩)) rfl (by kernel_rfl) (by kernel_rfl) (by kernel_rfl) (fun _ _ _ h => h) (Or.inl ⟨by rfl, by intro wv hSv; unfold OldS at hSv; go_simp⟩) hd rfl ?_
  try simp only [tk0, tk1, tk2, tk3, tk4]
  refine take_dst 2 7 (.pointer (some ⟨w.heap.size, 3, none⟩)) rfl (by kernel_rfl) (by kernel_rfl) (by kernel_rfl) (fun _ _ _ h => h) (Or.inl ⟨by rfl, by intro wv hSv; unfold OldS at hSv; go_simp⟩) hd rfl ?_
  try simp only [tk0, tk1, tk2, tk3, tk4]
  refine take_dst 3 8 (.agg #[.int .i64 (n : Int), .int .i64 a, .int .i64 b, .int .i64 c, .int .i64 s]) rfl (by kernel_rfl) (by kernel_rfl) (by kernel_rfl) (fun _ _ _ h => h) (Or.inl ⟨by rfl, by intro wv hSv; unfold OldS at hSv; go_simp⟩) hd rfl ?_
  try simp only [tk0, tk1, tk2, tk3, tk4]
  refine wpAnyH_ready (rs := [4]) (by kernel_rfl) (by simp) ?_
  refine AllReadyH.cons rfl (fun KK hKK => ?_) AllReadyH.nil
  go_simp
  clear hf4
  have Q0 := (RowL.new w0 [.int .i64 0, .int .i64 0, .int .i64 0, .int .i64 0, .int .i64 0] 88).call (Below.refl _ _).drew
  have bA : Below w0.heap.size w0 (w0.alloc (.cells #[.int .i64 0, .int .i64 0, .int .i64 0, .int .i64 0, .int .i64 0] 88)).drew := ((Below.refl _ _).alloc (Nat.le_refl _) _).drew
  generalize (w0.alloc (.cells #[.int .i64 0, .int .i64 0, .int .i64 0, .int .i64 0, .int .i64 0] 88)).drew = v1 at Q0 bA ⊢
  have h1o : OldS w0 v1 := OldS.of bA
  refine hKK.out _ _ h1o (fun _ => ?_)
  clear hKK KK
  try simp only [tk0, tk1, tk2, tk3, tk4]
  refine take_dst 5 3 (.pointer (some ⟨B, uo + n * 10, none⟩)) rfl (by kernel_rfl) (by kernel_rfl) (by kernel_rfl) (fun _ _ _ h => h) (Or.inl ⟨by rfl, by intro wv hSv; unfold OldS at hSv; go_simp⟩) h1o rfl ?_
  try simp only [tk0, tk1, tk2, tk3, tk4]
  have e0 := Q0.cell 0 rfl
  have e1 := Q0.cell 1 rfl
  have e2 := Q0.cell 2 rfl
  have e3 := Q0.cell 3 rfl
  have e4 := Q0.cell 4 rfl
  have ef := Q0.frozen
  have hq := Q0.lt
  refine wpAnyH_ready (rs := [6]) (by kernel_rfl) (by simp) ?_
  refine AllReadyH.cons rfl (fun KK hKK => ?_) AllReadyH.nil
  go_simp
  have Q1 := (((((Q0.set 0 (.int .i64 (n : Int))).set 1 (.int .i64 a)).set 2 (.int .i64 b)).set 3 (.int .i64 c)).set 4 (.int .i64 s))
  have bB : Below w0.heap.size w0 (((((v1.setCell ⟨w0.heap.size, 0, none⟩ (.int .i64 (n : Int))).setCell ⟨w0.heap.size, 1, none⟩ (.int .i64 a)).setCell ⟨w0.heap.size, 2, none⟩ (.int .i64 b)).setCell ⟨w0.heap.size, 3, none⟩ (.int .i64 c)).setCell ⟨w0.heap.size, 4, none⟩ (.int .i64 s)) := (Below.setCell (Below.setCell (Below.setCell (Below.setCell (Below.setCell bA (p := ⟨w0.heap.size, 0, none⟩) (Nat.le_refl _) (.int .i64 (n : Int))) (p := ⟨w0.heap.size, 1, none⟩) (Nat.le_refl _) (.int .i64 a)) (p := ⟨w0.heap.size, 2, none⟩) (Nat.le_refl _) (.int .i64 b)) (p := ⟨w0.heap.size, 3, none⟩) (Nat.le_refl _) (.int .i64 c)) (p := ⟨w0.heap.size, 4, none⟩) (Nat.le_refl _) (.int .i64 s))
  clear e0 e1 e2 e3 e4 ef hq Q0
  generalize (((((v1.setCell ⟨w0.heap.size, 0, none⟩ (.int .i64 (n : Int))).setCell ⟨w0.heap.size, 1, none⟩ (.int .i64 a)).setCell ⟨w0.heap.size, 2, none⟩ (.int .i64 b)).setCell ⟨w0.heap.size, 3, none⟩ (.int .i64 c)).setCell ⟨w0.heap.size, 4, none⟩ (.int .i64 s)) = v2 at Q1 bB ⊢
  have h2o : OldS w0 v2 := OldS.of bB
  refine hKK.out _ _ h2o (fun _ => ?_)
  clear hKK KK
  try simp only [tk0, tk1, tk2, tk3, tk4]
  refine wpAnyH_done (by kernel_rfl) ?_ _
  clear hH hd h1o h2o bA
  replace r0 := (bB.cell (p := ⟨w.heap.size, 0, none⟩) hl).trans r0
  replace r1 := (bB.cell (p := ⟨w.heap.size, 1, none⟩) hl).trans r1
  replace r2 := (bB.cell (p := ⟨w.heap.size, 2, none⟩) hl).trans r2
  replace r3 := (bB.cell (p := ⟨w.heap.size, 3, none⟩) hl).trans r3
  replace r4 := (bB.cell (p := ⟨w.heap.size, 4, none⟩) hl).trans r4
  replace r5 := (bB.cell (p := ⟨w.heap.size, 5, none⟩) hl).trans r5
  replace r6 := (bB.cell (p := ⟨w.heap.size, 6, none⟩) hl).trans r6
  replace r7 := (bB.cell (p := ⟨w.heap.size, 7, none⟩) hl).trans r7
  replace t0 := (bB.cell (p := ⟨B, uo + n * 10 + 0, none⟩) hB0).trans t0
  replace t1 := (bB.cell (p := ⟨B, uo + n * 10 + 1, none⟩) hB0).trans t1
  replace t2 := (bB.cell (p := ⟨B, uo + n * 10 + 2, none⟩) hB0).trans t2
  replace t3 := (bB.cell (p := ⟨B, uo + n * 10 + 3, none⟩) hB0).trans t3
  replace t4 := (bB.cell (p := ⟨B, uo + n * 10 + 4, none⟩) hB0).trans t4
  replace t0 : v2.cell? ⟨B, uo + n * 10, none⟩ = some (.int .i64 (aU n)) := t0
  replace p1 := (bB.cell (p := ⟨pb, po + 1, none⟩) hpb).trans p1
  clear p1
  clear p2 p3 p4 p5 p6
  have i0 := Q1.cell 0 rfl
  have i1 := Q1.cell 1 rfl
  have i2 := Q1.cell 2 rfl
  have i3 := Q1.cell 3 rfl
  have i4 := Q1.cell 4 rfl
  have hli := Q1.lt
  have hl2 := Nat.lt_of_lt_of_le hl bB.size
  have hpb2 := Nat.lt_of_lt_of_le hpb bB.size
  have hB2 := Nat.lt_of_lt_of_le hB0 bB.size
  have bF := bw.trans (bB.mono bw.size)
  clear hl hpb hB0 bw bB Q1 hP0 hP hU
  generalize w0.heap.size = BI at i0 i1 i2 i3 i4 hli ⊢
  go_wp2_with fail
  have hd : OldS v2 v2.drew := OldS.of (Below.refl _ _).drew
  refine wp_region_held_drew (S := OldS v2) (by kernel_rfl) hd (fun hH => ?_)
  refine take_dst 0 9 (.pointer (some ⟨B, uo + n * 10, none⟩)) rfl (by kernel_rfl) (by kernel_rfl) (by kernel_rfl) (fun _ _ _ h => h) (Or.inl ⟨by rfl, by intro wv hSv; unfold OldS at hSv; go_simp⟩) hd rfl ?_
  try simp only [tk0, tk1, tk2, tk3, tk4]
  refine take_dst 1 10 (.pointer (some ⟨B, uo + n * 10, none⟩)) rfl (by kernel_rfl) (by kernel_rfl) (by kernel_rfl) (fun _ _ _ h => h) (Or.inl ⟨by rfl, by intro wv hSv; unfold OldS at hSv; go_simp⟩) hd rfl ?_
  try simp only [tk0, tk1, tk2, tk3, tk4]
  refine take_dst 2 11 (.pointer (some ⟨B, uo + n * 10 + 4, none⟩)) rfl (by kernel_rfl) (by kernel_rfl) (by kernel_rfl) (fun _ _ _ h => h) (Or.inl ⟨by rfl, by intro wv hSv; unfold OldS at hSv; go_simp⟩) hd rfl ?_
  try simp only [tk0, tk1, tk2, tk3, tk4]
  refine take_dst 3 12 (.bool false) rfl (by kernel_rfl) (by kernel_rfl) (by kernel_rfl) (fun _ _ _ h => h) (Or.inl ⟨by rfl, by intro wv hSv; unfold OldS at hSv; go_simp⟩) hd rfl ?_
  try simp only [tk0, tk1, tk2, tk3, tk4]
  refine take_dst 4 13 (.bool false) rfl (by kernel_rfl) (by kernel_rfl) (by kernel_rfl) (fun _ _ _ h => h) (Or.inl ⟨by rfl, by intro wv hSv; unfold OldS at hSv; go_simp⟩) hd rfl ?_
  try simp only [tk0, tk1, tk2, tk3, tk4]
  refine take_dst 5 14 undef rfl (by kernel_rfl) (by kernel_rfl) (by kernel_rfl) (fun _ _ _ h => h) (Or.inr ⟨by rfl, rfl⟩) hd rfl ?_
  try simp only [tk0, tk1, tk2, tk3, tk4]
  refine take_dst 6 15 undef rfl (by kernel_rfl) (by kernel_rfl) (by kernel_rfl) (fun _ _ _ h => h) (Or.inr ⟨by rfl, rfl⟩) hd rfl ?_
  try simp only [tk0, tk1, tk2, tk3, tk4]
  refine take_dst 7 16 undef rfl (by kernel_rfl) (by kernel_rfl) (by kernel_rfl) (fun _ _ _ h => h) (Or.inr ⟨by rfl, rfl⟩) hd rfl ?_
  try simp only [tk0, tk1, tk2, tk3, tk4]
  refine take_dst 8 17 undef rfl (by kernel_rfl) (by kernel_rfl) (by kernel_rfl) (fun _ _ _ h => h) (Or.inr ⟨by rfl, rfl⟩) hd rfl ?_
  try simp only [tk0, tk1, tk2, tk3, tk4]
  refine take_dst 9 18 undef rfl (by kernel_rfl) (by kernel_rfl) (by kernel_rfl) (fun _ _ _ h => h) (Or.inr ⟨by rfl, rfl⟩) hd rfl ?_
  try simp only [tk0, tk1, tk2, tk3, tk4]
  refine take_dst 10 19 undef rfl (by kernel_rfl) (by kernel_rfl) (by kernel_rfl) (fun _ _ _ h => h) (Or.inr ⟨by rfl, rfl⟩) hd rfl ?_
  try simp only [tk0, tk1, tk2, tk3, tk4]
  refine take_dst 11 20 (.bool false) rfl (by kernel_rfl) (by kernel_rfl) (by kernel_rfl) (fun _ _ _ h => h) (Or.inl ⟨by rfl, by intro wv hSv; unfold OldS at hSv; go_simp⟩) hd rfl ?_
  try simp only [tk0, tk1, tk2, tk3, tk4]
  refine take_dst 12 21 (.bool false) rfl (by kernel_rfl) (by kernel_rfl) (by kernel_rfl) (fun _ _ _ h => h) (Or.inl ⟨by rfl, by intro wv hSv; unfold OldS at hSv; go_simp⟩) hd rfl ?_
  try simp only [tk0, tk1, tk2, tk3, tk4]
  refine take_dst 13 22 (.pointer (some ⟨B, uo + n * 10, none⟩)) rfl (by kernel_rfl) (by kernel_rfl) (by kernel_rfl) (fun _ _ _ h => h) (Or.inl ⟨by rfl, by intro wv hSv; unfold OldS at hSv; go_simp⟩) hd rfl ?_
  try simp only [tk0, tk1, tk2, tk3, tk4]
  refine take_dst 14 23 (.pointer (some ⟨B, uo + n * 10, none⟩)) rfl (by kernel_rfl) (by kernel_rfl) (by kernel_rfl) (fun _ _ _ h => h) (Or.inl ⟨by rfl, by intro wv hSv; unfold OldS at hSv; go_simp⟩) hd rfl ?_
  try simp only [tk0, tk1, tk2, tk3, tk4]
  refine take_dst 15 24 (.pointer (some ⟨B, uo + n * 10, none⟩)) rfl (by kernel_rfl) (by kernel_rfl) (by kernel_rfl) (fun _ _ _ h => h) (Or.inl ⟨by rfl, by intro wv hSv; unfold OldS at hSv; go_simp⟩) hd rfl ?_
  try simp only [tk0, tk1, tk2, tk3, tk4]
  refine take_dst 16 25 (.int .i64 (aU n)) rfl (by kernel_rfl) (by kernel_rfl) (by kernel_rfl) (fun _ _ _ h => h) (Or.inl ⟨by rfl, by intro wv hSv; unfold OldS at hSv; go_simp⟩) hd rfl ?_
  try simp only [tk0, tk1, tk2, tk3, tk4]
  refine take_dst 17 26 (.pointer (some ⟨BI, 1, none⟩)) rfl (by kernel_rfl) (by kernel_rfl) (by kernel_rfl) (fun _ _ _ h => h) (Or.inl ⟨by rfl, by intro wv hSv; unfold OldS at hSv; go_simp⟩) hd rfl ?_
  try simp only [tk0, tk1, tk2, tk3, tk4]
  refine take_dst 18 27 (.int .i64 a) rfl (by kernel_rfl) (by kernel_rfl) (by kernel_rfl) (fun _ _ _ h => h) (Or.inl ⟨by rfl, by intro wv hSv; unfold OldS at hSv; go_simp⟩) hd rfl ?_
  try simp only [tk0, tk1, tk2, tk3, tk4]
  refine wpAnyH_ready (rs := [19]) (by kernel_rfl) (by simp) ?_
  refine AllReadyH.cons rfl (fun KK hKK => ?_) AllReadyH.nil
  go_simp
  refine (allows_in (aU n) a _ a6.1 a6.2).mono ?_
  rintro e y3 ⟨⟨r, rfl, hr⟩, rfl⟩
  replace hr : Hid _ := hr
  go_wp2_with fail
  refine hKK.out _ _ hd (fun _ => ?_)
  clear hKK KK
  try simp only [tk0, tk1, tk2, tk3, tk4]
  cases r with
  | false =>
    refine take_dst 20 29 (.bool true) rfl (by kernel_rfl) (by kernel_rfl) (by kernel_rfl) (fun _ _ _ h => h) (Or.inl ⟨by rfl, by intro wv hSv; unfold OldS at hSv; go_simp⟩) hd rfl ?_
    try simp only [tk0, tk1, tk2, tk3, tk4]
    refine take_dst 21 30 (.bool true) rfl (by kernel_rfl) (by kernel_rfl) (by kernel_rfl) (fun _ _ _ h => h) (Or.inl ⟨by rfl, by intro wv hSv; unfold OldS at hSv; go_simp⟩) hd rfl ?_
    try simp only [tk0, tk1, tk2, tk3, tk4]
    clear hH hd
    refine wpAnyH_done (by kernel_rfl) ?_ _
    go_wp2_with fail
    go_ret
    exact ⟨says_no fun h => by simpa using hr.out.2 (hI.out.1 h).2.1, bF.drew⟩
  | true =>
    refine take_dst 20 29 (.bool false) rfl (by kernel_rfl) (by kernel_rfl) (by kernel_rfl) (fun _ _ _ h => h) (Or.inl ⟨by rfl, by intro wv hSv; unfold OldS at hSv; go_simp⟩) hd rfl ?_
    try simp only [tk0, tk1, tk2, tk3, tk4]
    refine take_dst 21 30 (.bool false) rfl (by kernel_rfl) (by kernel_rfl) (by kernel_rfl) (fun _ _ _ h => h) (Or.inl ⟨by rfl, by intro wv hSv; unfold OldS at hSv; go_simp⟩) hd rfl ?_
    try simp only [tk0, tk1, tk2, tk3, tk4]
    refine wpAnyH_done (by kernel_rfl) ?_ _
    clear hH hd
    go_wp2_with fail
    have hd4 : OldS v2 v2.drew.drew := OldS.of ((Below.refl _ _).drew).drew
    refine wp_region_held_drew (S := OldS v2) (by kernel_rfl) hd4 (fun hH => ?_)
    refine take_dst 0 31 (.pointer (some ⟨B, uo + n * 10, none⟩)) rfl (by kernel_rfl) (by kernel_rfl) (by kernel_rfl) (fun _ _ _ h => h) (Or.inl ⟨by rfl, by intro wv hSv; unfold OldS at hSv; go_simp⟩) hd4 rfl ?_
    try simp only [tk0, tk1, tk2, tk3, tk4]
    refine take_dst 1 32 (.pointer (some ⟨B, uo + n * 10, none⟩)) rfl (by kernel_rfl) (by kernel_rfl) (by kernel_rfl) (fun _ _ _ h => h) (Or.inl ⟨by rfl, by intro wv hSv; unfold OldS at hSv; go_simp⟩) hd4 rfl ?_
    try simp only [tk0, tk1, tk2, tk3, tk4]
    refine take_dst 2 33 (.pointer (some ⟨B, uo + n * 10 + 3, none⟩)) rfl (by kernel_rfl) (by kernel_rfl) (by kernel_rfl) (fun _ _ _ h => h) (Or.inl ⟨by rfl, by intro wv hSv; unfold OldS at hSv; go_simp⟩) hd4 rfl ?_
    try simp only [tk0, tk1, tk2, tk3, tk4]
    refine take_dst 3 34 (.int .i64 (sU n)) rfl (by kernel_rfl) (by kernel_rfl) (by kernel_rfl) (fun _ _ _ h => h) (Or.inl ⟨by rfl, by intro wv hSv; unfold OldS at hSv; go_simp⟩) hd4 rfl ?_
    try simp only [tk0, tk1, tk2, tk3, tk4]
    by_cases m : sU n = 0
    · have nq : (sU n != 0) = false := by simp [m]
      replace m : Hid _ := m
      refine take_dst 4 35 (.bool false) rfl (by kernel_rfl) (by kernel_rfl) (by kernel_rfl) (fun _ _ _ h => h) (Or.inl ⟨by rfl, by intro wv hSv; unfold OldS at hSv; go_simp⟩) hd4 rfl ?_
      try simp only [tk0, tk1, tk2, tk3, tk4]
      refine take_dst 5 36 (.bool false) rfl (by kernel_rfl) (by kernel_rfl) (by kernel_rfl) (fun _ _ _ h => h) (Or.inl ⟨by rfl, by intro wv hSv; unfold OldS at hSv; go_simp⟩) hd4 rfl ?_
      try simp only [tk0, tk1, tk2, tk3, tk4]
      refine take_dst 6 37 (.pointer (some ⟨B, uo + n * 10, none⟩)) rfl (by kernel_rfl) (by kernel_rfl) (by kernel_rfl) (fun _ _ _ h => h) (Or.inl ⟨by rfl, by intro wv hSv; unfold OldS at hSv; go_simp⟩) hd4 rfl ?_
      try simp only [tk0, tk1, tk2, tk3, tk4]
      refine take_dst 7 38 (.pointer (some ⟨B, uo + n * 10, none⟩)) rfl (by kernel_rfl) (by kernel_rfl) (by kernel_rfl) (fun _ _ _ h => h) (Or.inl ⟨by rfl, by intro wv hSv; unfold OldS at hSv; go_simp⟩) hd4 rfl ?_
      try simp only [tk0, tk1, tk2, tk3, tk4]
      refine take_dst 8 39 (.pointer (some ⟨B, uo + n * 10 + 1, none⟩)) rfl (by kernel_rfl) (by kernel_rfl) (by kernel_rfl) (fun _ _ _ h => h) (Or.inl ⟨by rfl, by intro wv hSv; unfold OldS at hSv; go_simp⟩) hd4 rfl ?_
      try simp only [tk0, tk1, tk2, tk3, tk4]
      refine take_dst 9 40 (.int .i64 (bU n)) rfl (by kernel_rfl) (by kernel_rfl) (by kernel_rfl) (fun _ _ _ h => h) (Or.inl ⟨by rfl, by intro wv hSv; unfold OldS at hSv; go_simp⟩) hd4 rfl ?_
      try simp only [tk0, tk1, tk2, tk3, tk4]
      refine take_dst 10 41 (.pointer (some ⟨BI, 2, none⟩)) rfl (by kernel_rfl) (by kernel_rfl) (by kernel_rfl) (fun _ _ _ h => h) (Or.inl ⟨by rfl, by intro wv hSv; unfold OldS at hSv; go_simp⟩) hd4 rfl ?_
      try simp only [tk0, tk1, tk2, tk3, tk4]
      refine take_dst 11 42 (.int .i64 b) rfl (by kernel_rfl) (by kernel_rfl) (by kernel_rfl) (fun _ _ _ h => h) (Or.inl ⟨by rfl, by intro wv hSv; unfold OldS at hSv; go_simp⟩) hd4 rfl ?_
      try simp only [tk0, tk1, tk2, tk3, tk4]
      refine wpAnyH_ready (rs := [12]) (by kernel_rfl) (by simp) ?_
      refine AllReadyH.cons rfl (fun KK hKK => ?_) AllReadyH.nil
      go_simp
      refine (allows_in (bU n) b _ b6.1 b6.2).mono ?_
      rintro e y3 ⟨⟨r2, rfl, hr2⟩, rfl⟩
      replace hr2 : Hid _ := hr2
      go_wp2_with fail
      refine hKK.out _ _ hd4 (fun _ => ?_)
      clear hKK KK
      try simp only [tk0, tk1, tk2, tk3, tk4]
      cases r2 with
      | true =>
        refine take_dst 13 44 (.bool true) rfl (by kernel_rfl) (by kernel_rfl) (by kernel_rfl) (fun _ _ _ h => h) (Or.inl ⟨by rfl, by intro wv hSv; unfold OldS at hSv; go_simp⟩) hd4 rfl ?_
        try simp only [tk0, tk1, tk2, tk3, tk4]
        refine take_dst 14 45 (.pointer (some ⟨B, uo + n * 10, none⟩)) rfl (by kernel_rfl) (by kernel_rfl) (by kernel_rfl) (fun _ _ _ h => h) (Or.inl ⟨by rfl, by intro wv hSv; unfold OldS at hSv; go_simp⟩) hd4 rfl ?_
        try simp only [tk0, tk1, tk2, tk3, tk4]
        refine take_dst 15 46 (.pointer (some ⟨B, uo + n * 10, none⟩)) rfl (by kernel_rfl) (by kernel_rfl) (by kernel_rfl) (fun _ _ _ h => h) (Or.inl ⟨by rfl, by intro wv hSv; unfold OldS at hSv; go_simp⟩) hd4 rfl ?_
        try simp only [tk0, tk1, tk2, tk3, tk4]
        refine take_dst 16 47 (.pointer (some ⟨B, uo + n * 10 + 2, none⟩)) rfl (by kernel_rfl) (by kernel_rfl) (by kernel_rfl) (fun _ _ _ h => h) (Or.inl ⟨by rfl, by intro wv hSv; unfold OldS at hSv; go_simp⟩) hd4 rfl ?_
        try simp only [tk0, tk1, tk2, tk3, tk4]
        refine take_dst 17 48 (.int .i64 (cU n)) rfl (by kernel_rfl) (by kernel_rfl) (by kernel_rfl) (fun _ _ _ h => h) (Or.inl ⟨by rfl, by intro wv hSv; unfold OldS at hSv; go_simp⟩) hd4 rfl ?_
        try simp only [tk0, tk1, tk2, tk3, tk4]
        refine take_dst 18 49 (.pointer (some ⟨BI, 3, none⟩)) rfl (by kernel_rfl) (by kernel_rfl) (by kernel_rfl) (fun _ _ _ h => h) (Or.inl ⟨by rfl, by intro wv hSv; unfold OldS at hSv; go_simp⟩) hd4 rfl ?_
        try simp only [tk0, tk1, tk2, tk3, tk4]
        refine take_dst 19 50 (.int .i64 c) rfl (by kernel_rfl) (by kernel_rfl) (by kernel_rfl) (fun _ _ _ h => h) (Or.inl ⟨by rfl, by intro wv hSv; unfold OldS at hSv; go_simp⟩) hd4 rfl ?_
        try simp only [tk0, tk1, tk2, tk3, tk4]
        refine wpAnyH_ready (rs := [20]) (by kernel_rfl) (by simp) ?_
        refine AllReadyH.cons rfl (fun KK hKK => ?_) AllReadyH.nil
        go_simp
        refine (allows_in (cU n) c _ c6.1 c6.2).mono ?_
        rintro e y3 ⟨⟨r3, rfl, hr3⟩, rfl⟩
        replace hr3 : Hid _ := hr3
        go_wp2_with fail
        refine hKK.out _ _ hd4 (fun _ => ?_)
        clear hKK KK
        try simp only [tk0, tk1, tk2, tk3, tk4]
        refine take_dst 21 52 (.bool r3) rfl (by kernel_rfl) (by kernel_rfl) (by kernel_rfl) (fun _ _ _ h => h) (Or.inl ⟨by rfl, by intro wv hSv; unfold OldS at hSv; go_simp⟩) hd4 rfl ?_
        try simp only [tk0, tk1, tk2, tk3, tk4]
        refine take_dst 22 53 (.bool r3) rfl (by kernel_rfl) (by kernel_rfl) (by kernel_rfl) (fun _ _ _ h => h) (Or.inl ⟨by rfl, by intro wv hSv; unfold OldS at hSv; go_simp⟩) hd4 rfl ?_
        try simp only [tk0, tk1, tk2, tk3, tk4]
        refine take_dst 23 2 (.bool r3) rfl (by kernel_rfl) (by kernel_rfl) (by kernel_rfl) (fun _ _ _ h => h) (Or.inl ⟨by rfl, by intro wv hSv; unfold OldS at hSv; go_simp⟩) hd4 rfl ?_
        try simp only [tk0, tk1, tk2, tk3, tk4]
        clear hH hd4
        refine wpAnyH_done (by kernel_rfl) ?_ _
        go_wp2_with fail
        go_ret
        exact ⟨⟨_, rfl, hr3.out.trans ⟨fun h => hI.out.2 ⟨hV.out, hr.out.1 (by trivial), .inr ⟨hr2.out.1 (by trivial), h⟩⟩, fun h => ((hI.out.1 h).2.2.resolve_left (fun g => g m.out)).2⟩⟩, bF.drew.drew⟩
      | false =>
        refine take_dst 13 44 (.bool false) rfl (by kernel_rfl) (by kernel_rfl) (by kernel_rfl) (fun _ _ _ h => h) (Or.inl ⟨by rfl, by intro wv hSv; unfold OldS at hSv; go_simp⟩) hd4 rfl ?_
        try simp only [tk0, tk1, tk2, tk3, tk4]
        refine take_dst 14 45 undef rfl (by kernel_rfl) (by kernel_rfl) (by kernel_rfl) (fun _ _ _ h => h) (Or.inr ⟨by rfl, rfl⟩) hd4 rfl ?_
        try simp only [tk0, tk1, tk2, tk3, tk4]
        refine take_dst 15 46 undef rfl (by kernel_rfl) (by kernel_rfl) (by kernel_rfl) (fun _ _ _ h => h) (Or.inr ⟨by rfl, rfl⟩) hd4 rfl ?_
        try simp only [tk0, tk1, tk2, tk3, tk4]
        refine take_dst 16 47 undef rfl (by kernel_rfl) (by kernel_rfl) (by kernel_rfl) (fun _ _ _ h => h) (Or.inr ⟨by rfl, rfl⟩) hd4 rfl ?_
        try simp only [tk0, tk1, tk2, tk3, tk4]
        refine take_dst 17 48 undef rfl (by kernel_rfl) (by kernel_rfl) (by kernel_rfl) (fun _ _ _ h => h) (Or.inr ⟨by rfl, rfl⟩) hd4 rfl ?_
        try simp only [tk0, tk1, tk2, tk3, tk4]
        refine take_dst 18 49 undef rfl (by kernel_rfl) (by kernel_rfl) (by kernel_rfl) (fun _ _ _ h => h) (Or.inr ⟨by rfl, rfl⟩) hd4 rfl ?_
        try simp only [tk0, tk1, tk2, tk3, tk4]
        refine take_dst 19 50 undef rfl (by kernel_rfl) (by kernel_rfl) (by kernel_rfl) (fun _ _ _ h => h) (Or.inr ⟨by rfl, rfl⟩) hd4 rfl ?_
        try simp only [tk0, tk1, tk2, tk3, tk4]
        refine take_dst 20 51 undef rfl (by kernel_rfl) (by kernel_rfl) (by kernel_rfl) (fun _ _ _ h => h) (Or.inr ⟨by rfl, rfl⟩) hd4 rfl ?_
        try simp only [tk0, tk1, tk2, tk3, tk4]
        refine take_dst 21 52 (.bool false) rfl (by kernel_rfl) (by kernel_rfl) (by kernel_rfl) (fun _ _ _ h => h) (Or.inl ⟨by rfl, by intro wv hSv; unfold OldS at hSv; go_simp⟩) hd4 rfl ?_
        try simp only [tk0, tk1, tk2, tk3, tk4]
        refine take_dst 22 53 (.bool false) rfl (by kernel_rfl) (by kernel_rfl) (by kernel_rfl) (fun _ _ _ h => h) (Or.inl ⟨by rfl, by intro wv hSv; unfold OldS at hSv; go_simp⟩) hd4 rfl ?_
        try simp only [tk0, tk1, tk2, tk3, tk4]
        refine take_dst 23 2 (.bool false) rfl (by kernel_rfl) (by kernel_rfl) (by kernel_rfl) (fun _ _ _ h => h) (Or.inl ⟨by rfl, by intro wv hSv; unfold OldS at hSv; go_simp⟩) hd4 rfl ?_
        try simp only [tk0, tk1, tk2, tk3, tk4]
        clear hH hd4
        refine wpAnyH_done (by kernel_rfl) ?_ _
        go_wp2_with fail
        go_ret
        exact ⟨says_no fun h => by simpa using hr2.out.2 ((hI.out.1 h).2.2.resolve_left (fun g => g m.out)).1, bF.drew.drew⟩
    · have nq : (sU n != 0) = true := by simp [m]
      replace m : Hid _ := m
      refine take_dst 4 35 (.bool true) rfl (by kernel_rfl) (by kernel_rfl) (by kernel_rfl) (fun _ _ _ h => h) (Or.inl ⟨by rfl, by intro wv hSv; unfold OldS at hSv; go_simp⟩) hd4 rfl ?_
      try simp only [tk0, tk1, tk2, tk3, tk4]
      refine take_dst 5 36 (.bool true) rfl (by kernel_rfl) (by kernel_rfl) (by kernel_rfl) (fun _ _ _ h => h) (Or.inl ⟨by rfl, by intro wv hSv; unfold OldS at hSv; go_simp⟩) hd4 rfl ?_
      try simp only [tk0, tk1, tk2, tk3, tk4]
      refine take_dst 6 37 undef rfl (by kernel_rfl) (by kernel_rfl) (by kernel_rfl) (fun _ _ _ h => h) (Or.inr ⟨by rfl, rfl⟩) hd4 rfl ?_
      try simp only [tk0, tk1, tk2, tk3, tk4]
      refine take_dst 7 38 undef rfl (by kernel_rfl) (by kernel_rfl) (by kernel_rfl) (fun _ _ _ h => h) (Or.inr ⟨by rfl, rfl⟩) hd4 rfl ?_
      try simp only [tk0, tk1, tk2, tk3, tk4]
      refine take_dst 8 39 undef rfl (by kernel_rfl) (by kernel_rfl) (by kernel_rfl) (fun _ _ _ h => h) (Or.inr ⟨by rfl, rfl⟩) hd4 rfl ?_
      try simp only [tk0, tk1, tk2, tk3, tk4]
      refine take_dst 9 40 undef rfl (by kernel_rfl) (by kernel_rfl) (by kernel_rfl) (fun _ _ _ h => h) (Or.inr ⟨by rfl, rfl⟩) hd4 rfl ?_
      try simp only [tk0, tk1, tk2, tk3, tk4]
      refine take_dst 10 41 undef rfl (by kernel_rfl) (by kernel_rfl) (by kernel_rfl) (fun _ _ _ h => h) (Or.inr ⟨by rfl, rfl⟩) hd4 rfl ?_
      try simp only [tk0, tk1, tk2, tk3, tk4]
      refine take_dst 11 42 undef rfl (by kernel_rfl) (by kernel_rfl) (by kernel_rfl) (fun _ _ _ h => h) (Or.inr ⟨by rfl, rfl⟩) hd4 rfl ?_
      try simp only [tk0, tk1, tk2, tk3, tk4]
      refine take_dst 12 43 undef rfl (by kernel_rfl) (by kernel_rfl) (by kernel_rfl) (fun _ _ _ h => h) (Or.inr ⟨by rfl, rfl⟩) hd4 rfl ?_
      try simp only [tk0, tk1, tk2, tk3, tk4]
      refine take_dst 13 44 undef rfl (by kernel_rfl) (by kernel_rfl) (by kernel_rfl) (fun _ _ _ h => h) (Or.inr ⟨by rfl, rfl⟩) hd4 rfl ?_
      try simp only [tk0, tk1, tk2, tk3, tk4]
      refine take_dst 14 45 undef rfl (by kernel_rfl) (by kernel_rfl) (by kernel_rfl) (fun _ _ _ h => h) (Or.inr ⟨by rfl, rfl⟩) hd4 rfl ?_
      try simp only [tk0, tk1, tk2, tk3, tk4]
      refine take_dst 15 46 undef rfl (by kernel_rfl) (by kernel_rfl) (by kernel_rfl) (fun _ _ _ h => h) (Or.inr ⟨by rfl, rfl⟩) hd4 rfl ?_
      try simp only [tk0, tk1, tk2, tk3, tk4]
      refine take_dst 16 47 undef rfl (by kernel_rfl) (by kernel_rfl) (by kernel_rfl) (fun _ _ _ h => h) (Or.inr ⟨by rfl, rfl⟩) hd4 rfl ?_
      try simp only [tk0, tk1, tk2, tk3, tk4]
      refine take_dst 17 48 undef rfl (by kernel_rfl) (by kernel_rfl) (by kernel_rfl) (fun _ _ _ h => h) (Or.inr ⟨by rfl, rfl⟩) hd4 rfl ?_
      try simp only [tk0, tk1, tk2, tk3, tk4]
      refine take_dst 18 49 undef rfl (by kernel_rfl) (by kernel_rfl) (by kernel_rfl) (fun _ _ _ h => h) (Or.inr ⟨by rfl, rfl⟩) hd4 rfl ?_
      try simp only [tk0, tk1, tk2, tk3, tk4]
      refine take_dst 19 50 undef rfl (by kernel_rfl) (by kernel_rfl) (by kernel_rfl) (fun _ _ _ h => h) (Or.inr ⟨by rfl, rfl⟩) hd4 rfl ?_
      try simp only [tk0, tk1, tk2, tk3, tk4]
      refine take_dst 20 51 undef rfl (by kernel_rfl) (by kernel_rfl) (by kernel_rfl) (fun _ _ _ h => h) (Or.inr ⟨by rfl, rfl⟩) hd4 rfl ?_
      try simp only [tk0, tk1, tk2, tk3, tk4]
      refine take_dst 21 52 undef rfl (by kernel_rfl) (by kernel_rfl) (by kernel_rfl) (fun _ _ _ h => h) (Or.inr ⟨by rfl, rfl⟩) hd4 rfl ?_
      try simp only [tk0, tk1, tk2, tk3, tk4]
      refine take_dst 22 53 (.bool true) rfl (by kernel_rfl) (by kernel_rfl) (by kernel_rfl) (fun _ _ _ h => h) (Or.inl ⟨by rfl, by intro wv hSv; unfold OldS at hSv; go_simp⟩) hd4 rfl ?_
      try simp only [tk0, tk1, tk2, tk3, tk4]
      refine take_dst 23 2 (.bool true) rfl (by kernel_rfl) (by kernel_rfl) (by kernel_rfl) (fun _ _ _ h => h) (Or.inl ⟨by rfl, by intro wv hSv; unfold OldS at hSv; go_simp⟩) hd4 rfl ?_
      try simp only [tk0, tk1, tk2, tk3, tk4]
      clear hH hd4
      refine wpAnyH_done (by kernel_rfl) ?_ _
      go_wp2_with fail
      go_ret
      exact ⟨says_yes (hI.out.2 ⟨hV.out, hr.out.1 (by trivial), .inl m.out⟩), bF.drew.drew⟩
set_option maxHeartbeats 4000000 in
theorem ff_1 (w : World) (pb po B uo : Nat) (pc : Int) (n : Nat) (a b c s : Int) (p : PD) (a3 a4 a5 : Value) (hP : PtrP w pb po p a3 a4 a5) (hU : UsO w B uo) (hB : B < w.heap.size) (hn : n ≤ 33) (hf4 : usC n 4 = .bool true) (hV : Hid (n = 24 → p.vararg = true)) (hv : p.vararg = true) :
    Calls Tryz.prog 110 #[plN pb po B uo pc n a b c s] w fun e w' => Says e (FieldOk n a b c p.vararg) ∧ Below w.heap.size w w' := by
  have hI : Hid (FieldOk n a b c p.vararg ↔ ((n = 24 → p.vararg = true) ∧ Allow (aU n) a ∧ (sU n ≠ 0 ∨ (Allow (bU n) b ∧ Allow (cU n) c)))) := field_iff n hn a b c p.vararg
  have a6 := aU6 n
  have b6 := bU6 n
  have c6 := cU6 n
  have hU9 := hU n
  have t0 : w.cell? ⟨B, uo + n * 10 + 0, none⟩ = some (.int .i64 (aU n)) := by rw [← us0 n (by omega)]; exact hU n 0 (by omega) (by omega)
  have t1 : w.cell? ⟨B, uo + n * 10 + 1, none⟩ = some (.int .i64 (bU n)) := by rw [← us1 n (by omega)]; exact hU n 1 (by omega) (by omega)
  have t2 : w.cell? ⟨B, uo + n * 10 + 2, none⟩ = some (.int .i64 (cU n)) := by rw [← us2 n (by omega)]; exact hU n 2 (by omega) (by omega)
  have t3 : w.cell? ⟨B, uo + n * 10 + 3, none⟩ = some (.int .i64 (sU n)) := by rw [← us3 n (by omega)]; exact hU n 3 (by omega) (by omega)
  have t4 : w.cell? ⟨B, uo + n * 10 + 4, none⟩ = some (.bool true) := by rw [← hf4]; exact hU n 4 (by omega) (by omega)
  clear hU9
  go_enter Tryz.func110, Tryz.ntmps110
  go_wp2_with fail
  have R0 := RowL.new w [.pointer (some ⟨pb, po, none⟩), .pointer (some ⟨B, uo + n * 10, none⟩), .int .i64 pc, .int .i64 (n : Int), .int .i64 a, .int .i64 b, .int .i64 c, .int .i64 s] 150
  have bw : Below w.heap.size w (w.alloc (.cells #[.pointer (some ⟨pb, po, none⟩), .pointer (some ⟨B, uo + n * 10, none⟩), .int .i64 pc, .int .i64 (n : Int), .int .i64 a, .int .i64 b, .int .i64 c, .int .i64 s] 150)) := (Below.refl _ _).alloc (Nat.le_refl _) _
  generalize w.alloc (.cells #[.pointer (some ⟨pb, po, none⟩), .pointer (some ⟨B, uo + n * 10, none⟩), .int .i64 pc, .int .i64 (n : Int), .int .i64 a, .int .i64 b, .int .i64 c, .int .i64 s] 150) = w0 at R0 bw ⊢
  have r0 := R0.cell 0 rfl
  have r1 := R0.cell 1 rfl
  have r2 := R0.cell 2 rfl
  have r3 := R0.cell 3 rfl
  have r4 := R0.cell 4 rfl
  have r5 := R0.cell 5 rfl
  have r6 := R0.cell 6 rfl
  have r7 := R0.cell 7 rfl
  have hl := R0.lt
  clear R0
  have hP0 := hP.later bw
  have p1 := hP0.c1
  have p2 := hP0.c2
  have p3 := hP0.c3
  have p4 := hP0.c4
  have p5 := hP0.c5
  have p6 := hP0.c6
  have hpb := hP0.lt
  have hB0 : B < w0.heap.size := Nat.lt_of_lt_of_le hB bw.size
  replace t0 := (bw.cell (p := ⟨B, uo + n * 10 + 0, none⟩) hB).trans t0
  replace t1 := (bw.cell (p := ⟨B, uo + n * 10 + 1, none⟩) hB).trans t1
  replace t2 := (bw.cell (p := ⟨B, uo + n * 10 + 2, none⟩) hB).trans t2
  replace t3 := (bw.cell (p := ⟨B, uo + n * 10 + 3, none⟩) hB).trans t3
  replace t4 := (bw.cell (p := ⟨B, uo + n * 10 + 4, none⟩) hB).trans t4
  replace hP0 : Hid _ := hP0
  replace hP : Hid _ := hP
  replace hU : Hid _ := hU
  have hd : OldS w0 w0.drew := OldS.of (Below.refl _ _).drew
  refine wp_region_held_drew (S := OldS w0) (by kernel_rfl) hd (fun hH => ?_)
  refine take_dst 0 5 (.pointer (some ⟨w.heap.size, 1, none⟩)) rfl (by kernel_rfl) (by kernel_rfl) (by kernel_rfl) (fun _ _ _ h => h) (Or.inl ⟨by rfl, by intro wv hSv; unfold OldS at hSv; go_simp⟩) hd rfl ?_
  try simp only [tk0, tk1, tk2, tk3, tk4]
  refine take_dst 1 6 (.pointer (some ⟨B, uo + n * 10, none⟩)) rfl (by kernel_rfl) (by kernel_rfl) (by kernel_rfl) (fun _ _ _ h => h) (Or.inl ⟨by rfl, by intro wv hSv; unfold OldS at hSv; go_simp⟩) hd rfl ?_
  try simp only [tk0, tk1, tk2, tk3, tk4]
  refine take_dst 2 7 (.pointer (some ⟨w.heap.size, 3, none⟩)) rfl (by kernel_rfl) (by kernel_rfl) (by kernel_rfl) (fun _ _ _ h => h) (Or.inl ⟨by rfl, by intro wv hSv; unfold OldS at hSv; go_simp⟩) hd rfl ?_
  try simp only [tk0, tk1, tk2, tk3, tk4]
  refine take_dst 3 8 (.agg #[.int .i64 (n : Int), .int .i64 a, .int .i64 b, .int .i64 c, .int .i64 s]) rfl (by kernel_rfl) (by kernel_rfl) (by kernel_rfl) (fun _ _ _ h => h) (Or.inl ⟨by rfl, by intro wv hSv; unfold OldS at hSv; go_simp⟩) hd rfl ?_
  try simp only [tk0, tk1, tk2, tk3, tk4]
  refine wpAnyH_ready (rs := [4]) (by kernel_rfl) (by simp) ?_
  refine AllReadyH.cons rfl (fun KK hKK => ?_) AllReadyH.nil
  go_simp
  clear hf4
  have Q0 := (RowL.new w0 [.int .i64 0, .int .i64 0, .int .i64 0, .int .i64 0, .int .i64 0] 88).call (Below.refl _ _).drew
  have bA : Below w0.heap.size w0 (w0.alloc (.cells #[.int .i64 0, .int .i64 0, .int .i64 0, .int .i64 0, .int .i64 0] 88)).drew := ((Below.refl _ _).alloc (Nat.le_refl _) _).drew
  generalize (w0.alloc (.cells #[.int .i64 0, .int .i64 0, .int .i64 0, .int .i64 0, .int .i64 0] 88)).drew = v1 at Q0 bA ⊢
  have h1o : OldS w0 v1 := OldS.of bA
  refine hKK.out _ _ h1o (fun _ => ?_)
  clear hKK KK
  try simp only [tk0, tk1, tk2, tk3, tk4]
  refine take_dst 5 3 (.pointer (some ⟨B, uo + n * 10, none⟩)) rfl (by kernel_rfl) (by kernel_rfl) (by kernel_rfl) (fun _ _ _ h => h) (Or.inl ⟨by rfl, by intro wv hSv; unfold OldS at hSv; go_simp⟩) h1o rfl ?_
  try simp only [tk0, tk1, tk2, tk3, tk4]
  have e0 := Q0.cell 0 rfl
  have e1 := Q0.cell 1 rfl
  have e2 := Q0.cell 2 rfl
  have e3 := Q0.cell 3 rfl
  have e4 := Q0.cell 4 rfl
  have ef := Q0.frozen
  have hq := Q0.lt
  refine wpAnyH_ready (rs := [6]) (by kernel_rfl) (by simp) ?_
  refine AllReadyH.cons rfl (fun KK hKK => ?_) AllReadyH.nil
  go_simp
  have Q1 := (((((Q0.set 0 (.int .i64 (n : Int))).set 1 (.int .i64 a)).set 2 (.int .i64 b)).set 3 (.int .i64 c)).set 4 (.int .i64 s))
  have bB : Below w0.heap.size w0 (((((v1.setCell ⟨w0.heap.size, 0, none⟩ (.int .i64 (n : Int))).setCell ⟨w0.heap.size, 1, none⟩ (.int .i64 a)).setCell ⟨w0.heap.size, 2, none⟩ (.int .i64 b)).setCell ⟨w0.heap.size, 3, none⟩ (.int .i64 c)).setCell ⟨w0.heap.size, 4, none⟩ (.int .i64 s)) := (Below.setCell (Below.setCell (Below.setCell (Below.setCell (Below.setCell bA (p := ⟨w0.heap.size, 0, none⟩) (Nat.le_refl _) (.int .i64 (n : Int))) (p := ⟨w0.heap.size, 1, none⟩) (Nat.le_refl _) (.int .i64 a)) (p := ⟨w0.heap.size, 2, none⟩) (Nat.le_refl _) (.int .i64 b)) (p := ⟨w0.heap.size, 3, none⟩) (Nat.le_refl _) (.int .i64 c)) (p := ⟨w0.heap.size, 4, none⟩) (Nat.le_refl _) (.int .i64 s))
  clear e0 e1 e2 e3 e4 ef hq Q0
  generalize (((((v1.setCell ⟨w0.heap.size, 0, none⟩ (.int .i64 (n : Int))).setCell ⟨w0.heap.size, 1, none⟩ (.int .i64 a)).setCell ⟨w0.heap.size, 2, none⟩ (.int .i64 b)).setCell ⟨w0.heap.size, 3, none⟩ (.int .i64 c)).setCell ⟨w0.heap.size, 4, none⟩ (.int .i64 s)) = v2 at Q1 bB ⊢
  have h2o : OldS w0 v2 := OldS.of bB
  refine hKK.out _ _ h2o (fun _ => ?_)
  clear hKK KK
  try simp only [tk0, tk1, tk2, tk3, tk4]
  refine wpAnyH_done (by kernel_rfl) ?_ _
  clear hH hd h1o h2o bA
  replace r0 := (bB.cell (p := ⟨w.heap.size, 0, none⟩) hl).trans r0
  replace r1 := (bB.cell (p := ⟨w.heap.size, 1, none⟩) hl).trans r1
  replace r2 := (bB.cell (p := ⟨w.heap.size, 2, none⟩) hl).trans r2
  replace r3 := (bB.cell (p := ⟨w.heap.size, 3, none⟩) hl).trans r3
  replace r4 := (bB.cell (p := ⟨w.heap.size, 4, none⟩) hl).trans r4
  replace r5 := (bB.cell (p := ⟨w.heap.size, 5, none⟩) hl).trans r5
  replace r6 := (bB.cell (p := ⟨w.heap.size, 6, none⟩) hl).trans r6
  replace r7 := (bB.cell (p := ⟨w.heap.size, 7, none⟩) hl).trans r7
  replace t0 := (bB.cell (p := ⟨B, uo + n * 10 + 0, none⟩) hB0).trans t0
  replace t1 := (bB.cell (p := ⟨B, uo + n * 10 + 1, none⟩) hB0).trans t1
  replace t2 := (bB.cell (p := ⟨B, uo + n * 10 + 2, none⟩) hB0).trans t2
  replace t3 := (bB.cell (p := ⟨B, uo + n * 10 + 3, none⟩) hB0).trans t3
  replace t4 := (bB.cell (p := ⟨B, uo + n * 10 + 4, none⟩) hB0).trans t4
  replace t0 : v2.cell? ⟨B, uo + n * 10, none⟩ = some (.int .i64 (aU n)) := t0
  replace p1 := (bB.cell (p := ⟨pb, po + 1, none⟩) hpb).trans p1
  rw [hv] at p1
  replace hv : Hid _ := hv
  clear p2 p3 p4 p5 p6
  have i0 := Q1.cell 0 rfl
  have i1 := Q1.cell 1 rfl
  have i2 := Q1.cell 2 rfl
  have i3 := Q1.cell 3 rfl
  have i4 := Q1.cell 4 rfl
  have hli := Q1.lt
  have hl2 := Nat.lt_of_lt_of_le hl bB.size
  have hpb2 := Nat.lt_of_lt_of_le hpb bB.size
  have hB2 := Nat.lt_of_lt_of_le hB0 bB.size
  have bF := bw.trans (bB.mono bw.size)
  clear hl hpb hB0 bw bB Q1 hP0 hP hU
  generalize w0.heap.size = BI at i0 i1 i2 i3 i4 hli ⊢
  go_wp2_with fail
  have hd : OldS v2 v2.drew := OldS.of (Below.refl _ _).drew
  refine wp_region_held_drew (S := OldS v2) (by kernel_rfl) hd (fun hH => ?_)
  refine take_dst 0 9 (.pointer (some ⟨B, uo + n * 10, none⟩)) rfl (by kernel_rfl) (by kernel_rfl) (by kernel_rfl) (fun _ _ _ h => h) (Or.inl ⟨by rfl, by intro wv hSv; unfold OldS at hSv; go_simp⟩) hd rfl ?_
  try simp only [tk0, tk1, tk2, tk3, tk4]
  refine take_dst 1 10 (.pointer (some ⟨B, uo + n * 10, none⟩)) rfl (by kernel_rfl) (by kernel_rfl) (by kernel_rfl) (fun _ _ _ h => h) (Or.inl ⟨by rfl, by intro wv hSv; unfold OldS at hSv; go_simp⟩) hd rfl ?_
  try simp only [tk0, tk1, tk2, tk3, tk4]
  refine take_dst 2 11 (.pointer (some ⟨B, uo + n * 10 + 4, none⟩)) rfl (by kernel_rfl) (by kernel_rfl) (by kernel_rfl) (fun _ _ _ h => h) (Or.inl ⟨by rfl, by intro wv hSv; unfold OldS at hSv; go_simp⟩) hd rfl ?_
  try simp only [tk0, tk1, tk2, tk3, tk4]
  refine take_dst 3 12 (.bool true) rfl (by kernel_rfl) (by kernel_rfl) (by kernel_rfl) (fun _ _ _ h => h) (Or.inl ⟨by rfl, by intro wv hSv; unfold OldS at hSv; go_simp⟩) hd rfl ?_
  try simp only [tk0, tk1, tk2, tk3, tk4]
  refine take_dst 4 13 (.bool true) rfl (by kernel_rfl) (by kernel_rfl) (by kernel_rfl) (fun _ _ _ h => h) (Or.inl ⟨by rfl, by intro wv hSv; unfold OldS at hSv; go_simp⟩) hd rfl ?_
  try simp only [tk0, tk1, tk2, tk3, tk4]
  refine take_dst 5 14 (.pointer (some ⟨w.heap.size, 0, none⟩)) rfl (by kernel_rfl) (by kernel_rfl) (by kernel_rfl) (fun _ _ _ h => h) (Or.inl ⟨by rfl, by intro wv hSv; unfold OldS at hSv; go_simp⟩) hd rfl ?_
  try simp only [tk0, tk1, tk2, tk3, tk4]
  refine take_dst 6 15 (.pointer (some ⟨pb, po, none⟩)) rfl (by kernel_rfl) (by kernel_rfl) (by kernel_rfl) (fun _ _ _ h => h) (Or.inl ⟨by rfl, by intro wv hSv; unfold OldS at hSv; go_simp⟩) hd rfl ?_
  try simp only [tk0, tk1, tk2, tk3, tk4]
  refine take_dst 7 16 (.pointer (some ⟨pb, po, none⟩)) rfl (by kernel_rfl) (by kernel_rfl) (by kernel_rfl) (fun _ _ _ h => h) (Or.inl ⟨by rfl, by intro wv hSv; unfold OldS at hSv; go_simp⟩) hd rfl ?_
  try simp only [tk0, tk1, tk2, tk3, tk4]
  refine take_dst 8 17 (.pointer (some ⟨pb, po + 1, none⟩)) rfl (by kernel_rfl) (by kernel_rfl) (by kernel_rfl) (fun _ _ _ h => h) (Or.inl ⟨by rfl, by intro wv hSv; unfold OldS at hSv; go_simp⟩) hd rfl ?_
  try simp only [tk0, tk1, tk2, tk3, tk4]
  refine take_dst 9 18 (.bool true) rfl (by kernel_rfl) (by kernel_rfl) (by kernel_rfl) (fun _ _ _ h => h) (Or.inl ⟨by rfl, by intro wv hSv; unfold OldS at hSv; go_simp⟩) hd rfl ?_
  try simp only [tk0, tk1, tk2, tk3, tk4]
  refine take_dst 10 19 (.bool false) rfl (by kernel_rfl) (by kernel_rfl) (by kernel_rfl) (fun _ _ _ h => h) (Or.inl ⟨by rfl, by intro wv hSv; unfold OldS at hSv; go_simp⟩) hd rfl ?_
  try simp only [tk0, tk1, tk2, tk3, tk4]
  refine take_dst 11 20 (.bool false) rfl (by kernel_rfl) (by kernel_rfl) (by kernel_rfl) (fun _ _ _ h => h) (Or.inl ⟨by rfl, by intro wv hSv; unfold OldS at hSv; go_simp⟩) hd rfl ?_
  try simp only [tk0, tk1, tk2, tk3, tk4]
  refine take_dst 12 21 (.bool false) rfl (by kernel_rfl) (by kernel_rfl) (by kernel_rfl) (fun _ _ _ h => h) (Or.inl ⟨by rfl, by intro wv hSv; unfold OldS at hSv; go_simp⟩) hd rfl ?_
  try simp only [tk0, tk1, tk2, tk3, tk4]
  refine take_dst 13 22 (.pointer (some ⟨B, uo + n * 10, none⟩)) rfl (by kernel_rfl) (by kernel_rfl) (by kernel_rfl) (fun _ _ _ h => h) (Or.inl ⟨by rfl, by intro wv hSv; unfold OldS at hSv; go_simp⟩) hd rfl ?_
  try simp only [tk0, tk1, tk2, tk3, tk4]
  refine take_dst 14 23 (.pointer (some ⟨B, uo + n * 10, none⟩)) rfl (by kernel_rfl) (by kernel_rfl) (by kernel_rfl) (fun _ _ _ h => h) (Or.inl ⟨by rfl, by intro wv hSv; unfold OldS at hSv; go_simp⟩) hd rfl ?_
  try simp only [tk0, tk1, tk2, tk3, tk4]
  refine take_dst 15 24 (.pointer (some ⟨B, uo + n * 10, none⟩)) rfl (by kernel_rfl) (by kernel_rfl) (by kernel_rfl) (fun _ _ _ h => h) (Or.inl ⟨by rfl, by intro wv hSv; unfold OldS at hSv; go_simp⟩) hd rfl ?_
  try simp only [tk0, tk1, tk2, tk3, tk4]
  refine take_dst 16 25 (.int .i64 (aU n)) rfl (by kernel_rfl) (by kernel_rfl) (by kernel_rfl) (fun _ _ _ h => h) (Or.inl ⟨by rfl, by intro wv hSv; unfold OldS at hSv; go_simp⟩) hd rfl ?_
  try simp only [tk0, tk1, tk2, tk3, tk4]
  refine take_dst 17 26 (.pointer (some ⟨BI, 1, none⟩)) rfl (by kernel_rfl) (by kernel_rfl) (by kernel_rfl) (fun _ _ _ h => h) (Or.inl ⟨by rfl, by intro wv hSv; unfold OldS at hSv; go_simp⟩) hd rfl ?_
  try simp only [tk0, tk1, tk2, tk3, tk4]
  refine take_dst 18 27 (.int .i64 a) rfl (by kernel_rfl) (by kernel_rfl) (by kernel_rfl) (fun _ _ _ h => h) (Or.inl ⟨by rfl, by intro wv hSv; unfold OldS at hSv; go_simp⟩) hd rfl ?_
  try simp only [tk0, tk1, tk2, tk3, tk4]
  refine wpAnyH_ready (rs := [19]) (by kernel_rfl) (by simp) ?_
  refine AllReadyH.cons rfl (fun KK hKK => ?_) AllReadyH.nil
  go_simp
  refine (allows_in (aU n) a _ a6.1 a6.2).mono ?_
  rintro e y3 ⟨⟨r, rfl, hr⟩, rfl⟩
  replace hr : Hid _ := hr
  go_wp2_with fail
  refine hKK.out _ _ hd (fun _ => ?_)
  clear hKK KK
  try simp only [tk0, tk1, tk2, tk3, tk4]
  cases r with
  | false =>
    refine take_dst 20 29 (.bool true) rfl (by kernel_rfl) (by kernel_rfl) (by kernel_rfl) (fun _ _ _ h => h) (Or.inl ⟨by rfl, by intro wv hSv; unfold OldS at hSv; go_simp⟩) hd rfl ?_
    try simp only [tk0, tk1, tk2, tk3, tk4]
    refine take_dst 21 30 (.bool true) rfl (by kernel_rfl) (by kernel_rfl) (by kernel_rfl) (fun _ _ _ h => h) (Or.inl ⟨by rfl, by intro wv hSv; unfold OldS at hSv; go_simp⟩) hd rfl ?_
    try simp only [tk0, tk1, tk2, tk3, tk4]
    clear hH hd
    refine wpAnyH_done (by kernel_rfl) ?_ _
    go_wp2_with fail
    go_ret
    exact ⟨says_no fun h => by simpa using hr.out.2 (hI.out.1 h).2.1, bF.drew⟩
  | true =>
    refine take_dst 20 29 (.bool false) rfl (by kernel_rfl) (by kernel_rfl) (by kernel_rfl) (fun _ _ _ h => h) (Or.inl ⟨by rfl, by intro wv hSv; unfold OldS at hSv; go_simp⟩) hd rfl ?_
    try simp only [tk0, tk1, tk2, tk3, tk4]
    refine take_dst 21 30 (.bool false) rfl (by kernel_rfl) (by kernel_rfl) (by kernel_rfl) (fun _ _ _ h => h) (Or.inl ⟨by rfl, by intro wv hSv; unfold OldS at hSv; go_simp⟩) hd rfl ?_
    try simp only [tk0, tk1, tk2, tk3, tk4]
    refine wpAnyH_done (by kernel_rfl) ?_ _
    clear hH hd
    go_wp2_with fail
    have hd4 : OldS v2 v2.drew.drew := OldS.of ((Below.refl _ _).drew).drew
    refine wp_region_held_drew (S := OldS v2) (by kernel_rfl) hd4 (fun hH => ?_)
    refine take_dst 0 31 (.pointer (some ⟨B, uo + n * 10, none⟩)) rfl (by kernel_rfl) (by kernel_rfl) (by kernel_rfl) (fun _ _ _ h => h) (Or.inl ⟨by rfl, by intro wv hSv; unfold OldS at hSv; go_simp⟩) hd4 rfl ?_
    try simp only [tk0, tk1, tk2, tk3, tk4]
    refine take_dst 1 32 (.pointer (some ⟨B, uo + n * 10, none⟩)) rfl (by kernel_rfl) (by kernel_rfl) (by kernel_rfl) (fun _ _ _ h => h) (Or.inl ⟨by rfl, by intro wv hSv; unfold OldS at hSv; go_simp⟩) hd4 rfl ?_
    try simp only [tk0, tk1, tk2, tk3, tk4]
    refine take_dst 2 33 (.pointer (some ⟨B, uo + n * 10 + 3, none⟩)) rfl (by kernel_rfl) (by kernel_rfl) (by kernel_rfl) (fun _ _ _ h => h) (Or.inl ⟨by rfl, by intro wv hSv; unfold OldS at hSv; go_simp⟩) hd4 rfl ?_
    try simp only [tk0, tk1, tk2, tk3, tk4]
    refine take_dst 3 34 (.int .i64 (sU n)) rfl (by kernel_rfl) (by kernel_rfl) (by kernel_rfl) (fun _ _ _ h => h) (Or.inl ⟨by rfl, by intro wv hSv; unfold OldS at hSv; go_simp⟩) hd4 rfl ?_
    try simp only [tk0, tk1, tk2, tk3, tk4]
    by_cases m : sU n = 0
    · have nq : (sU n != 0) = false := by simp [m]
      replace m : Hid _ := m
      refine take_dst 4 35 (.bool false) rfl (by kernel_rfl) (by kernel_rfl) (by kernel_rfl) (fun _ _ _ h => h) (Or.inl ⟨by rfl, by intro wv hSv; unfold OldS at hSv; go_simp⟩) hd4 rfl ?_
      try simp only [tk0, tk1, tk2, tk3, tk4]
      refine take_dst 5 36 (.bool false) rfl (by kernel_rfl) (by kernel_rfl) (by kernel_rfl) (fun _ _ _ h => h) (Or.inl ⟨by rfl, by intro wv hSv; unfold OldS at hSv; go_simp⟩) hd4 rfl ?_
      try simp only [tk0, tk1, tk2, tk3, tk4]
      refine take_dst 6 37 (.pointer (some ⟨B, uo + n * 10, none⟩)) rfl (by kernel_rfl) (by kernel_rfl) (by kernel_rfl) (fun _ _ _ h => h) (Or.inl ⟨by rfl, by intro wv hSv; unfold OldS at hSv; go_simp⟩) hd4 rfl ?_
      try simp only [tk0, tk1, tk2, tk3, tk4]
      refine take_dst 7 38 (.pointer (some ⟨B, uo + n * 10, none⟩)) rfl (by kernel_rfl) (by kernel_rfl) (by kernel_rfl) (fun _ _ _ h => h) (Or.inl ⟨by rfl, by intro wv hSv; unfold OldS at hSv; go_simp⟩) hd4 rfl ?_
      try simp only [tk0, tk1, tk2, tk3, tk4]
      refine take_dst 8 39 (.pointer (some ⟨B, uo + n * 10 + 1, none⟩)) rfl (by kernel_rfl) (by kernel_rfl) (by kernel_rfl) (fun _ _ _ h => h) (Or.inl ⟨by rfl, by intro wv hSv; unfold OldS at hSv; go_simp⟩) hd4 rfl ?_
      try simp only [tk0, tk1, tk2, tk3, tk4]
      refine take_dst 9 40 (.int .i64 (bU n)) rfl (by kernel_rfl) (by kernel_rfl) (by kernel_rfl) (fun _ _ _ h => h) (Or.inl ⟨by rfl, by intro wv hSv; unfold OldS at hSv; go_simp⟩) hd4 rfl ?_
      try simp only [tk0, tk1, tk2, tk3, tk4]
      refine take_dst 10 41 (.pointer (some ⟨BI, 2, none⟩)) rfl (by kernel_rfl) (by kernel_rfl) (by kernel_rfl) (fun _ _ _ h => h) (Or.inl ⟨by rfl, by intro wv hSv; unfold OldS at hSv; go_simp⟩) hd4 rfl ?_
      try simp only [tk0, tk1, tk2, tk3, tk4]
      refine take_dst 11 42 (.int .i64 b) rfl (by kernel_rfl) (by kernel_rfl) (by kernel_rfl) (fun _ _ _ h => h) (Or.inl ⟨by rfl, by intro wv hSv; unfold OldS at hSv; go_simp⟩) hd4 rfl ?_
      try simp only [tk0, tk1, tk2, tk3, tk4]
      refine wpAnyH_ready (rs := [12]) (by kernel_rfl) (by simp) ?_
      refine AllReadyH.cons rfl (fun KK hKK => ?_) AllReadyH.nil
      go_simp
      refine (allows_in (bU n) b _ b6.1 b6.2).mono ?_
      rintro e y3 ⟨⟨r2, rfl, hr2⟩, rfl⟩
      replace hr2 : Hid _ := hr2
      go_wp2_with fail
      refine hKK.out _ _ hd4 (fun _ => ?_)
      clear hKK KK
      try simp only [tk0, tk1, tk2, tk3, tk4]
      cases r2 with
      | true =>
        refine take_dst 13 44 (.bool true) rfl (by kernel_rfl) (by kernel_rfl) (by kernel_rfl) (fun _ _ _ h => h) (Or.inl ⟨by rfl, by intro wv hSv; unfold OldS at hSv; go_simp⟩) hd4 rfl ?_
        try simp only [tk0, tk1, tk2, tk3, tk4]
        refine take_dst 14 45 (.pointer (some ⟨B, uo + n * 10, none⟩)) rfl (by kernel_rfl) (by kernel_rfl) (by kernel_rfl) (fun _ _ _ h => h) (Or.inl ⟨by rfl, by intro wv hSv; unfold OldS at hSv; go_simp⟩) hd4 rfl ?_
        try simp only [tk0, tk1, tk2, tk3, tk4]
        refine take_dst 15 46 (.pointer (some ⟨B, uo + n * 10, none⟩)) rfl (by kernel_rfl) (by kernel_rfl) (by kernel_rfl) (fun _ _ _ h => h) (Or.inl ⟨by rfl, by intro wv hSv; unfold OldS at hSv; go_simp⟩) hd4 rfl ?_
        try simp only [tk0, tk1, tk2, tk3, tk4]
        refine take_dst 16 47 (.pointer (some ⟨B, uo + n * 10 + 2, none⟩)) rfl (by kernel_rfl) (by kernel_rfl) (by kernel_rfl) (fun _ _ _ h => h) (Or.inl ⟨by rfl, by intro wv hSv; unfold OldS at hSv; go_simp⟩) hd4 rfl ?_
        try simp only [tk0, tk1, tk2, tk3, tk4]
        refine take_dst 17 48 (.int .i64 (cU n)) rfl (by kernel_rfl) (by kernel_rfl) (by kernel_rfl) (fun _ _ _ h => h) (Or.inl ⟨by rfl, by intro wv hSv; unfold OldS at hSv; go_simp⟩) hd4 rfl ?_
        try simp only [tk0, tk1, tk2, tk3, tk4]
        refine take_dst 18 49 (.pointer (some ⟨BI, 3, none⟩)) rfl (by kernel_rfl) (by kernel_rfl) (by kernel_rfl) (fun _ _ _ h => h) (Or.inl ⟨by rfl, by intro wv hSv; unfold OldS at hSv; go_simp⟩) hd4 rfl ?_
        try simp only [tk0, tk1, tk2, tk3, tk4]
        refine take_dst 19 50 (.int .i64 c) rfl (by kernel_rfl) (by kernel_rfl) (by kernel_rfl) (fun _ _ _ h => h) (Or.inl ⟨by rfl, by intro wv hSv; unfold OldS at hSv; go_simp⟩) hd4 rfl ?_
        try simp only [tk0, tk1, tk2, tk3, tk4]
        refine wpAnyH_ready (rs := [20]) (by kernel_rfl) (by simp) ?_
        refine AllReadyH.cons rfl (fun KK hKK => ?_) AllReadyH.nil
        go_simp
        refine (allows_in (cU n) c _ c6.1 c6.2).mono ?_
        rintro e y3 ⟨⟨r3, rfl, hr3⟩, rfl⟩
        replace hr3 : Hid _ := hr3
        go_wp2_with fail
        refine hKK.out _ _ hd4 (fun _ => ?_)
        clear hKK KK
        try simp only [tk0, tk1, tk2, tk3, tk4]
        refine take_dst 21 52 (.bool r3) rfl (by kernel_rfl) (by kernel_rfl) (by kernel_rfl) (fun _ _ _ h => h) (Or.inl ⟨by rfl, by intro wv hSv; unfold OldS at hSv; go_simp⟩) hd4 rfl ?_
        try simp only [tk0, tk1, tk2, tk3, tk4]
        refine take_dst 22 53 (.bool r3) rfl (by kernel_rfl) (by kernel_rfl) (by kernel_rfl) (fun _ _ _ h => h) (Or.inl ⟨by rfl, by intro wv hSv; unfold OldS at hSv; go_simp⟩) hd4 rfl ?_
        try simp only [tk0, tk1, tk2, tk3, tk4]
        refine take_dst 23 2 (.bool r3) rfl (by kernel_rfl) (by kernel_rfl) (by kernel_rfl) (fun _ _ _ h => h) (Or.inl ⟨by rfl, by intro wv hSv; unfold OldS at hSv; go_simp⟩) hd4 rfl ?_
        try simp only [tk0, tk1, tk2, tk3, tk4]
        clear hH hd4
        refine wpAnyH_done (by kernel_rfl) ?_ _
        go_wp2_with fail
        go_ret
        exact ⟨⟨_, rfl, hr3.out.trans ⟨fun h => hI.out.2 ⟨hV.out, hr.out.1 (by trivial), .inr ⟨hr2.out.1 (by trivial), h⟩⟩, fun h => ((hI.out.1 h).2.2.resolve_left (fun g => g m.out)).2⟩⟩, bF.drew.drew⟩
      | false =>
        refine take_dst 13 44 (.bool false) rfl (by kernel_rfl) (by kernel_rfl) (by kernel_rfl) (fun _ _ _ h => h) (Or.inl ⟨by rfl, by intro wv hSv; unfold OldS at hSv; go_simp⟩) hd4 rfl ?_
        try simp only [tk0, tk1, tk2, tk3, tk4]
        refine take_dst 14 45 undef rfl (by kernel_rfl) (by kernel_rfl) (by kernel_rfl) (fun _ _ _ h => h) (Or.inr ⟨by rfl, rfl⟩) hd4 rfl ?_
        try simp only [tk0, tk1, tk2, tk3, tk4]
        refine take_dst 15 46 undef rfl (by kernel_rfl) (by kernel_rfl) (by kernel_rfl) (fun _ _ _ h => h) (Or.inr ⟨by rfl, rfl⟩) hd4 rfl ?_
        try simp only [tk0, tk1, tk2, tk3, tk4]
        refine take_dst 16 47 undef rfl (by kernel_rfl) (by kernel_rfl) (by kernel_rfl) (fun _ _ _ h => h) (Or.inr ⟨by rfl, rfl⟩) hd4 rfl ?_
        try simp only [tk0, tk1, tk2, tk3, tk4]
        refine take_dst 17 48 undef rfl (by kernel_rfl) (by kernel_rfl) (by kernel_rfl) (fun _ _ _ h => h) (Or.inr ⟨by rfl, rfl⟩) hd4 rfl ?_
        try simp only [tk0, tk1, tk2, tk3, tk4]
        refine take_dst 18 49 undef rfl (by kernel_rfl) (by kernel_rfl) (by kernel_rfl) (fun _ _ _ h => h) (Or.inr ⟨by rfl, rfl⟩) hd4 rfl ?_
        try simp only [tk0, tk1, tk2, tk3, tk4]
        refine take_dst 19 50 undef rfl (by kernel_rfl) (by kernel_rfl) (by kernel_rfl) (fun _ _ _ h => h) (Or.inr ⟨by rfl, rfl⟩) hd4 rfl ?_
        try simp only [tk0, tk1, tk2, tk3, tk4]
        refine take_dst 20 51 undef rfl (by kernel_rfl) (by kernel_rfl) (by kernel_rfl) (fun _ _ _ h => h) (Or.inr ⟨by rfl, rfl⟩) hd4 rfl ?_
        try simp only [tk0, tk1, tk2, tk3, tk4]
        refine take_dst 21 52 (.bool false) rfl (by kernel_rfl) (by kernel_rfl) (by kernel_rfl) (fun _ _ _ h => h) (Or.inl ⟨by rfl, by intro wv hSv; unfold OldS at hSv; go_simp⟩) hd4 rfl ?_
        try simp only [tk0, tk1, tk2, tk3, tk4]
        refine take_dst 22 53 (.bool false) rfl (by kernel_rfl) (by kernel_rfl) (by kernel_rfl) (fun _ _ _ h => h) (Or.inl ⟨by rfl, by intro wv hSv; unfold OldS at hSv; go_simp⟩) hd4 rfl ?_
        try simp only [tk0, tk1, tk2, tk3, tk4]
        refine take_dst 23 2 (.bool false) rfl (by kernel_rfl) (by kernel_rfl) (by kernel_rfl) (fun _ _ _ h => h) (Or.inl ⟨by rfl, by intro wv hSv; unfold OldS at hSv; go_simp⟩) hd4 rfl ?_
        try simp only [tk0, tk1, tk2, tk3, tk4]
        clear hH hd4
        refine wpAnyH_done (by kernel_rfl) ?_ _
        go_wp2_with fail
        go_ret
        exact ⟨says_no fun h => by simpa using hr2.out.2 ((hI.out.1 h).2.2.resolve_left (fun g => g m.out)).1, bF.drew.drew⟩
    · have nq : (sU n != 0) = true := by simp [m]
      replace m : Hid _ := m
      refine take_dst 4 35 (.bool true) rfl (by kernel_rfl) (by kernel_rfl) (by kernel_rfl) (fun _ _ _ h => h) (Or.inl ⟨by rfl, by intro wv hSv; unfold OldS at hSv; go_simp⟩) hd4 rfl ?_
      try simp only [tk0, tk1, tk2, tk3, tk4]
      refine take_dst 5 36 (.bool true) rfl (by kernel_rfl) (by kernel_rfl) (by kernel_rfl) (fun _ _ _ h => h) (Or.inl ⟨by rfl, by intro wv hSv; unfold OldS at hSv; go_simp⟩) hd4 rfl ?_
      try simp only [tk0, tk1, tk2, tk3, tk4]
      refine take_dst 6 37 undef rfl (by kernel_rfl) (by kernel_rfl) (by kernel_rfl) (fun _ _ _ h => h) (Or.inr ⟨by rfl, rfl⟩) hd4 rfl ?_
      try simp only [tk0, tk1, tk2, tk3, tk4]
      refine take_dst 7 38 undef rfl (by kernel_rfl) (by kernel_rfl) (by kernel_rfl) (fun _ _ _ h => h) (Or.inr ⟨by rfl, rfl⟩) hd4 rfl ?_
      try simp only [tk0, tk1, tk2, tk3, tk4]
      refine take_dst 8 39 undef rfl (by kernel_rfl) (by kernel_rfl) (by kernel_rfl) (fun _ _ _ h => h) (Or.inr ⟨by rfl, rfl⟩) hd4 rfl ?_
      try simp only [tk0, tk1, tk2, tk3, tk4]
      refine take_dst 9 40 undef rfl (by kernel_rfl) (by kernel_rfl) (by kernel_rfl) (fun _ _ _ h => h) (Or.inr ⟨by rfl, rfl⟩) hd4 rfl ?_
      try simp only [tk0, tk1, tk2, tk3, tk4]
      refine take_dst 10 41 undef rfl (by kernel_rfl) (by kernel_rfl) (by kernel_rfl) (fun _ _ _ h => h) (Or.inr ⟨by rfl, rfl⟩) hd4 rfl ?_
      try simp only [tk0, tk1, tk2, tk3, tk4]
      refine take_dst 11 42 undef rfl (by kernel_rfl) (by kernel_rfl) (by kernel_rfl) (fun _ _ _ h => h) (Or.inr ⟨by rfl, rfl⟩) hd4 rfl ?_
      try simp only [tk0, tk1, tk2, tk3, tk4]
      refine take_dst 12 43 undef rfl (by kernel_rfl) (by kernel_rfl) (by kernel_rfl) (fun _ _ _ h => h) (Or.inr ⟨by rfl, rfl⟩) hd4 rfl ?_
      try simp only [tk0, tk1, tk2, tk3, tk4]
      refine take_dst 13 44 undef rfl (by kernel_rfl) (by kernel_rfl) (by kernel_rfl) (fun _ _ _ h => h) (Or.inr ⟨by rfl, rfl⟩) hd4 rfl ?_
      try simp only [tk0, tk1, tk2, tk3, tk4]
      refine take_dst 14 45 undef rfl (by kernel_rfl) (by kernel_rfl) (by kernel_rfl) (fun _ _ _ h => h) (Or.inr ⟨by rfl, rfl⟩) hd4 rfl ?_
      try simp only [tk0, tk1, tk2, tk3, tk4]
      refine take_dst 15 46 undef rfl (by kernel_rfl) (by kernel_rfl) (by kernel_rfl) (fun _ _ _ h => h) (Or.inr ⟨by rfl, rfl⟩) hd4 rfl ?_
      try simp only [tk0, tk1, tk2, tk3, tk4]
      refine take_dst 16 47 undef rfl (by kernel_rfl) (by kernel_rfl) (by kernel_rfl) (fun _ _ _ h => h) (Or.inr ⟨by rfl, rfl⟩) hd4 rfl ?_
      try simp only [tk0, tk1, tk2, tk3, tk4]
      refine take_dst 17 48 undef rfl (by kernel_rfl) (by kernel_rfl) (by kernel_rfl) (fun _ _ _ h => h) (Or.inr ⟨by rfl, rfl⟩) hd4 rfl ?_
      try simp only [tk0, tk1, tk2, tk3, tk4]
      refine take_dst 18 49 undef rfl (by kernel_rfl) (by kernel_rfl) (by kernel_rfl) (fun _ _ _ h => h) (Or.inr ⟨by rfl, rfl⟩) hd4 rfl ?_
      try simp only [tk0, tk1, tk2, tk3, tk4]
      refine take_dst 19 50 undef rfl (by kernel_rfl) (by kernel_rfl) (by kernel_rfl) (fun _ _ _ h => h) (Or.inr ⟨by rfl, rfl⟩) hd4 rfl ?_
      try simp only [tk0, tk1, tk2, tk3, tk4]
      refine take_dst 20 51 undef rfl (by kernel_rfl) (by kernel_rfl) (by kernel_rfl) (fun _ _ _ h => h) (Or.inr ⟨by rfl, rfl⟩) hd4 rfl ?_
      try simp only [tk0, tk1, tk2, tk3, tk4]
      refine take_dst 21 52 undef rfl (by kernel_rfl) (by kernel_rfl) (by kernel_rfl) (fun _ _ _ h => h) (Or.inr ⟨by rfl, rfl⟩) hd4 rfl ?_
      try simp only [tk0, tk1, tk2, tk3, tk4]
      refine take_dst 22 53 (.bool true) rfl (by kernel_rfl) (by kernel_rfl) (by kernel_rfl) (fun _ _ _ h => h) (Or.inl ⟨by rfl, by intro wv hSv; unfold OldS at hSv; go_simp⟩) hd4 rfl ?_
      try simp only [tk0, tk1, tk2, tk3, tk4]
      refine take_dst 23 2 (.bool true) rfl (by kernel_rfl) (by kernel_rfl) (by kernel_rfl) (fun _ _ _ h => h) (Or.inl ⟨by rfl, by intro wv hSv; unfold OldS at hSv; go_simp⟩) hd4 rfl ?_
      try simp only [tk0, tk1, tk2, tk3, tk4]
      clear hH hd4
      refine wpAnyH_done (by kernel_rfl) ?_ _
      go_wp2_with fail
      go_ret
      exact ⟨says_yes (hI.out.2 ⟨hV.out, hr.out.1 (by trivial), .inl m.out⟩), bF.drew.drew⟩
set_option maxHeartbeats 4000000 in
theorem ff_2 (w : World) (pb po B uo : Nat) (pc : Int) (n : Nat) (a b c s : Int) (p : PD) (a3 a4 a5 : Value) (hP : PtrP w pb po p a3 a4 a5) (hU : UsO w B uo) (hB : B < w.heap.size) (hn : n ≤ 33) (hf4 : usC n 4 = .bool true) (hV : Hid (¬ (n = 24 → p.vararg = true))) (hv : p.vararg = false) :
    Calls Tryz.prog 110 #[plN pb po B uo pc n a b c s] w fun e w' => Says e (FieldOk n a b c p.vararg) ∧ Below w.heap.size w w' := by
  have hI : Hid (FieldOk n a b c p.vararg ↔ ((n = 24 → p.vararg = true) ∧ Allow (aU n) a ∧ (sU n ≠ 0 ∨ (Allow (bU n) b ∧ Allow (cU n) c)))) := field_iff n hn a b c p.vararg
  have a6 := aU6 n
  have b6 := bU6 n
  have c6 := cU6 n
  have hU9 := hU n
  have t0 : w.cell? ⟨B, uo + n * 10 + 0, none⟩ = some (.int .i64 (aU n)) := by rw [← us0 n (by omega)]; exact hU n 0 (by omega) (by omega)
  have t1 : w.cell? ⟨B, uo + n * 10 + 1, none⟩ = some (.int .i64 (bU n)) := by rw [← us1 n (by omega)]; exact hU n 1 (by omega) (by omega)
  have t2 : w.cell? ⟨B, uo + n * 10 + 2, none⟩ = some (.int .i64 (cU n)) := by rw [← us2 n (by omega)]; exact hU n 2 (by omega) (by omega)
  have t3 : w.cell? ⟨B, uo + n * 10 + 3, none⟩ = some (.int .i64 (sU n)) := by rw [← us3 n (by omega)]; exact hU n 3 (by omega) (by omega)
  have t4 : w.cell? ⟨B, uo + n * 10 + 4, none⟩ = some (.bool true) := by rw [← hf4]; exact hU n 4 (by omega) (by omega)
  clear hU9
  go_enter Tryz.func110, Tryz.ntmps110
  go_wp2_with fail
  have R0 := RowL.new w [.pointer (some ⟨pb, po, none⟩), .pointer (some ⟨B, uo + n * 10, none⟩), .int .i64 pc, .int .i64 (n : Int), .int .i64 a, .int .i64 b, .int .i64 c, .int .i64 s] 150
  have bw : Below w.heap.size w (w.alloc (.cells #[.pointer (some ⟨pb, po, none⟩), .pointer (some ⟨B, uo + n * 10, none⟩), .int .i64 pc, .int .i64 (n : Int), .int .i64 a, .int .i64 b, .int .i64 c, .int .i64 s] 150)) := (Below.refl _ _).alloc (Nat.le_refl _) _
  generalize w.alloc (.cells #[.pointer (some ⟨pb, po, none⟩), .pointer (some ⟨B, uo + n * 10, none⟩), .int .i64 pc, .int .i64 (n : Int), .int .i64 a, .int .i64 b, .int .i64 c, .int .i64 s] 150) = w0 at R0 bw ⊢
  have r0 := R0.cell 0 rfl
  have r1 := R0.cell 1 rfl
  have r2 := R0.cell 2 rfl
  have r3 := R0.cell 3 rfl
  have r4 := R0.cell 4 rfl
  have r5 := R0.cell 5 rfl
  have r6 := R0.cell 6 rfl
  have r7 := R0.cell 7 rfl
  have hl := R0.lt
  clear R0
  have hP0 := hP.later bw
  have p1 := hP0.c1
  have p2 := hP0.c2
  have p3 := hP0.c3
  have p4 := hP0.c4
  have p5 := hP0.c5
  have p6 := hP0.c6
  have hpb := hP0.lt
  have hB0 : B < w0.heap.size := Nat.lt_of_lt_of_le hB bw.size
  replace t0 := (bw.cell (p := ⟨B, uo + n * 10 + 0, none⟩) hB).trans t0
  replace t1 := (bw.cell (p := ⟨B, uo + n * 10 + 1, none⟩) hB).trans t1
  replace t2 := (bw.cell (p := ⟨B, uo + n * 10 + 2, none⟩) hB).trans t2
  replace t3 := (bw.cell (p := ⟨B, uo + n * 10 + 3, none⟩) hB).trans t3
  replace t4 := (bw.cell (p := ⟨B, uo + n * 10 + 4, none⟩) hB).trans t4
  replace hP0 : Hid _ := hP0
  replace hP : Hid _ := hP
  replace hU : Hid _ := hU
  have hd : OldS w0 w0.drew := OldS.of (Below.refl _ _).drew
  refine wp_region_held_drew (S := OldS w0) (by kernel_rfl) hd (fun hH => ?_)
  refine take_dst 0 5 (.pointer (some ⟨w.heap.size, 1, none⟩)) rfl (by kernel_rfl) (by kernel_rfl) (by kernel_rfl) (fun _ _ _ h => h) (Or.inl ⟨by rfl, by intro wv hSv; unfold OldS at hSv; go_simp⟩) hd rfl ?_
  try simp only [tk0, tk1, tk2, tk3, tk4]
  refine take_dst 1 6 (.pointer (some ⟨B, uo + n * 10, none⟩)) rfl (by kernel_rfl) (by kernel_rfl) (by kernel_rfl) (fun _ _ _ h => h) (Or.inl ⟨by rfl, by intro wv hSv; unfold OldS at hSv; go_simp⟩) hd rfl ?_
  try simp only [tk0, tk1, tk2, tk3, tk4]
  refine take_dst 2 7 (.pointer (some ⟨w.heap.size, 3, none⟩)) rfl (by kernel_rfl) (by kernel_rfl) (by kernel_rfl) (fun _ _ _ h => h) (Or.inl ⟨by rfl, by intro wv hSv; unfold OldS at hSv; go_simp⟩) hd rfl ?_
  try simp only [tk0, tk1, tk2, tk3, tk4]
  refine take_dst 3 8 (.agg #[.int .i64 (n : Int), .int .i64 a, .int .i64 b, .int .i64 c, .int .i64 s]) rfl (by kernel_rfl) (by kernel_rfl) (by kernel_rfl) (fun _ _ _ h => h) (Or.inl ⟨by rfl, by intro wv hSv; unfold OldS at hSv; go_simp⟩) hd rfl ?_
  try simp only [tk0, tk1, tk2, tk3, tk4]
  refine wpAnyH_ready (rs := [4]) (by kernel_rfl) (by simp) ?_
  refine AllReadyH.cons rfl (fun KK hKK => ?_) AllReadyH.nil
  go_simp
  clear hf4
  have Q0 := (RowL.new w0 [.int .i64 0, .int .i64 0, .int .i64 0, .int .i64 0, .int .i64 0] 88).call (Below.refl _ _).drew
  have bA : Below w0.heap.size w0 (w0.alloc (.cells #[.int .i64 0, .int .i64 0, .int .i64 0, .int .i64 0, .int .i64 0] 88)).drew := ((Below.refl _ _).alloc (Nat.le_refl _) _).drew
  generalize (w0.alloc (.cells #[.int .i64 0, .int .i64 0, .int .i64 0, .int .i64 0, .int .i64 0] 88)).drew = v1 at Q0 bA ⊢
  have h1o : OldS w0 v1 := OldS.of bA
  refine hKK.out _ _ h1o (fun _ => ?_)
  clear hKK KK
  try simp only [tk0, tk1, tk2, tk3, tk4]
  refine take_dst 5 3 (.pointer (some ⟨B, uo + n * 10, none⟩)) rfl (by kernel_rfl) (by kernel_rfl) (by kernel_rfl) (fun _ _ _ h => h) (Or.inl ⟨by rfl, by intro wv hSv; unfold OldS at hSv; go_simp⟩) h1o rfl ?_
  try simp only [tk0, tk1, tk2, tk3, tk4]
  have e0 := Q0.cell 0 rfl
  have e1 := Q0.cell 1 rfl
  have e2 := Q0.cell 2 rfl
  have e3 := Q0.cell 3 rfl
  have e4 := Q0.cell 4 rfl
  have ef := Q0.frozen
  have hq := Q0.lt
  refine wpAnyH_ready (rs := [6]) (by kernel_rfl) (by simp) ?_
  refine AllReadyH.cons rfl (fun KK hKK => ?_) AllReadyH.nil
  go_simp
  have Q1 := (((((Q0.set 0 (.int .i64 (n : Int))).set 1 (.int .i64 a)).set 2 (.int .i64 b)).set 3 (.int .i64 c)).set 4 (.int .i64 s))
  have bB : Below w0.heap.size w0 (((((v1.setCell ⟨w0.heap.size, 0, none⟩ (.int .i64 (n : Int))).setCell ⟨w0.heap.size, 1, none⟩ (.int .i64 a)).setCell ⟨w0.heap.size, 2, none⟩ (.int .i64 b)).setCell ⟨w0.heap.size, 3, none⟩ (.int .i64 c)).setCell ⟨w0.heap.size, 4, none⟩ (.int .i64 s)) := (Below.setCell (Below.setCell (Below.setCell (Below.setCell (Below.setCell bA (p := ⟨w0.heap.size, 0, none⟩) (Nat.le_refl _) (.int .i64 (n : Int))) (p := ⟨w0.heap.size, 1, none⟩) (Nat.le_refl _) (.int .i64 a)) (p := ⟨w0.heap.size, 2, none⟩) (Nat.le_refl _) (.int .i64 b)) (p := ⟨w0.heap.size, 3, none⟩) (Nat.le_refl _) (.int .i64 c)) (p := ⟨w0.heap.size, 4, none⟩) (Nat.le_refl _) (.int .i64 s))
  clear e0 e1 e2 e3 e4 ef hq Q0
  generalize (((((v1.setCell ⟨w0.heap.size, 0, none⟩ (.int .i64 (n : Int))).setCell ⟨w0.heap.size, 1, none⟩ (.int .i64 a)).setCell ⟨w0.heap.size, 2, none⟩ (.int .i64 b)).setCell ⟨w0.heap.size, 3, none⟩ (.int .i64 c)).setCell ⟨w0.heap.size, 4, none⟩ (.int .i64 s)) = v2 at Q1 bB ⊢
  have h2o : OldS w0 v2 := OldS.of bB
  refine hKK.out _ _ h2o (fun _ => ?_)
  clear hKK KK
  try simp only [tk0, tk1, tk2, tk3, tk4]
  refine wpAnyH_done (by kernel_rfl) ?_ _
  clear hH hd h1o h2o bA
  replace r0 := (bB.cell (p := ⟨w.heap.size, 0, none⟩) hl).trans r0
  replace r1 := (bB.cell (p := ⟨w.heap.size, 1, none⟩) hl).trans r1
  replace r2 := (bB.cell (p := ⟨w.heap.size, 2, none⟩) hl).trans r2
  replace r3 := (bB.cell (p := ⟨w.heap.size, 3, none⟩) hl).trans r3
  replace r4 := (bB.cell (p := ⟨w.heap.size, 4, none⟩) hl).trans r4
  replace r5 := (bB.cell (p := ⟨w.heap.size, 5, none⟩) hl).trans r5
  replace r6 := (bB.cell (p := ⟨w.heap.size, 6, none⟩) hl).trans r6
  replace r7 := (bB.cell (p := ⟨w.heap.size, 7, none⟩) hl).trans r7
  replace t0 := (bB.cell (p := ⟨B, uo + n * 10 + 0, none⟩) hB0).trans t0
  replace t1 := (bB.cell (p := ⟨B, uo + n * 10 + 1, none⟩) hB0).trans t1
  replace t2 := (bB.cell (p := ⟨B, uo + n * 10 + 2, none⟩) hB0).trans t2
  replace t3 := (bB.cell (p := ⟨B, uo + n * 10 + 3, none⟩) hB0).trans t3
  replace t4 := (bB.cell (p := ⟨B, uo + n * 10 + 4, none⟩) hB0).trans t4
  replace t0 : v2.cell? ⟨B, uo + n * 10, none⟩ = some (.int .i64 (aU n)) := t0
  replace p1 := (bB.cell (p := ⟨pb, po + 1, none⟩) hpb).trans p1
  rw [hv] at p1
  replace hv : Hid _ := hv
  clear p2 p3 p4 p5 p6
  have i0 := Q1.cell 0 rfl
  have i1 := Q1.cell 1 rfl
  have i2 := Q1.cell 2 rfl
  have i3 := Q1.cell 3 rfl
  have i4 := Q1.cell 4 rfl
  have hli := Q1.lt
  have hl2 := Nat.lt_of_lt_of_le hl bB.size
  have hpb2 := Nat.lt_of_lt_of_le hpb bB.size
  have hB2 := Nat.lt_of_lt_of_le hB0 bB.size
  have bF := bw.trans (bB.mono bw.size)
  clear hl hpb hB0 bw bB Q1 hP0 hP hU
  generalize w0.heap.size = BI at i0 i1 i2 i3 i4 hli ⊢
  go_wp2_with fail
  have hd : OldS v2 v2.drew := OldS.of (Below.refl _ _).drew
  refine wp_region_held_drew (S := OldS v2) (by kernel_rfl) hd (fun hH => ?_)
  refine take_dst 0 9 (.pointer (some ⟨B, uo + n * 10, none⟩)) rfl (by kernel_rfl) (by kernel_rfl) (by kernel_rfl) (fun _ _ _ h => h) (Or.inl ⟨by rfl, by intro wv hSv; unfold OldS at hSv; go_simp⟩) hd rfl ?_
  try simp only [tk0, tk1, tk2, tk3, tk4]
  refine take_dst 1 10 (.pointer (some ⟨B, uo + n * 10, none⟩)) rfl (by kernel_rfl) (by kernel_rfl) (by kernel_rfl) (fun _ _ _ h => h) (Or.inl ⟨by rfl, by intro wv hSv; unfold OldS at hSv; go_simp⟩) hd rfl ?_
  try simp only [tk0, tk1, tk2, tk3, tk4]
  refine take_dst 2 11 (.pointer (some ⟨B, uo + n * 10 + 4, none⟩)) rfl (by kernel_rfl) (by kernel_rfl) (by kernel_rfl) (fun _ _ _ h => h) (Or.inl ⟨by rfl, by intro wv hSv; unfold OldS at hSv; go_simp⟩) hd rfl ?_
  try simp only [tk0, tk1, tk2, tk3, tk4]
  refine take_dst 3 12 (.bool true) rfl (by kernel_rfl) (by kernel_rfl) (by kernel_rfl) (fun _ _ _ h => h) (Or.inl ⟨by rfl, by intro wv hSv; unfold OldS at hSv; go_simp⟩) hd rfl ?_
  try simp only [tk0, tk1, tk2, tk3, tk4]
  refine take_dst 4 13 (.bool true) rfl (by kernel_rfl) (by kernel_rfl) (by kernel_rfl) (fun _ _ _ h => h) (Or.inl ⟨by rfl, by intro wv hSv; unfold OldS at hSv; go_simp⟩) hd rfl ?_
  try simp only [tk0, tk1, tk2, tk3, tk4]
  refine take_dst 5 14 (.pointer (some ⟨w.heap.size, 0, none⟩)) rfl (by kernel_rfl) (by kernel_rfl) (by kernel_rfl) (fun _ _ _ h => h) (Or.inl ⟨by rfl, by intro wv hSv; unfold OldS at hSv; go_simp⟩) hd rfl ?_
  try simp only [tk0, tk1, tk2, tk3, tk4]
  refine take_dst 6 15 (.pointer (some ⟨pb, po, none⟩)) rfl (by kernel_rfl) (by kernel_rfl) (by kernel_rfl) (fun _ _ _ h => h) (Or.inl ⟨by rfl, by intro wv hSv; unfold OldS at hSv; go_simp⟩) hd rfl ?_
  try simp only [tk0, tk1, tk2, tk3, tk4]
  refine take_dst 7 16 (.pointer (some ⟨pb, po, none⟩)) rfl (by kernel_rfl) (by kernel_rfl) (by kernel_rfl) (fun _ _ _ h => h) (Or.inl ⟨by rfl, by intro wv hSv; unfold OldS at hSv; go_simp⟩) hd rfl ?_
  try simp only [tk0, tk1, tk2, tk3, tk4]
  refine take_dst 8 17 (.pointer (some ⟨pb, po + 1, none⟩)) rfl (by kernel_rfl) (by kernel_rfl) (by kernel_rfl) (fun _ _ _ h => h) (Or.inl ⟨by rfl, by intro wv hSv; unfold OldS at hSv; go_simp⟩) hd rfl ?_
  try simp only [tk0, tk1, tk2, tk3, tk4]
  refine take_dst 9 18 (.bool false) rfl (by kernel_rfl) (by kernel_rfl) (by kernel_rfl) (fun _ _ _ h => h) (Or.inl ⟨by rfl, by intro wv hSv; unfold OldS at hSv; go_simp⟩) hd rfl ?_
  try simp only [tk0, tk1, tk2, tk3, tk4]
  refine take_dst 10 19 (.bool true) rfl (by kernel_rfl) (by kernel_rfl) (by kernel_rfl) (fun _ _ _ h => h) (Or.inl ⟨by rfl, by intro wv hSv; unfold OldS at hSv; go_simp⟩) hd rfl ?_
  try simp only [tk0, tk1, tk2, tk3, tk4]
  refine take_dst 11 20 (.bool true) rfl (by kernel_rfl) (by kernel_rfl) (by kernel_rfl) (fun _ _ _ h => h) (Or.inl ⟨by rfl, by intro wv hSv; unfold OldS at hSv; go_simp⟩) hd rfl ?_
  try simp only [tk0, tk1, tk2, tk3, tk4]
  refine take_dst 12 21 (.bool true) rfl (by kernel_rfl) (by kernel_rfl) (by kernel_rfl) (fun _ _ _ h => h) (Or.inl ⟨by rfl, by intro wv hSv; unfold OldS at hSv; go_simp⟩) hd rfl ?_
  try simp only [tk0, tk1, tk2, tk3, tk4]
  refine take_dst 13 22 undef rfl (by kernel_rfl) (by kernel_rfl) (by kernel_rfl) (fun _ _ _ h => h) (Or.inr ⟨by rfl, rfl⟩) hd rfl ?_
  try simp only [tk0, tk1, tk2, tk3, tk4]
  refine take_dst 14 23 undef rfl (by kernel_rfl) (by kernel_rfl) (by kernel_rfl) (fun _ _ _ h => h) (Or.inr ⟨by rfl, rfl⟩) hd rfl ?_
  try simp only [tk0, tk1, tk2, tk3, tk4]
  refine take_dst 15 24 undef rfl (by kernel_rfl) (by kernel_rfl) (by kernel_rfl) (fun _ _ _ h => h) (Or.inr ⟨by rfl, rfl⟩) hd rfl ?_
  try simp only [tk0, tk1, tk2, tk3, tk4]
  refine take_dst 16 25 undef rfl (by kernel_rfl) (by kernel_rfl) (by kernel_rfl) (fun _ _ _ h => h) (Or.inr ⟨by rfl, rfl⟩) hd rfl ?_
  try simp only [tk0, tk1, tk2, tk3, tk4]
  refine take_dst 17 26 undef rfl (by kernel_rfl) (by kernel_rfl) (by kernel_rfl) (fun _ _ _ h => h) (Or.inr ⟨by rfl, rfl⟩) hd rfl ?_
  try simp only [tk0, tk1, tk2, tk3, tk4]
  refine take_dst 18 27 undef rfl (by kernel_rfl) (by kernel_rfl) (by kernel_rfl) (fun _ _ _ h => h) (Or.inr ⟨by rfl, rfl⟩) hd rfl ?_
  try simp only [tk0, tk1, tk2, tk3, tk4]
  refine take_dst 19 28 undef rfl (by kernel_rfl) (by kernel_rfl) (by kernel_rfl) (fun _ _ _ h => h) (Or.inr ⟨by rfl, rfl⟩) hd rfl ?_
  try simp only [tk0, tk1, tk2, tk3, tk4]
  refine take_dst 20 29 undef rfl (by kernel_rfl) (by kernel_rfl) (by kernel_rfl) (fun _ _ _ h => h) (Or.inr ⟨by rfl, rfl⟩) hd rfl ?_
  try simp only [tk0, tk1, tk2, tk3, tk4]
  refine take_dst 21 30 (.bool true) rfl (by kernel_rfl) (by kernel_rfl) (by kernel_rfl) (fun _ _ _ h => h) (Or.inl ⟨by rfl, by intro wv hSv; unfold OldS at hSv; go_simp⟩) hd rfl ?_
  try simp only [tk0, tk1, tk2, tk3, tk4]
  clear hH hd
  refine wpAnyH_done (by kernel_rfl) ?_ _
  go_wp2_with fail
  go_ret
  exact ⟨says_no fun h => hV.out (hI.out.1 h).1, bF.drew⟩
theorem fieldsFit_in (w : World) (pb po B uo : Nat) (pc : Int) (n : Nat) (a b c s : Int) (p : PD) (a3 a4 a5 : Value) (hP : PtrP w pb po p a3 a4 a5) (hU : UsO w B uo) (hB : B < w.heap.size) (hn : n ≤ 33) :
    Calls Tryz.prog 110 #[plN pb po B uo pc n a b c s] w fun e w' => Says e (FieldOk n a b c p.vararg) ∧ Below w.heap.size w w' := by
  have h4 := us4 n (by omega)
  by_cases k : n = 24
  · have hf4 : usC n 4 = .bool true := by rw [h4]; simp [k]
    cases hv : p.vararg with
    | true =>
      have h := ff_1 w pb po B uo pc n a b c s p a3 a4 a5 hP hU hB hn hf4 (show Hid _ from fun _ => hv) hv
      rw [hv] at h
      exact h
    | false =>
      have h := ff_2 w pb po B uo pc n a b c s p a3 a4 a5 hP hU hB hn hf4 (show Hid _ from fun h => by have := h k; rw [hv] at this; simp at this) hv
      rw [hv] at h
      exact h
  · exact ff_0 w pb po B uo pc n a b c s p a3 a4 a5 hP hU hB hn (by rw [h4]; simp [k]) (show Hid _ from fun h => absurd h k)
end Go.Proofs.YtckapapejfnojaaGreatDoor

import Derived.Test.YtckapapejfnojaaGreatDoorVmBV
import Derived.Test.YtckapapejfnojaaGreatDoorVfGV
import Derived.Test.YtckapapejfnojaaGreatDoorGAV
namespace Go.Proofs.YtckapapejfnojaaGreatDoor
open Go.RowKit Go.Shelf
set_option linter.unusedVariables false
set_option linter.unusedSimpArgs false
set_option maxRecDepth 100000
set_option maxHeartbeats 2000000
/-- a place's value, by its parts. -/
abbrev plN (pb po B uo : Nat) (pc : Int) (n : Nat) (a b c s : Int) : Value := .agg #[.pointer (some ⟨pb, po, none⟩), .pointer (some ⟨B, uo + n * 10, none⟩), .int .i64 pc, .int .i64 (n : Int), .int .i64 a, .int .i64 b, .int .i64 c, .int .i64 s]
theorem plV_eq {pb po B uo : Nat} {pc z : Int} {n : Nat} {a b c s : Int} (hp : Prt z n a b c s) : plV pb po B uo pc z = plN pb po B uo pc n a b c s := by
  unfold plV plN
  rw [hp.n, hp.a, hp.b, hp.c, hp.s, Int.toNat_natCast]
theorem qn54 (w : World) : (binOp .eql 72 .nilFunc .nilFunc).run Tryz.prog w = .ok (.bool true) w := by kernel_rfl
theorem qf54 (w : World) (k : Nat) : (binOp .eql 72 (.func (.func k) #[] #[]) .nilFunc).run Tryz.prog w = .ok (.bool false) w := by kernel_rfl
theorem qn58 (w : World) : (binOp .eql 76 .nilFunc .nilFunc).run Tryz.prog w = .ok (.bool true) w := by kernel_rfl
theorem qf58 (w : World) (k : Nat) : (binOp .eql 76 (.func (.func k) #[] #[]) .nilFunc).run Tryz.prog w = .ok (.bool false) w := by kernel_rfl
attribute [local go_sem] qn54 qf54 qn58 qf58
theorem sU3 {n : Nat} (h : n ≠ 1) : (sU n != 3) = true := by
  unfold sU
  rw [bne_iff_ne]
  repeat' split
  all_goals omega
theorem sU5 {n : Nat} (h : n ≠ 25) : (sU n != 5) = true := by
  unfold sU
  rw [bne_iff_ne]
  repeat' split
  all_goals omega
theorem sU6 {n : Nat} (h : ¬ (n = 18 ∨ n = 27 ∨ n = 28)) : (sU n != 6) = true := by
  unfold sU
  rw [bne_iff_ne]
  repeat' split
  all_goals omega
theorem bU4 {n : Nat} (h : ¬ (n = 4 ∨ n = 5)) : (bU n != 4) = true := by
  unfold bU
  rw [bne_iff_ne]
  repeat' split
  all_goals omega
theorem known_in (w : World) (pb po B uo : Nat) (pc : Int) (n : Nat) (a b c s : Int) (hn : n ≤ 63) : Calls Tryz.prog 109 #[plN pb po B uo pc n a b c s] w fun e w' => Says e (n ≤ 33) ∧ Below w.heap.size w w' := by
  by_cases h : n ≤ 33
  · have hI : (n : Int) ≤ 33 := by omega
    go_enter Tryz.func109, Tryz.ntmps109
    go_wp2
    go_ret
    exact ⟨⟨_, rfl, by simp <;> omega⟩, by go_grown⟩
  · have hI : ¬ ((n : Int) ≤ 33) := by omega
    go_enter Tryz.func109, Tryz.ntmps109
    go_wp2
    go_ret
    exact ⟨⟨_, rfl, by simp <;> omega⟩, by go_grown⟩
theorem const_n (w : World) (pb po B uo : Nat) (pc : Int) (n : Nat) (a b c s : Int) (p : PD) (a3 a4 a5 : Value) (hP : PtrP w pb po p a3 a4 a5) (hU : UsO w B uo) (hB : B < w.heap.size) (hn : n ≤ 33) (hq : n ≠ 1) :
    Calls Tryz.prog 112 #[plN pb po B uo pc n a b c s] w fun e w' => Says e (True) ∧ Below w.heap.size w w' := by
  have hU9 := hU n
  have t3 : w.cell? ⟨B, uo + n * 10 + 3, none⟩ = some (.int .i64 (sU n)) := by rw [← us3 n (by omega)]; exact hU n 3 (by omega) (by omega)
  clear hU9
  go_enter Tryz.func112, Tryz.ntmps112
  go_wp2_with fail
  have R0 := RowL.new w [.pointer (some ⟨pb, po, none⟩), .pointer (some ⟨B, uo + n * 10, none⟩), .int .i64 pc, .int .i64 (n : Int), .int .i64 a, .int .i64 b, .int .i64 c, .int .i64 s] 150
  have bw : Below w.heap.size w (w.alloc (.cells #[.pointer (some ⟨pb, po, none⟩), .pointer (some ⟨B, uo + n * 10, none⟩), .int .i64 pc, .int .i64 (n : Int), .int .i64 a, .int .i64 b, .int .i64 c, .int .i64 s] 150)) := (Below.refl _ _).alloc (Nat.le_refl _) _
  generalize w.alloc (.cells #[.pointer (some ⟨pb, po, none⟩), .pointer (some ⟨B, uo + n * 10, none⟩), .int .i64 pc, .int .i64 (n : Int), .int .i64 a, .int .i64 b, .int .i64 c, .int .i64 s] 150) = w0 at R0 bw ⊢
  have r0 := R0.cell 0 rfl
  have r1 := R0.cell 1 rfl
  have r2 := R0.cell 2 rfl
  have r3 := R0.cell 3 rfl
  have r4 := R0.cell 4 rfl
  have r5 := R0.cell 5 rfl
  have r6 := R0.cell 6 rfl
  have r7 := R0.cell 7 rfl
  have hl := R0.lt
  clear R0
  have hP0 := hP.later bw
  have p1 := hP0.c1
  have p2 := hP0.c2
  have p3 := hP0.c3
  have p4 := hP0.c4
  have p5 := hP0.c5
  have p6 := hP0.c6
  have hpb := hP0.lt
  have hB0 : B < w0.heap.size := Nat.lt_of_lt_of_le hB bw.size
  replace t3 := (bw.cell (p := ⟨B, uo + n * 10 + 3, none⟩) hB).trans t3
  replace hP0 : Hid _ := hP0
  replace hP : Hid _ := hP
  replace hU : Hid _ := hU
  have nq := sU3 hq
  have hd : OldS w0 w0.drew := OldS.of (Below.refl _ _).drew
  refine wp_region_held_drew (S := OldS w0) (by kernel_rfl) hd (fun hH => ?_)
  refine take_dst 0 3 (.pointer (some ⟨w.heap.size, 1, none⟩)) rfl (by kernel_rfl) (by kernel_rfl) (by kernel_rfl) (fun _ _ _ h => h) (Or.inl ⟨by rfl, by intro wv hSv; unfold OldS at hSv; go_simp⟩) hd rfl ?_
  try simp only [tk0, tk1, tk2, tk3, tk4]
  refine take_dst 1 4 (.pointer (some ⟨B, uo + n * 10, none⟩)) rfl (by kernel_rfl) (by kernel_rfl) (by kernel_rfl) (fun _ _ _ h => h) (Or.inl ⟨by rfl, by intro wv hSv; unfold OldS at hSv; go_simp⟩) hd rfl ?_
  try simp only [tk0, tk1, tk2, tk3, tk4]
  refine take_dst 2 5 (.pointer (some ⟨B, uo + n * 10, none⟩)) rfl (by kernel_rfl) (by kernel_rfl) (by kernel_rfl) (fun _ _ _ h => h) (Or.inl ⟨by rfl, by intro wv hSv; unfold OldS at hSv; go_simp⟩) hd rfl ?_
  try simp only [tk0, tk1, tk2, tk3, tk4]
  refine take_dst 3 6 (.pointer (some ⟨B, uo + n * 10 + 3, none⟩)) rfl (by kernel_rfl) (by kernel_rfl) (by kernel_rfl) (fun _ _ _ h => h) (Or.inl ⟨by rfl, by intro wv hSv; unfold OldS at hSv; go_simp⟩) hd rfl ?_
  try simp only [tk0, tk1, tk2, tk3, tk4]
  refine take_dst 4 7 (.int .i64 (sU n)) rfl (by kernel_rfl) (by kernel_rfl) (by kernel_rfl) (fun _ _ _ h => h) (Or.inl ⟨by rfl, by intro wv hSv; unfold OldS at hSv; go_simp⟩) hd rfl ?_
  try simp only [tk0, tk1, tk2, tk3, tk4]
  refine take_dst 5 8 (.bool true) rfl (by kernel_rfl) (by kernel_rfl) (by kernel_rfl) (fun _ _ _ h => h) (Or.inl ⟨by rfl, by intro wv hSv; unfold OldS at hSv; go_simp⟩) hd rfl ?_
  try simp only [tk0, tk1, tk2, tk3, tk4]
  refine take_dst 6 9 (.bool true) rfl (by kernel_rfl) (by kernel_rfl) (by kernel_rfl) (fun _ _ _ h => h) (Or.inl ⟨by rfl, by intro wv hSv; unfold OldS at hSv; go_simp⟩) hd rfl ?_
  try simp only [tk0, tk1, tk2, tk3, tk4]
  refine take_dst 7 10 undef rfl (by kernel_rfl) (by kernel_rfl) (by kernel_rfl) (fun _ _ _ h => h) (Or.inr ⟨by rfl, rfl⟩) hd rfl ?_
  try simp only [tk0, tk1, tk2, tk3, tk4]
  refine take_dst 8 11 undef rfl (by kernel_rfl) (by kernel_rfl) (by kernel_rfl) (fun _ _ _ h => h) (Or.inr ⟨by rfl, rfl⟩) hd rfl ?_
  try simp only [tk0, tk1, tk2, tk3, tk4]
  refine take_dst 9 12 undef rfl (by kernel_rfl) (by kernel_rfl) (by kernel_rfl) (fun _ _ _ h => h) (Or.inr ⟨by rfl, rfl⟩) hd rfl ?_
  try simp only [tk0, tk1, tk2, tk3, tk4]
  refine take_dst 10 13 undef rfl (by kernel_rfl) (by kernel_rfl) (by kernel_rfl) (fun _ _ _ h => h) (Or.inr ⟨by rfl, rfl⟩) hd rfl ?_
  try simp only [tk0, tk1, tk2, tk3, tk4]
  refine take_dst 11 14 undef rfl (by kernel_rfl) (by kernel_rfl) (by kernel_rfl) (fun _ _ _ h => h) (Or.inr ⟨by rfl, rfl⟩) hd rfl ?_
  try simp only [tk0, tk1, tk2, tk3, tk4]
  refine take_dst 12 15 undef rfl (by kernel_rfl) (by kernel_rfl) (by kernel_rfl) (fun _ _ _ h => h) (Or.inr ⟨by rfl, rfl⟩) hd rfl ?_
  try simp only [tk0, tk1, tk2, tk3, tk4]
  refine take_dst 13 16 undef rfl (by kernel_rfl) (by kernel_rfl) (by kernel_rfl) (fun _ _ _ h => h) (Or.inr ⟨by rfl, rfl⟩) hd rfl ?_
  try simp only [tk0, tk1, tk2, tk3, tk4]
  refine take_dst 14 17 undef rfl (by kernel_rfl) (by kernel_rfl) (by kernel_rfl) (fun _ _ _ h => h) (Or.inr ⟨by rfl, rfl⟩) hd rfl ?_
  try simp only [tk0, tk1, tk2, tk3, tk4]
  refine take_dst 15 18 undef rfl (by kernel_rfl) (by kernel_rfl) (by kernel_rfl) (fun _ _ _ h => h) (Or.inr ⟨by rfl, rfl⟩) hd rfl ?_
  try simp only [tk0, tk1, tk2, tk3, tk4]
  refine take_dst 16 19 undef rfl (by kernel_rfl) (by kernel_rfl) (by kernel_rfl) (fun _ _ _ h => h) (Or.inr ⟨by rfl, rfl⟩) hd rfl ?_
  try simp only [tk0, tk1, tk2, tk3, tk4]
  refine take_dst 17 20 undef rfl (by kernel_rfl) (by kernel_rfl) (by kernel_rfl) (fun _ _ _ h => h) (Or.inr ⟨by rfl, rfl⟩) hd rfl ?_
  try simp only [tk0, tk1, tk2, tk3, tk4]
  refine take_dst 18 21 (.bool true) rfl (by kernel_rfl) (by kernel_rfl) (by kernel_rfl) (fun _ _ _ h => h) (Or.inl ⟨by rfl, by intro wv hSv; unfold OldS at hSv; go_simp⟩) hd rfl ?_
  try simp only [tk0, tk1, tk2, tk3, tk4]
  refine take_dst 19 2 (.bool true) rfl (by kernel_rfl) (by kernel_rfl) (by kernel_rfl) (fun _ _ _ h => h) (Or.inl ⟨by rfl, by intro wv hSv; unfold OldS at hSv; go_simp⟩) hd rfl ?_
  try simp only [tk0, tk1, tk2, tk3, tk4]
  refine wpAnyH_done (by kernel_rfl) ?_ _
  clear hH hd r0 r1 r2 r3 r4 r5 r6 r7 p1 p2 p3 p4 p5 p6
  go_wp2_with fail
  go_ret
  exact ⟨says_yes trivial, bw.drew⟩
theorem const_y (w : World) (pb po B uo : Nat) (pc : Int) (n : Nat) (a b c s : Int) (p : PD) (a3 a4 a5 : Value) (hP : PtrP w pb po p a3 a4 a5) (hU : UsO w B uo) (hB : B < w.heap.size) (hn : n ≤ 33) (hq : n = 1) (hco : p.consts.n ≤ 1048576) :
    Calls Tryz.prog 112 #[plN pb po B uo pc n a b c s] w fun e w' => Says e (0 ≤ s ∧ s < (p.consts.n : Int)) ∧ Below w.heap.size w w' := by
  have hb3 : usC n 3 = .int .i64 3 := by subst hq; rfl
  replace hq : Hid _ := hq
  obtain ⟨ok, ck, rfl⟩ := hP.consts
  have hU9 := hU n
  have t3 : w.cell? ⟨B, uo + n * 10 + 3, none⟩ = some (.int .i64 3) := by rw [← hb3]; exact hU n 3 (by omega) (by omega)
  clear hU9
  go_enter Tryz.func112, Tryz.ntmps112
  go_wp2_with fail
  have R0 := RowL.new w [.pointer (some ⟨pb, po, none⟩), .pointer (some ⟨B, uo + n * 10, none⟩), .int .i64 pc, .int .i64 (n : Int), .int .i64 a, .int .i64 b, .int .i64 c, .int .i64 s] 150
  have bw : Below w.heap.size w (w.alloc (.cells #[.pointer (some ⟨pb, po, none⟩), .pointer (some ⟨B, uo + n * 10, none⟩), .int .i64 pc, .int .i64 (n : Int), .int .i64 a, .int .i64 b, .int .i64 c, .int .i64 s] 150)) := (Below.refl _ _).alloc (Nat.le_refl _) _
  generalize w.alloc (.cells #[.pointer (some ⟨pb, po, none⟩), .pointer (some ⟨B, uo + n * 10, none⟩), .int .i64 pc, .int .i64 (n : Int), .int .i64 a, .int .i64 b, .int .i64 c, .int .i64 s] 150) = w0 at R0 bw ⊢
  have r0 := R0.cell 0 rfl
  have r1 := R0.cell 1 rfl
  have r2 := R0.cell 2 rfl
  have r3 := R0.cell 3 rfl
  have r4 := R0.cell 4 rfl
  have r5 := R0.cell 5 rfl
  have r6 := R0.cell 6 rfl
  have r7 := R0.cell 7 rfl
  have hl := R0.lt
  clear R0
  have hP0 := hP.later bw
  have p1 := hP0.c1
  have p2 := hP0.c2
  have p3 := hP0.c3
  have p4 := hP0.c4
  have p5 := hP0.c5
  have p6 := hP0.c6
  have hpb := hP0.lt
  have hB0 : B < w0.heap.size := Nat.lt_of_lt_of_le hB bw.size
  replace t3 := (bw.cell (p := ⟨B, uo + n * 10 + 3, none⟩) hB).trans t3
  replace hP0 : Hid _ := hP0
  replace hP : Hid _ := hP
  replace hU : Hid _ := hU
  clear hb3
  have hd : OldS w0 w0.drew := OldS.of (Below.refl _ _).drew
  refine wp_region_held_drew (S := OldS w0) (by kernel_rfl) hd (fun hH => ?_)
  refine take_dst 0 3 (.pointer (some ⟨w.heap.size, 1, none⟩)) rfl (by kernel_rfl) (by kernel_rfl) (by kernel_rfl) (fun _ _ _ h => h) (Or.inl ⟨by rfl, by intro wv hSv; unfold OldS at hSv; go_simp⟩) hd rfl ?_
  try simp only [tk0, tk1, tk2, tk3, tk4]
  refine take_dst 1 4 (.pointer (some ⟨B, uo + n * 10, none⟩)) rfl (by kernel_rfl) (by kernel_rfl) (by kernel_rfl) (fun _ _ _ h => h) (Or.inl ⟨by rfl, by intro wv hSv; unfold OldS at hSv; go_simp⟩) hd rfl ?_
  try simp only [tk0, tk1, tk2, tk3, tk4]
  refine take_dst 2 5 (.pointer (some ⟨B, uo + n * 10, none⟩)) rfl (by kernel_rfl) (by kernel_rfl) (by kernel_rfl) (fun _ _ _ h => h) (Or.inl ⟨by rfl, by intro wv hSv; unfold OldS at hSv; go_simp⟩) hd rfl ?_
  try simp only [tk0, tk1, tk2, tk3, tk4]
  refine take_dst 3 6 (.pointer (some ⟨B, uo + n * 10 + 3, none⟩)) rfl (by kernel_rfl) (by kernel_rfl) (by kernel_rfl) (fun _ _ _ h => h) (Or.inl ⟨by rfl, by intro wv hSv; unfold OldS at hSv; go_simp⟩) hd rfl ?_
  try simp only [tk0, tk1, tk2, tk3, tk4]
  refine take_dst 4 7 (.int .i64 3) rfl (by kernel_rfl) (by kernel_rfl) (by kernel_rfl) (fun _ _ _ h => h) (Or.inl ⟨by rfl, by intro wv hSv; unfold OldS at hSv; go_simp⟩) hd rfl ?_
  try simp only [tk0, tk1, tk2, tk3, tk4]
  refine take_dst 5 8 (.bool false) rfl (by kernel_rfl) (by kernel_rfl) (by kernel_rfl) (fun _ _ _ h => h) (Or.inl ⟨by rfl, by intro wv hSv; unfold OldS at hSv; go_simp⟩) hd rfl ?_
  try simp only [tk0, tk1, tk2, tk3, tk4]
  refine take_dst 6 9 (.bool false) rfl (by kernel_rfl) (by kernel_rfl) (by kernel_rfl) (fun _ _ _ h => h) (Or.inl ⟨by rfl, by intro wv hSv; unfold OldS at hSv; go_simp⟩) hd rfl ?_
  try simp only [tk0, tk1, tk2, tk3, tk4]
  refine take_dst 7 10 (.pointer (some ⟨w.heap.size, 3, none⟩)) rfl (by kernel_rfl) (by kernel_rfl) (by kernel_rfl) (fun _ _ _ h => h) (Or.inl ⟨by rfl, by intro wv hSv; unfold OldS at hSv; go_simp⟩) hd rfl ?_
  try simp only [tk0, tk1, tk2, tk3, tk4]
  refine take_dst 8 11 (.pointer (some ⟨w.heap.size, 7, none⟩)) rfl (by kernel_rfl) (by kernel_rfl) (by kernel_rfl) (fun _ _ _ h => h) (Or.inl ⟨by rfl, by intro wv hSv; unfold OldS at hSv; go_simp⟩) hd rfl ?_
  try simp only [tk0, tk1, tk2, tk3, tk4]
  refine take_dst 9 12 (.int .i64 s) rfl (by kernel_rfl) (by kernel_rfl) (by kernel_rfl) (fun _ _ _ h => h) (Or.inl ⟨by rfl, by intro wv hSv; unfold OldS at hSv; go_simp⟩) hd rfl ?_
  try simp only [tk0, tk1, tk2, tk3, tk4]
  refine take_dst 10 13 (.pointer (some ⟨w.heap.size, 0, none⟩)) rfl (by kernel_rfl) (by kernel_rfl) (by kernel_rfl) (fun _ _ _ h => h) (Or.inl ⟨by rfl, by intro wv hSv; unfold OldS at hSv; go_simp⟩) hd rfl ?_
  try simp only [tk0, tk1, tk2, tk3, tk4]
  refine take_dst 11 14 (.pointer (some ⟨pb, po, none⟩)) rfl (by kernel_rfl) (by kernel_rfl) (by kernel_rfl) (fun _ _ _ h => h) (Or.inl ⟨by rfl, by intro wv hSv; unfold OldS at hSv; go_simp⟩) hd rfl ?_
  try simp only [tk0, tk1, tk2, tk3, tk4]
  refine take_dst 12 15 (.pointer (some ⟨pb, po, none⟩)) rfl (by kernel_rfl) (by kernel_rfl) (by kernel_rfl) (fun _ _ _ h => h) (Or.inl ⟨by rfl, by intro wv hSv; unfold OldS at hSv; go_simp⟩) hd rfl ?_
  try simp only [tk0, tk1, tk2, tk3, tk4]
  refine take_dst 13 16 (.pointer (some ⟨pb, po + 4, none⟩)) rfl (by kernel_rfl) (by kernel_rfl) (by kernel_rfl) (fun _ _ _ h => h) (Or.inl ⟨by rfl, by intro wv hSv; unfold OldS at hSv; go_simp⟩) hd rfl ?_
  try simp only [tk0, tk1, tk2, tk3, tk4]
  refine take_dst 14 17 (.slice ok p.consts.n ck) rfl (by kernel_rfl) (by kernel_rfl) (by kernel_rfl) (fun _ _ _ h => h) (Or.inl ⟨by rfl, by intro wv hSv; unfold OldS at hSv; go_simp⟩) hd rfl ?_
  try simp only [tk0, tk1, tk2, tk3, tk4]
  refine take_dst 15 18 (.int .i64 (p.consts.n : Int)) rfl (by kernel_rfl) (by kernel_rfl) (by kernel_rfl) (fun _ _ _ h => h) (Or.inl ⟨by rfl, by intro wv hSv; unfold OldS at hSv; go_simp⟩) hd rfl ?_
  try simp only [tk0, tk1, tk2, tk3, tk4]
  have hwx : IntKind.i64.wrap ((p.consts.n : Int) - 1) = (p.consts.n : Int) - 1 := by simp [IntKind.wrap, IntKind.bits, IntKind.signed]; omega
  refine take_dst 16 19 (.int .i64 ((p.consts.n : Int) - 1)) rfl (by kernel_rfl) (by kernel_rfl) (by kernel_rfl) (fun _ _ _ h => h) (Or.inl ⟨by rfl, by intro wv hSv; unfold OldS at hSv; go_simp⟩) hd rfl ?_
  try simp only [tk0, tk1, tk2, tk3, tk4]
  refine wpAnyH_ready (rs := [17]) (by kernel_rfl) (by simp) ?_
  refine AllReadyH.cons rfl (fun KK hKK => ?_) AllReadyH.nil
  go_simp
  refine (within_in s 0 ((p.consts.n : Int) - 1) _).mono ?_
  rintro e y2 ⟨⟨r, rfl, hr⟩, rfl⟩
  go_wp2_with fail
  refine hKK.out _ _ hd (fun _ => ?_)
  clear hKK KK
  try simp only [tk0, tk1, tk2, tk3, tk4]
  refine take_dst 18 21 (.bool r) rfl (by kernel_rfl) (by kernel_rfl) (by kernel_rfl) (fun _ _ _ h => h) (Or.inl ⟨by rfl, by intro wv hSv; unfold OldS at hSv; go_simp⟩) hd rfl ?_
  try simp only [tk0, tk1, tk2, tk3, tk4]
  refine take_dst 19 2 (.bool r) rfl (by kernel_rfl) (by kernel_rfl) (by kernel_rfl) (fun _ _ _ h => h) (Or.inl ⟨by rfl, by intro wv hSv; unfold OldS at hSv; go_simp⟩) hd rfl ?_
  try simp only [tk0, tk1, tk2, tk3, tk4]
  refine wpAnyH_done (by kernel_rfl) ?_ _
  clear hH hd r0 r1 r2 r3 r4 r5 r6 r7 p1 p2 p3 p4 p5 p6
  go_wp2_with fail
  go_ret
  exact ⟨⟨_, rfl, hr.trans ⟨fun h => ⟨h.1, by omega⟩, fun h => ⟨h.1, by omega⟩⟩⟩, bw.drew⟩
theorem up_n (w : World) (pb po B uo : Nat) (pc : Int) (n : Nat) (a b c s : Int) (p : PD) (a3 a4 a5 : Value) (hP : PtrP w pb po p a3 a4 a5) (hU : UsO w B uo) (hB : B < w.heap.size) (hn : n ≤ 33) (hq : ¬ (n = 4 ∨ n = 5)) :
    Calls Tryz.prog 113 #[plN pb po B uo pc n a b c s] w fun e w' => Says e (True) ∧ Below w.heap.size w w' := by
  have hU9 := hU n
  have t1 : w.cell? ⟨B, uo + n * 10 + 1, none⟩ = some (.int .i64 (bU n)) := by rw [← us1 n (by omega)]; exact hU n 1 (by omega) (by omega)
  clear hU9
  go_enter Tryz.func113, Tryz.ntmps113
  go_wp2_with fail
  have R0 := RowL.new w [.pointer (some ⟨pb, po, none⟩), .pointer (some ⟨B, uo + n * 10, none⟩), .int .i64 pc, .int .i64 (n : Int), .int .i64 a, .int .i64 b, .int .i64 c, .int .i64 s] 150
  have bw : Below w.heap.size w (w.alloc (.cells #[.pointer (some ⟨pb, po, none⟩), .pointer (some ⟨B, uo + n * 10, none⟩), .int .i64 pc, .int .i64 (n : Int), .int .i64 a, .int .i64 b, .int .i64 c, .int .i64 s] 150)) := (Below.refl _ _).alloc (Nat.le_refl _) _
  generalize w.alloc (.cells #[.pointer (some ⟨pb, po, none⟩), .pointer (some ⟨B, uo + n * 10, none⟩), .int .i64 pc, .int .i64 (n : Int), .int .i64 a, .int .i64 b, .int .i64 c, .int .i64 s] 150) = w0 at R0 bw ⊢
  have r0 := R0.cell 0 rfl
  have r1 := R0.cell 1 rfl
  have r2 := R0.cell 2 rfl
  have r3 := R0.cell 3 rfl
  have r4 := R0.cell 4 rfl
  have r5 := R0.cell 5 rfl
  have r6 := R0.cell 6 rfl
  have r7 := R0.cell 7 rfl
  have hl := R0.lt
  clear R0
  have hP0 := hP.later bw
  have p1 := hP0.c1
  have p2 := hP0.c2
  have p3 := hP0.c3
  have p4 := hP0.c4
  have p5 := hP0.c5
  have p6 := hP0.c6
  have hpb := hP0.lt
  have hB0 : B < w0.heap.size := Nat.lt_of_lt_of_le hB bw.size
  replace t1 := (bw.cell (p := ⟨B, uo + n * 10 + 1, none⟩) hB).trans t1
  replace hP0 : Hid _ := hP0
  replace hP : Hid _ := hP
  replace hU : Hid _ := hU
  have nq := bU4 hq
  have hd : OldS w0 w0.drew := OldS.of (Below.refl _ _).drew
  refine wp_region_held_drew (S := OldS w0) (by kernel_rfl) hd (fun hH => ?_)
  refine take_dst 0 3 (.pointer (some ⟨w.heap.size, 1, none⟩)) rfl (by kernel_rfl) (by kernel_rfl) (by kernel_rfl) (fun _ _ _ h => h) (Or.inl ⟨by rfl, by intro wv hSv; unfold OldS at hSv; go_simp⟩) hd rfl ?_
  try simp only [tk0, tk1, tk2, tk3, tk4]
  refine take_dst 1 4 (.pointer (some ⟨B, uo + n * 10, none⟩)) rfl (by kernel_rfl) (by kernel_rfl) (by kernel_rfl) (fun _ _ _ h => h) (Or.inl ⟨by rfl, by intro wv hSv; unfold OldS at hSv; go_simp⟩) hd rfl ?_
  try simp only [tk0, tk1, tk2, tk3, tk4]
  refine take_dst 2 5 (.pointer (some ⟨B, uo + n * 10, none⟩)) rfl (by kernel_rfl) (by kernel_rfl) (by kernel_rfl) (fun _ _ _ h => h) (Or.inl ⟨by rfl, by intro wv hSv; unfold OldS at hSv; go_simp⟩) hd rfl ?_
  try simp only [tk0, tk1, tk2, tk3, tk4]
  refine take_dst 3 6 (.pointer (some ⟨B, uo + n * 10 + 1, none⟩)) rfl (by kernel_rfl) (by kernel_rfl) (by kernel_rfl) (fun _ _ _ h => h) (Or.inl ⟨by rfl, by intro wv hSv; unfold OldS at hSv; go_simp⟩) hd rfl ?_
  try simp only [tk0, tk1, tk2, tk3, tk4]
  refine take_dst 4 7 (.int .i64 (bU n)) rfl (by kernel_rfl) (by kernel_rfl) (by kernel_rfl) (fun _ _ _ h => h) (Or.inl ⟨by rfl, by intro wv hSv; unfold OldS at hSv; go_simp⟩) hd rfl ?_
  try simp only [tk0, tk1, tk2, tk3, tk4]
  refine take_dst 5 8 (.bool true) rfl (by kernel_rfl) (by kernel_rfl) (by kernel_rfl) (fun _ _ _ h => h) (Or.inl ⟨by rfl, by intro wv hSv; unfold OldS at hSv; go_simp⟩) hd rfl ?_
  try simp only [tk0, tk1, tk2, tk3, tk4]
  refine take_dst 6 9 (.bool true) rfl (by kernel_rfl) (by kernel_rfl) (by kernel_rfl) (fun _ _ _ h => h) (Or.inl ⟨by rfl, by intro wv hSv; unfold OldS at hSv; go_simp⟩) hd rfl ?_
  try simp only [tk0, tk1, tk2, tk3, tk4]
  refine take_dst 7 10 undef rfl (by kernel_rfl) (by kernel_rfl) (by kernel_rfl) (fun _ _ _ h => h) (Or.inr ⟨by rfl, rfl⟩) hd rfl ?_
  try simp only [tk0, tk1, tk2, tk3, tk4]
  refine take_dst 8 11 undef rfl (by kernel_rfl) (by kernel_rfl) (by kernel_rfl) (fun _ _ _ h => h) (Or.inr ⟨by rfl, rfl⟩) hd rfl ?_
  try simp only [tk0, tk1, tk2, tk3, tk4]
  refine take_dst 9 12 undef rfl (by kernel_rfl) (by kernel_rfl) (by kernel_rfl) (fun _ _ _ h => h) (Or.inr ⟨by rfl, rfl⟩) hd rfl ?_
  try simp only [tk0, tk1, tk2, tk3, tk4]
  refine take_dst 10 13 undef rfl (by kernel_rfl) (by kernel_rfl) (by kernel_rfl) (fun _ _ _ h => h) (Or.inr ⟨by rfl, rfl⟩) hd rfl ?_
  try simp only [tk0, tk1, tk2, tk3, tk4]
  refine take_dst 11 14 undef rfl (by kernel_rfl) (by kernel_rfl) (by kernel_rfl) (fun _ _ _ h => h) (Or.inr ⟨by rfl, rfl⟩) hd rfl ?_
  try simp only [tk0, tk1, tk2, tk3, tk4]
  refine take_dst 12 15 undef rfl (by kernel_rfl) (by kernel_rfl) (by kernel_rfl) (fun _ _ _ h => h) (Or.inr ⟨by rfl, rfl⟩) hd rfl ?_
  try simp only [tk0, tk1, tk2, tk3, tk4]
  refine take_dst 13 16 undef rfl (by kernel_rfl) (by kernel_rfl) (by kernel_rfl) (fun _ _ _ h => h) (Or.inr ⟨by rfl, rfl⟩) hd rfl ?_
  try simp only [tk0, tk1, tk2, tk3, tk4]
  refine take_dst 14 17 undef rfl (by kernel_rfl) (by kernel_rfl) (by kernel_rfl) (fun _ _ _ h => h) (Or.inr ⟨by rfl, rfl⟩) hd rfl ?_
  try simp only [tk0, tk1, tk2, tk3, tk4]
  refine take_dst 15 18 undef rfl (by kernel_rfl) (by kernel_rfl) (by kernel_rfl) (fun _ _ _ h => h) (Or.inr ⟨by rfl, rfl⟩) hd rfl ?_
  try simp only [tk0, tk1, tk2, tk3, tk4]
  refine take_dst 16 19 undef rfl (by kernel_rfl) (by kernel_rfl) (by kernel_rfl) (fun _ _ _ h => h) (Or.inr ⟨by rfl, rfl⟩) hd rfl ?_
  try simp only [tk0, tk1, tk2, tk3, tk4]
  refine take_dst 17 20 (.bool true) rfl (by kernel_rfl) (by kernel_rfl) (by kernel_rfl) (fun _ _ _ h => h) (Or.inl ⟨by rfl, by intro wv hSv; unfold OldS at hSv; go_simp⟩) hd rfl ?_
  try simp only [tk0, tk1, tk2, tk3, tk4]
  refine take_dst 18 2 (.bool true) rfl (by kernel_rfl) (by kernel_rfl) (by kernel_rfl) (fun _ _ _ h => h) (Or.inl ⟨by rfl, by intro wv hSv; unfold OldS at hSv; go_simp⟩) hd rfl ?_
  try simp only [tk0, tk1, tk2, tk3, tk4]
  refine wpAnyH_done (by kernel_rfl) ?_ _
  clear hH hd r0 r1 r2 r3 r4 r5 r6 r7 p1 p2 p3 p4 p5 p6
  go_wp2_with fail
  go_ret
  exact ⟨says_yes trivial, bw.drew⟩
theorem up_y (w : World) (pb po B uo : Nat) (pc : Int) (n : Nat) (a b c s : Int) (p : PD) (a3 a4 a5 : Value) (hP : PtrP w pb po p a3 a4 a5) (hU : UsO w B uo) (hB : B < w.heap.size) (hn : n ≤ 33) (hq : n = 4 ∨ n = 5) :
    Calls Tryz.prog 113 #[plN pb po B uo pc n a b c s] w fun e w' => Says e (b < (p.ups.n : Int)) ∧ Below w.heap.size w w' := by
  obtain ⟨ou, cu, rfl, -⟩ := id hP.ups
  have hb4 : usC n 1 = .int .i64 4 := by rcases hq with rfl | rfl <;> rfl
  have hU9 := hU n
  have t1 : w.cell? ⟨B, uo + n * 10 + 1, none⟩ = some (.int .i64 4) := by rw [← hb4]; exact hU n 1 (by omega) (by omega)
  clear hU9
  go_enter Tryz.func113, Tryz.ntmps113
  go_wp2_with fail
  have R0 := RowL.new w [.pointer (some ⟨pb, po, none⟩), .pointer (some ⟨B, uo + n * 10, none⟩), .int .i64 pc, .int .i64 (n : Int), .int .i64 a, .int .i64 b, .int .i64 c, .int .i64 s] 150
  have bw : Below w.heap.size w (w.alloc (.cells #[.pointer (some ⟨pb, po, none⟩), .pointer (some ⟨B, uo + n * 10, none⟩), .int .i64 pc, .int .i64 (n : Int), .int .i64 a, .int .i64 b, .int .i64 c, .int .i64 s] 150)) := (Below.refl _ _).alloc (Nat.le_refl _) _
  generalize w.alloc (.cells #[.pointer (some ⟨pb, po, none⟩), .pointer (some ⟨B, uo + n * 10, none⟩), .int .i64 pc, .int .i64 (n : Int), .int .i64 a, .int .i64 b, .int .i64 c, .int .i64 s] 150) = w0 at R0 bw ⊢
  have r0 := R0.cell 0 rfl
  have r1 := R0.cell 1 rfl
  have r2 := R0.cell 2 rfl
  have r3 := R0.cell 3 rfl
  have r4 := R0.cell 4 rfl
  have r5 := R0.cell 5 rfl
  have r6 := R0.cell 6 rfl
  have r7 := R0.cell 7 rfl
  have hl := R0.lt
  clear R0
  have hP0 := hP.later bw
  have p1 := hP0.c1
  have p2 := hP0.c2
  have p3 := hP0.c3
  have p4 := hP0.c4
  have p5 := hP0.c5
  have p6 := hP0.c6
  have hpb := hP0.lt
  have hB0 : B < w0.heap.size := Nat.lt_of_lt_of_le hB bw.size
  replace t1 := (bw.cell (p := ⟨B, uo + n * 10 + 1, none⟩) hB).trans t1
  replace hP0 : Hid _ := hP0
  replace hP : Hid _ := hP
  replace hU : Hid _ := hU
  clear hb4
  have hd : OldS w0 w0.drew := OldS.of (Below.refl _ _).drew
  refine wp_region_held_drew (S := OldS w0) (by kernel_rfl) hd (fun hH => ?_)
  refine take_dst 0 3 (.pointer (some ⟨w.heap.size, 1, none⟩)) rfl (by kernel_rfl) (by kernel_rfl) (by kernel_rfl) (fun _ _ _ h => h) (Or.inl ⟨by rfl, by intro wv hSv; unfold OldS at hSv; go_simp⟩) hd rfl ?_
  try simp only [tk0, tk1, tk2, tk3, tk4]
  refine take_dst 1 4 (.pointer (some ⟨B, uo + n * 10, none⟩)) rfl (by kernel_rfl) (by kernel_rfl) (by kernel_rfl) (fun _ _ _ h => h) (Or.inl ⟨by rfl, by intro wv hSv; unfold OldS at hSv; go_simp⟩) hd rfl ?_
  try simp only [tk0, tk1, tk2, tk3, tk4]
  refine take_dst 2 5 (.pointer (some ⟨B, uo + n * 10, none⟩)) rfl (by kernel_rfl) (by kernel_rfl) (by kernel_rfl) (fun _ _ _ h => h) (Or.inl ⟨by rfl, by intro wv hSv; unfold OldS at hSv; go_simp⟩) hd rfl ?_
  try simp only [tk0, tk1, tk2, tk3, tk4]
  refine take_dst 3 6 (.pointer (some ⟨B, uo + n * 10 + 1, none⟩)) rfl (by kernel_rfl) (by kernel_rfl) (by kernel_rfl) (fun _ _ _ h => h) (Or.inl ⟨by rfl, by intro wv hSv; unfold OldS at hSv; go_simp⟩) hd rfl ?_
  try simp only [tk0, tk1, tk2, tk3, tk4]
  refine take_dst 4 7 (.int .i64 4) rfl (by kernel_rfl) (by kernel_rfl) (by kernel_rfl) (fun _ _ _ h => h) (Or.inl ⟨by rfl, by intro wv hSv; unfold OldS at hSv; go_simp⟩) hd rfl ?_
  try simp only [tk0, tk1, tk2, tk3, tk4]
  refine take_dst 5 8 (.bool false) rfl (by kernel_rfl) (by kernel_rfl) (by kernel_rfl) (fun _ _ _ h => h) (Or.inl ⟨by rfl, by intro wv hSv; unfold OldS at hSv; go_simp⟩) hd rfl ?_
  try simp only [tk0, tk1, tk2, tk3, tk4]
  refine take_dst 6 9 (.bool false) rfl (by kernel_rfl) (by kernel_rfl) (by kernel_rfl) (fun _ _ _ h => h) (Or.inl ⟨by rfl, by intro wv hSv; unfold OldS at hSv; go_simp⟩) hd rfl ?_
  try simp only [tk0, tk1, tk2, tk3, tk4]
  refine take_dst 7 10 (.pointer (some ⟨w.heap.size, 3, none⟩)) rfl (by kernel_rfl) (by kernel_rfl) (by kernel_rfl) (fun _ _ _ h => h) (Or.inl ⟨by rfl, by intro wv hSv; unfold OldS at hSv; go_simp⟩) hd rfl ?_
  try simp only [tk0, tk1, tk2, tk3, tk4]
  refine take_dst 8 11 (.pointer (some ⟨w.heap.size, 5, none⟩)) rfl (by kernel_rfl) (by kernel_rfl) (by kernel_rfl) (fun _ _ _ h => h) (Or.inl ⟨by rfl, by intro wv hSv; unfold OldS at hSv; go_simp⟩) hd rfl ?_
  try simp only [tk0, tk1, tk2, tk3, tk4]
  refine take_dst 9 12 (.int .i64 b) rfl (by kernel_rfl) (by kernel_rfl) (by kernel_rfl) (fun _ _ _ h => h) (Or.inl ⟨by rfl, by intro wv hSv; unfold OldS at hSv; go_simp⟩) hd rfl ?_
  try simp only [tk0, tk1, tk2, tk3, tk4]
  refine take_dst 10 13 (.pointer (some ⟨w.heap.size, 0, none⟩)) rfl (by kernel_rfl) (by kernel_rfl) (by kernel_rfl) (fun _ _ _ h => h) (Or.inl ⟨by rfl, by intro wv hSv; unfold OldS at hSv; go_simp⟩) hd rfl ?_
  try simp only [tk0, tk1, tk2, tk3, tk4]
  refine take_dst 11 14 (.pointer (some ⟨pb, po, none⟩)) rfl (by kernel_rfl) (by kernel_rfl) (by kernel_rfl) (fun _ _ _ h => h) (Or.inl ⟨by rfl, by intro wv hSv; unfold OldS at hSv; go_simp⟩) hd rfl ?_
  try simp only [tk0, tk1, tk2, tk3, tk4]
  refine take_dst 12 15 (.pointer (some ⟨pb, po, none⟩)) rfl (by kernel_rfl) (by kernel_rfl) (by kernel_rfl) (fun _ _ _ h => h) (Or.inl ⟨by rfl, by intro wv hSv; unfold OldS at hSv; go_simp⟩) hd rfl ?_
  try simp only [tk0, tk1, tk2, tk3, tk4]
  refine take_dst 13 16 (.pointer (some ⟨pb, po + 5, none⟩)) rfl (by kernel_rfl) (by kernel_rfl) (by kernel_rfl) (fun _ _ _ h => h) (Or.inl ⟨by rfl, by intro wv hSv; unfold OldS at hSv; go_simp⟩) hd rfl ?_
  try simp only [tk0, tk1, tk2, tk3, tk4]
  refine take_dst 14 17 (.slice ou p.ups.n cu) rfl (by kernel_rfl) (by kernel_rfl) (by kernel_rfl) (fun _ _ _ h => h) (Or.inl ⟨by rfl, by intro wv hSv; unfold OldS at hSv; go_simp⟩) hd rfl ?_
  try simp only [tk0, tk1, tk2, tk3, tk4]
  refine take_dst 15 18 (.int .i64 (p.ups.n : Int)) rfl (by kernel_rfl) (by kernel_rfl) (by kernel_rfl) (fun _ _ _ h => h) (Or.inl ⟨by rfl, by intro wv hSv; unfold OldS at hSv; go_simp⟩) hd rfl ?_
  try simp only [tk0, tk1, tk2, tk3, tk4]
  refine take_dst 16 19 (.bool (decide (b < (p.ups.n : Int)))) rfl (by kernel_rfl) (by kernel_rfl) (by kernel_rfl) (fun _ _ _ h => h) (Or.inl ⟨by rfl, by intro wv hSv; unfold OldS at hSv; go_simp⟩) hd rfl ?_
  try simp only [tk0, tk1, tk2, tk3, tk4]
  refine take_dst 17 20 (.bool (decide (b < (p.ups.n : Int)))) rfl (by kernel_rfl) (by kernel_rfl) (by kernel_rfl) (fun _ _ _ h => h) (Or.inl ⟨by rfl, by intro wv hSv; unfold OldS at hSv; go_simp⟩) hd rfl ?_
  try simp only [tk0, tk1, tk2, tk3, tk4]
  refine take_dst 18 2 (.bool (decide (b < (p.ups.n : Int)))) rfl (by kernel_rfl) (by kernel_rfl) (by kernel_rfl) (fun _ _ _ h => h) (Or.inl ⟨by rfl, by intro wv hSv; unfold OldS at hSv; go_simp⟩) hd rfl ?_
  try simp only [tk0, tk1, tk2, tk3, tk4]
  refine wpAnyH_done (by kernel_rfl) ?_ _
  clear hH hd r0 r1 r2 r3 r4 r5 r6 r7 p1 p2 p3 p4 p5 p6
  go_wp2_with fail
  go_ret
  exact ⟨⟨_, rfl, decide_eq_true_iff⟩, bw.drew⟩
theorem kid_n (w : World) (pb po B uo : Nat) (pc : Int) (n : Nat) (a b c s : Int) (p : PD) (a3 a4 a5 : Value) (hP : PtrP w pb po p a3 a4 a5) (hU : UsO w B uo) (hB : B < w.heap.size) (hn : n ≤ 33) (hq : n ≠ 25) :
    Calls Tryz.prog 114 #[plN pb po B uo pc n a b c s] w fun e w' => Says e (True) ∧ Below w.heap.size w w' := by
  have hU9 := hU n
  have t3 : w.cell? ⟨B, uo + n * 10 + 3, none⟩ = some (.int .i64 (sU n)) := by rw [← us3 n (by omega)]; exact hU n 3 (by omega) (by omega)
  clear hU9
  go_enter Tryz.func114, Tryz.ntmps114
  go_wp2_with fail
  have R0 := RowL.new w [.pointer (some ⟨pb, po, none⟩), .pointer (some ⟨B, uo + n * 10, none⟩), .int .i64 pc, .int .i64 (n : Int), .int .i64 a, .int .i64 b, .int .i64 c, .int .i64 s] 150
  have bw : Below w.heap.size w (w.alloc (.cells #[.pointer (some ⟨pb, po, none⟩), .pointer (some ⟨B, uo + n * 10, none⟩), .int .i64 pc, .int .i64 (n : Int), .int .i64 a, .int .i64 b, .int .i64 c, .int .i64 s] 150)) := (Below.refl _ _).alloc (Nat.le_refl _) _
  generalize w.alloc (.cells #[.pointer (some ⟨pb, po, none⟩), .pointer (some ⟨B, uo + n * 10, none⟩), .int .i64 pc, .int .i64 (n : Int), .int .i64 a, .int .i64 b, .int .i64 c, .int .i64 s] 150) = w0 at R0 bw ⊢
  have r0 := R0.cell 0 rfl
  have r1 := R0.cell 1 rfl
  have r2 := R0.cell 2 rfl
  have r3 := R0.cell 3 rfl
  have r4 := R0.cell 4 rfl
  have r5 := R0.cell 5 rfl
  have r6 := R0.cell 6 rfl
  have r7 := R0.cell 7 rfl
  have hl := R0.lt
  clear R0
  have hP0 := hP.later bw
  have p1 := hP0.c1
  have p2 := hP0.c2
  have p3 := hP0.c3
  have p4 := hP0.c4
  have p5 := hP0.c5
  have p6 := hP0.c6
  have hpb := hP0.lt
  have hB0 : B < w0.heap.size := Nat.lt_of_lt_of_le hB bw.size
  replace t3 := (bw.cell (p := ⟨B, uo + n * 10 + 3, none⟩) hB).trans t3
  replace hP0 : Hid _ := hP0
  replace hP : Hid _ := hP
  replace hU : Hid _ := hU
  have nq := sU5 hq
  have hd : OldS w0 w0.drew := OldS.of (Below.refl _ _).drew
  refine wp_region_held_drew (S := OldS w0) (by kernel_rfl) hd (fun hH => ?_)
  refine take_dst 0 3 (.pointer (some ⟨w.heap.size, 1, none⟩)) rfl (by kernel_rfl) (by kernel_rfl) (by kernel_rfl) (fun _ _ _ h => h) (Or.inl ⟨by rfl, by intro wv hSv; unfold OldS at hSv; go_simp⟩) hd rfl ?_
  try simp only [tk0, tk1, tk2, tk3, tk4]
  refine take_dst 1 4 (.pointer (some ⟨B, uo + n * 10, none⟩)) rfl (by kernel_rfl) (by kernel_rfl) (by kernel_rfl) (fun _ _ _ h => h) (Or.inl ⟨by rfl, by intro wv hSv; unfold OldS at hSv; go_simp⟩) hd rfl ?_
  try simp only [tk0, tk1, tk2, tk3, tk4]
  refine take_dst 2 5 (.pointer (some ⟨B, uo + n * 10, none⟩)) rfl (by kernel_rfl) (by kernel_rfl) (by kernel_rfl) (fun _ _ _ h => h) (Or.inl ⟨by rfl, by intro wv hSv; unfold OldS at hSv; go_simp⟩) hd rfl ?_
  try simp only [tk0, tk1, tk2, tk3, tk4]
  refine take_dst 3 6 (.pointer (some ⟨B, uo + n * 10 + 3, none⟩)) rfl (by kernel_rfl) (by kernel_rfl) (by kernel_rfl) (fun _ _ _ h => h) (Or.inl ⟨by rfl, by intro wv hSv; unfold OldS at hSv; go_simp⟩) hd rfl ?_
  try simp only [tk0, tk1, tk2, tk3, tk4]
  refine take_dst 4 7 (.int .i64 (sU n)) rfl (by kernel_rfl) (by kernel_rfl) (by kernel_rfl) (fun _ _ _ h => h) (Or.inl ⟨by rfl, by intro wv hSv; unfold OldS at hSv; go_simp⟩) hd rfl ?_
  try simp only [tk0, tk1, tk2, tk3, tk4]
  refine take_dst 5 8 (.bool true) rfl (by kernel_rfl) (by kernel_rfl) (by kernel_rfl) (fun _ _ _ h => h) (Or.inl ⟨by rfl, by intro wv hSv; unfold OldS at hSv; go_simp⟩) hd rfl ?_
  try simp only [tk0, tk1, tk2, tk3, tk4]
  refine take_dst 6 9 (.bool true) rfl (by kernel_rfl) (by kernel_rfl) (by kernel_rfl) (fun _ _ _ h => h) (Or.inl ⟨by rfl, by intro wv hSv; unfold OldS at hSv; go_simp⟩) hd rfl ?_
  try simp only [tk0, tk1, tk2, tk3, tk4]
  refine take_dst 7 10 undef rfl (by kernel_rfl) (by kernel_rfl) (by kernel_rfl) (fun _ _ _ h => h) (Or.inr ⟨by rfl, rfl⟩) hd rfl ?_
  try simp only [tk0, tk1, tk2, tk3, tk4]
  refine take_dst 8 11 undef rfl (by kernel_rfl) (by kernel_rfl) (by kernel_rfl) (fun _ _ _ h => h) (Or.inr ⟨by rfl, rfl⟩) hd rfl ?_
  try simp only [tk0, tk1, tk2, tk3, tk4]
  refine take_dst 9 12 undef rfl (by kernel_rfl) (by kernel_rfl) (by kernel_rfl) (fun _ _ _ h => h) (Or.inr ⟨by rfl, rfl⟩) hd rfl ?_
  try simp only [tk0, tk1, tk2, tk3, tk4]
  refine take_dst 10 13 undef rfl (by kernel_rfl) (by kernel_rfl) (by kernel_rfl) (fun _ _ _ h => h) (Or.inr ⟨by rfl, rfl⟩) hd rfl ?_
  try simp only [tk0, tk1, tk2, tk3, tk4]
  refine take_dst 11 14 undef rfl (by kernel_rfl) (by kernel_rfl) (by kernel_rfl) (fun _ _ _ h => h) (Or.inr ⟨by rfl, rfl⟩) hd rfl ?_
  try simp only [tk0, tk1, tk2, tk3, tk4]
  refine take_dst 12 15 undef rfl (by kernel_rfl) (by kernel_rfl) (by kernel_rfl) (fun _ _ _ h => h) (Or.inr ⟨by rfl, rfl⟩) hd rfl ?_
  try simp only [tk0, tk1, tk2, tk3, tk4]
  refine take_dst 13 16 undef rfl (by kernel_rfl) (by kernel_rfl) (by kernel_rfl) (fun _ _ _ h => h) (Or.inr ⟨by rfl, rfl⟩) hd rfl ?_
  try simp only [tk0, tk1, tk2, tk3, tk4]
  refine take_dst 14 17 undef rfl (by kernel_rfl) (by kernel_rfl) (by kernel_rfl) (fun _ _ _ h => h) (Or.inr ⟨by rfl, rfl⟩) hd rfl ?_
  try simp only [tk0, tk1, tk2, tk3, tk4]
  refine take_dst 15 18 undef rfl (by kernel_rfl) (by kernel_rfl) (by kernel_rfl) (fun _ _ _ h => h) (Or.inr ⟨by rfl, rfl⟩) hd rfl ?_
  try simp only [tk0, tk1, tk2, tk3, tk4]
  refine take_dst 16 19 undef rfl (by kernel_rfl) (by kernel_rfl) (by kernel_rfl) (fun _ _ _ h => h) (Or.inr ⟨by rfl, rfl⟩) hd rfl ?_
  try simp only [tk0, tk1, tk2, tk3, tk4]
  refine take_dst 17 20 (.bool true) rfl (by kernel_rfl) (by kernel_rfl) (by kernel_rfl) (fun _ _ _ h => h) (Or.inl ⟨by rfl, by intro wv hSv; unfold OldS at hSv; go_simp⟩) hd rfl ?_
  try simp only [tk0, tk1, tk2, tk3, tk4]
  refine take_dst 18 2 (.bool true) rfl (by kernel_rfl) (by kernel_rfl) (by kernel_rfl) (fun _ _ _ h => h) (Or.inl ⟨by rfl, by intro wv hSv; unfold OldS at hSv; go_simp⟩) hd rfl ?_
  try simp only [tk0, tk1, tk2, tk3, tk4]
  refine wpAnyH_done (by kernel_rfl) ?_ _
  clear hH hd r0 r1 r2 r3 r4 r5 r6 r7 p1 p2 p3 p4 p5 p6
  go_wp2_with fail
  go_ret
  exact ⟨says_yes trivial, bw.drew⟩
theorem kid_y (w : World) (pb po B uo : Nat) (pc : Int) (n : Nat) (a b c s : Int) (p : PD) (a3 a4 a5 : Value) (hP : PtrP w pb po p a3 a4 a5) (hU : UsO w B uo) (hB : B < w.heap.size) (hn : n ≤ 33) (hq : n = 25) (hk0 : 0 ≤ p.kids) (hk1 : p.kids ≤ 200) :
    Calls Tryz.prog 114 #[plN pb po B uo pc n a b c s] w fun e w' => Says e (0 ≤ s ∧ s < p.kids) ∧ Below w.heap.size w w' := by
  have hb3 : usC n 3 = .int .i64 5 := by subst hq; rfl
  replace hq : Hid _ := hq
  have hU9 := hU n
  have t3 : w.cell? ⟨B, uo + n * 10 + 3, none⟩ = some (.int .i64 5) := by rw [← hb3]; exact hU n 3 (by omega) (by omega)
  clear hU9
  go_enter Tryz.func114, Tryz.ntmps114
  go_wp2_with fail
  have R0 := RowL.new w [.pointer (some ⟨pb, po, none⟩), .pointer (some ⟨B, uo + n * 10, none⟩), .int .i64 pc, .int .i64 (n : Int), .int .i64 a, .int .i64 b, .int .i64 c, .int .i64 s] 150
  have bw : Below w.heap.size w (w.alloc (.cells #[.pointer (some ⟨pb, po, none⟩), .pointer (some ⟨B, uo + n * 10, none⟩), .int .i64 pc, .int .i64 (n : Int), .int .i64 a, .int .i64 b, .int .i64 c, .int .i64 s] 150)) := (Below.refl _ _).alloc (Nat.le_refl _) _
  generalize w.alloc (.cells #[.pointer (some ⟨pb, po, none⟩), .pointer (some ⟨B, uo + n * 10, none⟩), .int .i64 pc, .int .i64 (n : Int), .int .i64 a, .int .i64 b, .int .i64 c, .int .i64 s] 150) = w0 at R0 bw ⊢
  have r0 := R0.cell 0 rfl
  have r1 := R0.cell 1 rfl
  have r2 := R0.cell 2 rfl
  have r3 := R0.cell 3 rfl
  have r4 := R0.cell 4 rfl
  have r5 := R0.cell 5 rfl
  have r6 := R0.cell 6 rfl
  have r7 := R0.cell 7 rfl
  have hl := R0.lt
  clear R0
  have hP0 := hP.later bw
  have p1 := hP0.c1
  have p2 := hP0.c2
  have p3 := hP0.c3
  have p4 := hP0.c4
  have p5 := hP0.c5
  have p6 := hP0.c6
  have hpb := hP0.lt
  have hB0 : B < w0.heap.size := Nat.lt_of_lt_of_le hB bw.size
  replace t3 := (bw.cell (p := ⟨B, uo + n * 10 + 3, none⟩) hB).trans t3
  replace hP0 : Hid _ := hP0
  replace hP : Hid _ := hP
  replace hU : Hid _ := hU
  clear hb3
  have hd : OldS w0 w0.drew := OldS.of (Below.refl _ _).drew
  refine wp_region_held_drew (S := OldS w0) (by kernel_rfl) hd (fun hH => ?_)
  refine take_dst 0 3 (.pointer (some ⟨w.heap.size, 1, none⟩)) rfl (by kernel_rfl) (by kernel_rfl) (by kernel_rfl) (fun _ _ _ h => h) (Or.inl ⟨by rfl, by intro wv hSv; unfold OldS at hSv; go_simp⟩) hd rfl ?_
  try simp only [tk0, tk1, tk2, tk3, tk4]
  refine take_dst 1 4 (.pointer (some ⟨B, uo + n * 10, none⟩)) rfl (by kernel_rfl) (by kernel_rfl) (by kernel_rfl) (fun _ _ _ h => h) (Or.inl ⟨by rfl, by intro wv hSv; unfold OldS at hSv; go_simp⟩) hd rfl ?_
  try simp only [tk0, tk1, tk2, tk3, tk4]
  refine take_dst 2 5 (.pointer (some ⟨B, uo + n * 10, none⟩)) rfl (by kernel_rfl) (by kernel_rfl) (by kernel_rfl) (fun _ _ _ h => h) (Or.inl ⟨by rfl, by intro wv hSv; unfold OldS at hSv; go_simp⟩) hd rfl ?_
  try simp only [tk0, tk1, tk2, tk3, tk4]
  refine take_dst 3 6 (.pointer (some ⟨B, uo + n * 10 + 3, none⟩)) rfl (by kernel_rfl) (by kernel_rfl) (by kernel_rfl) (fun _ _ _ h => h) (Or.inl ⟨by rfl, by intro wv hSv; unfold OldS at hSv; go_simp⟩) hd rfl ?_
  try simp only [tk0, tk1, tk2, tk3, tk4]
  refine take_dst 4 7 (.int .i64 5) rfl (by kernel_rfl) (by kernel_rfl) (by kernel_rfl) (fun _ _ _ h => h) (Or.inl ⟨by rfl, by intro wv hSv; unfold OldS at hSv; go_simp⟩) hd rfl ?_
  try simp only [tk0, tk1, tk2, tk3, tk4]
  refine take_dst 5 8 (.bool false) rfl (by kernel_rfl) (by kernel_rfl) (by kernel_rfl) (fun _ _ _ h => h) (Or.inl ⟨by rfl, by intro wv hSv; unfold OldS at hSv; go_simp⟩) hd rfl ?_
  try simp only [tk0, tk1, tk2, tk3, tk4]
  refine take_dst 6 9 (.bool false) rfl (by kernel_rfl) (by kernel_rfl) (by kernel_rfl) (fun _ _ _ h => h) (Or.inl ⟨by rfl, by intro wv hSv; unfold OldS at hSv; go_simp⟩) hd rfl ?_
  try simp only [tk0, tk1, tk2, tk3, tk4]
  refine take_dst 7 10 (.pointer (some ⟨w.heap.size, 3, none⟩)) rfl (by kernel_rfl) (by kernel_rfl) (by kernel_rfl) (fun _ _ _ h => h) (Or.inl ⟨by rfl, by intro wv hSv; unfold OldS at hSv; go_simp⟩) hd rfl ?_
  try simp only [tk0, tk1, tk2, tk3, tk4]
  refine take_dst 8 11 (.pointer (some ⟨w.heap.size, 7, none⟩)) rfl (by kernel_rfl) (by kernel_rfl) (by kernel_rfl) (fun _ _ _ h => h) (Or.inl ⟨by rfl, by intro wv hSv; unfold OldS at hSv; go_simp⟩) hd rfl ?_
  try simp only [tk0, tk1, tk2, tk3, tk4]
  refine take_dst 9 12 (.int .i64 s) rfl (by kernel_rfl) (by kernel_rfl) (by kernel_rfl) (fun _ _ _ h => h) (Or.inl ⟨by rfl, by intro wv hSv; unfold OldS at hSv; go_simp⟩) hd rfl ?_
  try simp only [tk0, tk1, tk2, tk3, tk4]
  refine take_dst 10 13 (.pointer (some ⟨w.heap.size, 0, none⟩)) rfl (by kernel_rfl) (by kernel_rfl) (by kernel_rfl) (fun _ _ _ h => h) (Or.inl ⟨by rfl, by intro wv hSv; unfold OldS at hSv; go_simp⟩) hd rfl ?_
  try simp only [tk0, tk1, tk2, tk3, tk4]
  refine take_dst 11 14 (.pointer (some ⟨pb, po, none⟩)) rfl (by kernel_rfl) (by kernel_rfl) (by kernel_rfl) (fun _ _ _ h => h) (Or.inl ⟨by rfl, by intro wv hSv; unfold OldS at hSv; go_simp⟩) hd rfl ?_
  try simp only [tk0, tk1, tk2, tk3, tk4]
  refine take_dst 12 15 (.pointer (some ⟨pb, po, none⟩)) rfl (by kernel_rfl) (by kernel_rfl) (by kernel_rfl) (fun _ _ _ h => h) (Or.inl ⟨by rfl, by intro wv hSv; unfold OldS at hSv; go_simp⟩) hd rfl ?_
  try simp only [tk0, tk1, tk2, tk3, tk4]
  refine take_dst 13 16 (.pointer (some ⟨pb, po + 6, none⟩)) rfl (by kernel_rfl) (by kernel_rfl) (by kernel_rfl) (fun _ _ _ h => h) (Or.inl ⟨by rfl, by intro wv hSv; unfold OldS at hSv; go_simp⟩) hd rfl ?_
  try simp only [tk0, tk1, tk2, tk3, tk4]
  refine take_dst 14 17 (.int .i64 p.kids) rfl (by kernel_rfl) (by kernel_rfl) (by kernel_rfl) (fun _ _ _ h => h) (Or.inl ⟨by rfl, by intro wv hSv; unfold OldS at hSv; go_simp⟩) hd rfl ?_
  try simp only [tk0, tk1, tk2, tk3, tk4]
  have hwx : IntKind.i64.wrap (p.kids - 1) = p.kids - 1 := by simp [IntKind.wrap, IntKind.bits, IntKind.signed]; omega
  refine take_dst 15 18 (.int .i64 (p.kids - 1)) rfl (by kernel_rfl) (by kernel_rfl) (by kernel_rfl) (fun _ _ _ h => h) (Or.inl ⟨by rfl, by intro wv hSv; unfold OldS at hSv; go_simp⟩) hd rfl ?_
  try simp only [tk0, tk1, tk2, tk3, tk4]
  refine wpAnyH_ready (rs := [16]) (by kernel_rfl) (by simp) ?_
  refine AllReadyH.cons rfl (fun KK hKK => ?_) AllReadyH.nil
  go_simp
  refine (within_in s 0 (p.kids - 1) _).mono ?_
  rintro e y2 ⟨⟨r, rfl, hr⟩, rfl⟩
  go_wp2_with fail
  refine hKK.out _ _ hd (fun _ => ?_)
  clear hKK KK
  try simp only [tk0, tk1, tk2, tk3, tk4]
  refine take_dst 17 20 (.bool r) rfl (by kernel_rfl) (by kernel_rfl) (by kernel_rfl) (fun _ _ _ h => h) (Or.inl ⟨by rfl, by intro wv hSv; unfold OldS at hSv; go_simp⟩) hd rfl ?_
  try simp only [tk0, tk1, tk2, tk3, tk4]
  refine take_dst 18 2 (.bool r) rfl (by kernel_rfl) (by kernel_rfl) (by kernel_rfl) (fun _ _ _ h => h) (Or.inl ⟨by rfl, by intro wv hSv; unfold OldS at hSv; go_simp⟩) hd rfl ?_
  try simp only [tk0, tk1, tk2, tk3, tk4]
  refine wpAnyH_done (by kernel_rfl) ?_ _
  clear hH hd r0 r1 r2 r3 r4 r5 r6 r7 p1 p2 p3 p4 p5 p6
  go_wp2_with fail
  go_ret
  exact ⟨⟨_, rfl, hr.trans ⟨fun h => ⟨h.1, by omega⟩, fun h => ⟨h.1, by omega⟩⟩⟩, bw.drew⟩
end Go.Proofs.YtckapapejfnojaaGreatDoor

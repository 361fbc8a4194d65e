import Derived.Test.YtckapapejfnojaaGreatDoorVmCV
import Derived.Test.YtckapapejfnojaaGreatDoorGAV
namespace Go.Proofs.YtckapapejfnojaaGreatDoor
open Go.RowKit Go.Shelf
set_option linter.unusedVariables false
set_option linter.unusedSimpArgs false
set_option maxRecDepth 100000
set_option maxHeartbeats 2000000
attribute [local go_sem] qn54 qf54 qn58 qf58
theorem tgt_n (w : World) (pb po B uo : Nat) (pc : Int) (n : Nat) (a b c s : Int) (p : PD) (a3 a4 a5 : Value) (hP : PtrP w pb po p a3 a4 a5) (hU : UsO w B uo) (hB : B < w.heap.size) (hn : n ≤ 33) (hq : ¬ (n = 18 ∨ n = 27 ∨ n = 28)) :
    Calls Tryz.prog 115 #[plN pb po B uo pc n a b c s] w fun e w' => Says e (True) ∧ Below w.heap.size w w' := by
  have hU9 := hU n
  have t3 : w.cell? ⟨B, uo + n * 10 + 3, none⟩ = some (.int .i64 (sU n)) := by rw [← us3 n (by omega)]; exact hU n 3 (by omega) (by omega)
  clear hU9
  go_enter Tryz.func115, Tryz.ntmps115
  go_wp2_with fail
  have R0 := RowL.new w [.pointer (some ⟨pb, po, none⟩), .pointer (some ⟨B, uo + n * 10, none⟩), .int .i64 pc, .int .i64 (n : Int), .int .i64 a, .int .i64 b, .int .i64 c, .int .i64 s] 150
  have bw : Below w.heap.size w (w.alloc (.cells #[.pointer (some ⟨pb, po, none⟩), .pointer (some ⟨B, uo + n * 10, none⟩), .int .i64 pc, .int .i64 (n : Int), .int .i64 a, .int .i64 b, .int .i64 c, .int .i64 s] 150)) := (Below.refl _ _).alloc (Nat.le_refl _) _
  generalize w.alloc (.cells #[.pointer (some ⟨pb, po, none⟩), .pointer (some ⟨B, uo + n * 10, none⟩), .int .i64 pc, .int .i64 (n : Int), .int .i64 a, .int .i64 b, .int .i64 c, .int .i64 s] 150) = w0 at R0 bw ⊢
  have r0 := R0.cell 0 rfl
  have r1 := R0.cell 1 rfl
  have r2 := R0.cell 2 rfl
  have r3 := R0.cell 3 rfl
  have r4 := R0.cell 4 rfl
  have r5 := R0.cell 5 rfl
  have r6 := R0.cell 6 rfl
  have r7 := R0.cell 7 rfl
  have hl := R0.lt
  clear R0
  have hP0 := hP.later bw
  have p1 := hP0.c1
  have p2 := hP0.c2
  have p3 := hP0.c3
  have p4 := hP0.c4
  have p5 := hP0.c5
  have p6 := hP0.c6
  have hpb := hP0.lt
  have hB0 : B < w0.heap.size := Nat.lt_of_lt_of_le hB bw.size
  replace t3 := (bw.cell (p := ⟨B, uo + n * 10 + 3, none⟩) hB).trans t3
  replace hP0 : Hid _ := hP0
  replace hP : Hid _ := hP
  replace hU : Hid _ := hU
  have nq := sU6 hq
  have hd : OldS w0 w0.drew := OldS.of (Below.refl _ _).drew
  refine wp_region_held_drew (S := OldS w0) (by kernel_rfl) hd (fun hH => ?_)
  refine take_dst 0 3 (.pointer (some ⟨w.heap.size, 1, none⟩)) rfl (by kernel_rfl) (by kernel_rfl) (by kernel_rfl) (fun _ _ _ h => h) (Or.inl ⟨by rfl, by intro wv hSv; unfold OldS at hSv; go_simp⟩) hd rfl ?_
  try simp only [tk0, tk1, tk2, tk3, tk4]
  refine take_dst 1 4 (.pointer (some ⟨B, uo + n * 10, none⟩)) rfl (by kernel_rfl) (by kernel_rfl) (by kernel_rfl) (fun _ _ _ h => h) (Or.inl ⟨by rfl, by intro wv hSv; unfold OldS at hSv; go_simp⟩) hd rfl ?_
  try simp only [tk0, tk1, tk2, tk3, tk4]
  refine take_dst 2 5 (.pointer (some ⟨B, uo + n * 10, none⟩)) rfl (by kernel_rfl) (by kernel_rfl) (by kernel_rfl) (fun _ _ _ h => h) (Or.inl ⟨by rfl, by intro wv hSv; unfold OldS at hSv; go_simp⟩) hd rfl ?_
  try simp only [tk0, tk1, tk2, tk3, tk4]
  refine take_dst 3 6 (.pointer (some ⟨B, uo + n * 10 + 3, none⟩)) rfl (by kernel_rfl) (by kernel_rfl) (by kernel_rfl) (fun _ _ _ h => h) (Or.inl ⟨by rfl, by intro wv hSv; unfold OldS at hSv; go_simp⟩) hd rfl ?_
  try simp only [tk0, tk1, tk2, tk3, tk4]
  refine take_dst 4 7 (.int .i64 (sU n)) rfl (by kernel_rfl) (by kernel_rfl) (by kernel_rfl) (fun _ _ _ h => h) (Or.inl ⟨by rfl, by intro wv hSv; unfold OldS at hSv; go_simp⟩) hd rfl ?_
  try simp only [tk0, tk1, tk2, tk3, tk4]
  refine take_dst 5 8 (.bool true) rfl (by kernel_rfl) (by kernel_rfl) (by kernel_rfl) (fun _ _ _ h => h) (Or.inl ⟨by rfl, by intro wv hSv; unfold OldS at hSv; go_simp⟩) hd rfl ?_
  try simp only [tk0, tk1, tk2, tk3, tk4]
  refine take_dst 6 9 (.bool true) rfl (by kernel_rfl) (by kernel_rfl) (by kernel_rfl) (fun _ _ _ h => h) (Or.inl ⟨by rfl, by intro wv hSv; unfold OldS at hSv; go_simp⟩) hd rfl ?_
  try simp only [tk0, tk1, tk2, tk3, tk4]
  refine take_dst 7 10 undef rfl (by kernel_rfl) (by kernel_rfl) (by kernel_rfl) (fun _ _ _ h => h) (Or.inr ⟨by rfl, rfl⟩) hd rfl ?_
  try simp only [tk0, tk1, tk2, tk3, tk4]
  refine take_dst 8 11 undef rfl (by kernel_rfl) (by kernel_rfl) (by kernel_rfl) (fun _ _ _ h => h) (Or.inr ⟨by rfl, rfl⟩) hd rfl ?_
  try simp only [tk0, tk1, tk2, tk3, tk4]
  refine take_dst 9 12 undef rfl (by kernel_rfl) (by kernel_rfl) (by kernel_rfl) (fun _ _ _ h => h) (Or.inr ⟨by rfl, rfl⟩) hd rfl ?_
  try simp only [tk0, tk1, tk2, tk3, tk4]
  refine take_dst 10 13 undef rfl (by kernel_rfl) (by kernel_rfl) (by kernel_rfl) (fun _ _ _ h => h) (Or.inr ⟨by rfl, rfl⟩) hd rfl ?_
  try simp only [tk0, tk1, tk2, tk3, tk4]
  refine take_dst 11 14 undef rfl (by kernel_rfl) (by kernel_rfl) (by kernel_rfl) (fun _ _ _ h => h) (Or.inr ⟨by rfl, rfl⟩) hd rfl ?_
  try simp only [tk0, tk1, tk2, tk3, tk4]
  refine take_dst 12 15 undef rfl (by kernel_rfl) (by kernel_rfl) (by kernel_rfl) (fun _ _ _ h => h) (Or.inr ⟨by rfl, rfl⟩) hd rfl ?_
  try simp only [tk0, tk1, tk2, tk3, tk4]
  refine take_dst 13 16 undef rfl (by kernel_rfl) (by kernel_rfl) (by kernel_rfl) (fun _ _ _ h => h) (Or.inr ⟨by rfl, rfl⟩) hd rfl ?_
  try simp only [tk0, tk1, tk2, tk3, tk4]
  refine take_dst 14 17 (.bool true) rfl (by kernel_rfl) (by kernel_rfl) (by kernel_rfl) (fun _ _ _ h => h) (Or.inl ⟨by rfl, by intro wv hSv; unfold OldS at hSv; go_simp⟩) hd rfl ?_
  try simp only [tk0, tk1, tk2, tk3, tk4]
  refine take_dst 15 2 (.bool true) rfl (by kernel_rfl) (by kernel_rfl) (by kernel_rfl) (fun _ _ _ h => h) (Or.inl ⟨by rfl, by intro wv hSv; unfold OldS at hSv; go_simp⟩) hd rfl ?_
  try simp only [tk0, tk1, tk2, tk3, tk4]
  refine wpAnyH_done (by kernel_rfl) ?_ _
  clear hH hd r0 r1 r2 r3 r4 r5 r6 r7 p1 p2 p3 p4 p5 p6
  go_wp2_with fail
  go_ret
  exact ⟨says_yes trivial, bw.drew⟩
theorem tgt_y (w : World) (pb po B uo : Nat) (pc : Int) (n : Nat) (a b c s : Int) (p : PD) (a3 a4 a5 : Value) (hP : PtrP w pb po p a3 a4 a5) (hU : UsO w B uo) (hB : B < w.heap.size) (hn : n ≤ 33) (hq : n = 18 ∨ n = 27 ∨ n = 28) (z : Int) (hp : Prt z n a b c s) (h1 : 0 ≤ pc) (h2 : pc ≤ 100000) (s1 : -1000000 ≤ s) (s2 : s ≤ 1000000) (hn2 : p.code.n ≤ 2000) (hn0 : 0 < p.code.n) :
    Calls Tryz.prog 115 #[plN pb po B uo pc n a b c s] w fun e w' => Says e (0 ≤ pc + 1 + s ∧ pc + 1 + s < (p.code.n : Int)) ∧ Below w.heap.size w w' := by
  have hb3 : usC n 3 = .int .i64 6 := by rcases hq with rfl | rfl | rfl <;> rfl
  replace hq : Hid _ := hq
  obtain ⟨q, hqq⟩ : ∃ q : Bool, q = decide (0 ≤ pc + 1 + s ∧ pc + 1 + s < (p.code.n : Int)) := ⟨_, rfl⟩
  have hic : Hid (∀ y, Below w.heap.size w y → Calls Tryz.prog 97 #[.agg #[.pointer (some ⟨pb, po, none⟩), .pointer (some ⟨B, uo + n * 10, none⟩), .int .i64 pc, .int .i64 (n : Int), .int .i64 a, .int .i64 b, .int .i64 c, .int .i64 s], .int .i64 (pc + 1 + s)] y fun e w' => e = .returned (.bool q) ∧ Below y.heap.size y w') := fun y hy => by have h := inCode_in y pb po B uo pc z p a3 a4 a5 (hP.later hy) (pc + 1 + s) hn2 hn0 q hqq; rw [plV_eq hp] at h; exact h
  have hU9 := hU n
  have t3 : w.cell? ⟨B, uo + n * 10 + 3, none⟩ = some (.int .i64 6) := by rw [← hb3]; exact hU n 3 (by omega) (by omega)
  clear hU9
  go_enter Tryz.func115, Tryz.ntmps115
  go_wp2_with fail
  have R0 := RowL.new w [.pointer (some ⟨pb, po, none⟩), .pointer (some ⟨B, uo + n * 10, none⟩), .int .i64 pc, .int .i64 (n : Int), .int .i64 a, .int .i64 b, .int .i64 c, .int .i64 s] 150
  have bw : Below w.heap.size w (w.alloc (.cells #[.pointer (some ⟨pb, po, none⟩), .pointer (some ⟨B, uo + n * 10, none⟩), .int .i64 pc, .int .i64 (n : Int), .int .i64 a, .int .i64 b, .int .i64 c, .int .i64 s] 150)) := (Below.refl _ _).alloc (Nat.le_refl _) _
  generalize w.alloc (.cells #[.pointer (some ⟨pb, po, none⟩), .pointer (some ⟨B, uo + n * 10, none⟩), .int .i64 pc, .int .i64 (n : Int), .int .i64 a, .int .i64 b, .int .i64 c, .int .i64 s] 150) = w0 at R0 bw ⊢
  have r0 := R0.cell 0 rfl
  have r1 := R0.cell 1 rfl
  have r2 := R0.cell 2 rfl
  have r3 := R0.cell 3 rfl
  have r4 := R0.cell 4 rfl
  have r5 := R0.cell 5 rfl
  have r6 := R0.cell 6 rfl
  have r7 := R0.cell 7 rfl
  have hl := R0.lt
  clear R0
  have hP0 := hP.later bw
  have p1 := hP0.c1
  have p2 := hP0.c2
  have p3 := hP0.c3
  have p4 := hP0.c4
  have p5 := hP0.c5
  have p6 := hP0.c6
  have hpb := hP0.lt
  have hB0 : B < w0.heap.size := Nat.lt_of_lt_of_le hB bw.size
  replace t3 := (bw.cell (p := ⟨B, uo + n * 10 + 3, none⟩) hB).trans t3
  replace hP0 : Hid _ := hP0
  replace hP : Hid _ := hP
  replace hU : Hid _ := hU
  clear hb3
  have hd : OldS w0 w0.drew := OldS.of (Below.refl _ _).drew
  refine wp_region_held_drew (S := OldS w0) (by kernel_rfl) hd (fun hH => ?_)
  refine take_dst 0 3 (.pointer (some ⟨w.heap.size, 1, none⟩)) rfl (by kernel_rfl) (by kernel_rfl) (by kernel_rfl) (fun _ _ _ h => h) (Or.inl ⟨by rfl, by intro wv hSv; unfold OldS at hSv; go_simp⟩) hd rfl ?_
  try simp only [tk0, tk1, tk2, tk3, tk4]
  refine take_dst 1 4 (.pointer (some ⟨B, uo + n * 10, none⟩)) rfl (by kernel_rfl) (by kernel_rfl) (by kernel_rfl) (fun _ _ _ h => h) (Or.inl ⟨by rfl, by intro wv hSv; unfold OldS at hSv; go_simp⟩) hd rfl ?_
  try simp only [tk0, tk1, tk2, tk3, tk4]
  refine take_dst 2 5 (.pointer (some ⟨B, uo + n * 10, none⟩)) rfl (by kernel_rfl) (by kernel_rfl) (by kernel_rfl) (fun _ _ _ h => h) (Or.inl ⟨by rfl, by intro wv hSv; unfold OldS at hSv; go_simp⟩) hd rfl ?_
  try simp only [tk0, tk1, tk2, tk3, tk4]
  refine take_dst 3 6 (.pointer (some ⟨B, uo + n * 10 + 3, none⟩)) rfl (by kernel_rfl) (by kernel_rfl) (by kernel_rfl) (fun _ _ _ h => h) (Or.inl ⟨by rfl, by intro wv hSv; unfold OldS at hSv; go_simp⟩) hd rfl ?_
  try simp only [tk0, tk1, tk2, tk3, tk4]
  refine take_dst 4 7 (.int .i64 6) rfl (by kernel_rfl) (by kernel_rfl) (by kernel_rfl) (fun _ _ _ h => h) (Or.inl ⟨by rfl, by intro wv hSv; unfold OldS at hSv; go_simp⟩) hd rfl ?_
  try simp only [tk0, tk1, tk2, tk3, tk4]
  refine take_dst 5 8 (.bool false) rfl (by kernel_rfl) (by kernel_rfl) (by kernel_rfl) (fun _ _ _ h => h) (Or.inl ⟨by rfl, by intro wv hSv; unfold OldS at hSv; go_simp⟩) hd rfl ?_
  try simp only [tk0, tk1, tk2, tk3, tk4]
  refine take_dst 6 9 (.bool false) rfl (by kernel_rfl) (by kernel_rfl) (by kernel_rfl) (fun _ _ _ h => h) (Or.inl ⟨by rfl, by intro wv hSv; unfold OldS at hSv; go_simp⟩) hd rfl ?_
  try simp only [tk0, tk1, tk2, tk3, tk4]
  refine take_dst 7 10 (.agg #[.pointer (some ⟨pb, po, none⟩), .pointer (some ⟨B, uo + n * 10, none⟩), .int .i64 pc, .int .i64 (n : Int), .int .i64 a, .int .i64 b, .int .i64 c, .int .i64 s]) rfl (by kernel_rfl) (by kernel_rfl) (by kernel_rfl) (fun _ _ _ h => h) (Or.inl ⟨by rfl, by intro wv hSv; unfold OldS at hSv; go_simp⟩) hd rfl ?_
  try simp only [tk0, tk1, tk2, tk3, tk4]
  refine take_dst 8 11 (.pointer (some ⟨w.heap.size, 2, none⟩)) rfl (by kernel_rfl) (by kernel_rfl) (by kernel_rfl) (fun _ _ _ h => h) (Or.inl ⟨by rfl, by intro wv hSv; unfold OldS at hSv; go_simp⟩) hd rfl ?_
  try simp only [tk0, tk1, tk2, tk3, tk4]
  refine take_dst 9 12 (.int .i64 pc) rfl (by kernel_rfl) (by kernel_rfl) (by kernel_rfl) (fun _ _ _ h => h) (Or.inl ⟨by rfl, by intro wv hSv; unfold OldS at hSv; go_simp⟩) hd rfl ?_
  try simp only [tk0, tk1, tk2, tk3, tk4]
  refine take_dst 10 13 (.pointer (some ⟨w.heap.size, 3, none⟩)) rfl (by kernel_rfl) (by kernel_rfl) (by kernel_rfl) (fun _ _ _ h => h) (Or.inl ⟨by rfl, by intro wv hSv; unfold OldS at hSv; go_simp⟩) hd rfl ?_
  try simp only [tk0, tk1, tk2, tk3, tk4]
  refine take_dst 11 14 (.agg #[.int .i64 (n : Int), .int .i64 a, .int .i64 b, .int .i64 c, .int .i64 s]) rfl (by kernel_rfl) (by kernel_rfl) (by kernel_rfl) (fun _ _ _ h => h) (Or.inl ⟨by rfl, by intro wv hSv; unfold OldS at hSv; go_simp⟩) hd rfl ?_
  try simp only [tk0, tk1, tk2, tk3, tk4]
  refine wpAnyH_ready (rs := [12]) (by kernel_rfl) (by simp) ?_
  refine AllReadyH.cons rfl (fun KK hKK => ?_) AllReadyH.nil
  go_simp
  refine (target_in pc (n : Int) a b c s _ h1 h2 s1 s2).mono ?_
  rintro e y2 ⟨rfl, b2⟩
  replace b2 : Below w0.heap.size w0 y2 := ⟨b2.os, b2.tape, b2.output, b2.size, b2.block⟩
  have h2o : OldS w0 y2 := OldS.of b2
  go_wp2_with fail
  refine hKK.out _ _ h2o (fun _ => ?_)
  clear hKK KK
  try simp only [tk0, tk1, tk2, tk3, tk4]
  refine wpAnyH_ready (rs := [13]) (by kernel_rfl) (by simp) ?_
  refine AllReadyH.cons rfl (fun KK hKK => ?_) AllReadyH.nil
  go_simp
  refine (hic.out _ (bw.trans (b2.mono bw.size))).mono ?_
  rintro e y3 ⟨rfl, b3⟩
  have b4 := b2.trans (b3.mono b2.size)
  have h3o : OldS w0 y3 := OldS.of b4
  go_wp2_with fail
  refine hKK.out _ _ h3o (fun _ => ?_)
  clear hKK KK
  try simp only [tk0, tk1, tk2, tk3, tk4]
  refine take_dst 14 17 (.bool q) rfl (by kernel_rfl) (by kernel_rfl) (by kernel_rfl) (fun _ _ _ h => h) (Or.inl ⟨by rfl, by intro wv hSv; unfold OldS at hSv; go_simp⟩) h3o rfl ?_
  try simp only [tk0, tk1, tk2, tk3, tk4]
  refine take_dst 15 2 (.bool q) rfl (by kernel_rfl) (by kernel_rfl) (by kernel_rfl) (fun _ _ _ h => h) (Or.inl ⟨by rfl, by intro wv hSv; unfold OldS at hSv; go_simp⟩) h3o rfl ?_
  try simp only [tk0, tk1, tk2, tk3, tk4]
  have bF := bw.trans (b4.mono bw.size)
  clear b2 b3 b4 h2o h3o
  refine wpAnyH_done (by kernel_rfl) ?_ _
  clear hH hd r0 r1 r2 r3 r4 r5 r6 r7 p1 p2 p3 p4 p5 p6
  go_wp2_with fail
  go_ret
  exact ⟨⟨_, rfl, by rw [hqq, decide_eq_true_iff]⟩, bF⟩
theorem regs_nil (w : World) (pb po B uo : Nat) (pc : Int) (n : Nat) (a b c s : Int) (p : PD) (a3 a4 a5 : Value) (hP : PtrP w pb po p a3 a4 a5) (hU : UsO w B uo) (hB : B < w.heap.size) (hn : n ≤ 33) (hf5 : usC n 5 = .nilFunc) :
    Calls Tryz.prog 111 #[plN pb po B uo pc n a b c s] w fun e w' => Says e (True) ∧ Below w.heap.size w w' := by
  have hU9 := hU n
  have t5 : w.cell? ⟨B, uo + n * 10 + 5, none⟩ = some (.nilFunc) := by rw [← hf5]; exact hU n 5 (by omega) (by omega)
  clear hU9
  go_enter Tryz.func111, Tryz.ntmps111
  go_wp2_with fail
  have R0 := RowL.new w [.pointer (some ⟨pb, po, none⟩), .pointer (some ⟨B, uo + n * 10, none⟩), .int .i64 pc, .int .i64 (n : Int), .int .i64 a, .int .i64 b, .int .i64 c, .int .i64 s] 150
  have bw : Below w.heap.size w (w.alloc (.cells #[.pointer (some ⟨pb, po, none⟩), .pointer (some ⟨B, uo + n * 10, none⟩), .int .i64 pc, .int .i64 (n : Int), .int .i64 a, .int .i64 b, .int .i64 c, .int .i64 s] 150)) := (Below.refl _ _).alloc (Nat.le_refl _) _
  generalize w.alloc (.cells #[.pointer (some ⟨pb, po, none⟩), .pointer (some ⟨B, uo + n * 10, none⟩), .int .i64 pc, .int .i64 (n : Int), .int .i64 a, .int .i64 b, .int .i64 c, .int .i64 s] 150) = w0 at R0 bw ⊢
  have r0 := R0.cell 0 rfl
  have r1 := R0.cell 1 rfl
  have r2 := R0.cell 2 rfl
  have r3 := R0.cell 3 rfl
  have r4 := R0.cell 4 rfl
  have r5 := R0.cell 5 rfl
  have r6 := R0.cell 6 rfl
  have r7 := R0.cell 7 rfl
  have hl := R0.lt
  clear R0
  have hP0 := hP.later bw
  have p1 := hP0.c1
  have p2 := hP0.c2
  have p3 := hP0.c3
  have p4 := hP0.c4
  have p5 := hP0.c5
  have p6 := hP0.c6
  have hpb := hP0.lt
  have hB0 : B < w0.heap.size := Nat.lt_of_lt_of_le hB bw.size
  replace t5 := (bw.cell (p := ⟨B, uo + n * 10 + 5, none⟩) hB).trans t5
  replace hP0 : Hid _ := hP0
  replace hP : Hid _ := hP
  replace hU : Hid _ := hU
  clear hf5
  have hd : OldS w0 w0.drew := OldS.of (Below.refl _ _).drew
  refine wp_region_held_drew (S := OldS w0) (by kernel_rfl) hd (fun hH => ?_)
  refine take_dst 0 3 (.pointer (some ⟨w.heap.size, 1, none⟩)) rfl (by kernel_rfl) (by kernel_rfl) (by kernel_rfl) (fun _ _ _ h => h) (Or.inl ⟨by rfl, by intro wv hSv; unfold OldS at hSv; go_simp⟩) hd rfl ?_
  try simp only [tk0, tk1, tk2, tk3, tk4]
  refine take_dst 1 4 (.pointer (some ⟨B, uo + n * 10, none⟩)) rfl (by kernel_rfl) (by kernel_rfl) (by kernel_rfl) (fun _ _ _ h => h) (Or.inl ⟨by rfl, by intro wv hSv; unfold OldS at hSv; go_simp⟩) hd rfl ?_
  try simp only [tk0, tk1, tk2, tk3, tk4]
  refine take_dst 2 5 (.pointer (some ⟨B, uo + n * 10, none⟩)) rfl (by kernel_rfl) (by kernel_rfl) (by kernel_rfl) (fun _ _ _ h => h) (Or.inl ⟨by rfl, by intro wv hSv; unfold OldS at hSv; go_simp⟩) hd rfl ?_
  try simp only [tk0, tk1, tk2, tk3, tk4]
  refine take_dst 3 6 (.pointer (some ⟨B, uo + n * 10 + 5, none⟩)) rfl (by kernel_rfl) (by kernel_rfl) (by kernel_rfl) (fun _ _ _ h => h) (Or.inl ⟨by rfl, by intro wv hSv; unfold OldS at hSv; go_simp⟩) hd rfl ?_
  try simp only [tk0, tk1, tk2, tk3, tk4]
  refine take_dst 4 7 (.nilFunc) rfl (by kernel_rfl) (by kernel_rfl) (by kernel_rfl) (fun _ _ _ h => h) (Or.inl ⟨by rfl, by intro wv hSv; unfold OldS at hSv; go_simp⟩) hd rfl ?_
  try simp only [tk0, tk1, tk2, tk3, tk4]
  refine take_dst 5 8 (.bool true) rfl (by kernel_rfl) (by kernel_rfl) (by kernel_rfl) (fun _ _ _ h => h) (Or.inl ⟨by rfl, by intro wv hSv; unfold OldS at hSv; go_simp⟩) hd rfl ?_
  try simp only [tk0, tk1, tk2, tk3, tk4]
  refine take_dst 6 9 (.bool true) rfl (by kernel_rfl) (by kernel_rfl) (by kernel_rfl) (fun _ _ _ h => h) (Or.inl ⟨by rfl, by intro wv hSv; unfold OldS at hSv; go_simp⟩) hd rfl ?_
  try simp only [tk0, tk1, tk2, tk3, tk4]
  refine take_dst 7 10 undef rfl (by kernel_rfl) (by kernel_rfl) (by kernel_rfl) (fun _ _ _ h => h) (Or.inr ⟨by rfl, rfl⟩) hd rfl ?_
  try simp only [tk0, tk1, tk2, tk3, tk4]
  refine take_dst 8 11 undef rfl (by kernel_rfl) (by kernel_rfl) (by kernel_rfl) (fun _ _ _ h => h) (Or.inr ⟨by rfl, rfl⟩) hd rfl ?_
  try simp only [tk0, tk1, tk2, tk3, tk4]
  refine take_dst 9 12 undef rfl (by kernel_rfl) (by kernel_rfl) (by kernel_rfl) (fun _ _ _ h => h) (Or.inr ⟨by rfl, rfl⟩) hd rfl ?_
  try simp only [tk0, tk1, tk2, tk3, tk4]
  refine take_dst 10 13 undef rfl (by kernel_rfl) (by kernel_rfl) (by kernel_rfl) (fun _ _ _ h => h) (Or.inr ⟨by rfl, rfl⟩) hd rfl ?_
  try simp only [tk0, tk1, tk2, tk3, tk4]
  refine take_dst 11 14 undef rfl (by kernel_rfl) (by kernel_rfl) (by kernel_rfl) (fun _ _ _ h => h) (Or.inr ⟨by rfl, rfl⟩) hd rfl ?_
  try simp only [tk0, tk1, tk2, tk3, tk4]
  refine take_dst 12 15 undef rfl (by kernel_rfl) (by kernel_rfl) (by kernel_rfl) (fun _ _ _ h => h) (Or.inr ⟨by rfl, rfl⟩) hd rfl ?_
  try simp only [tk0, tk1, tk2, tk3, tk4]
  refine take_dst 13 16 undef rfl (by kernel_rfl) (by kernel_rfl) (by kernel_rfl) (fun _ _ _ h => h) (Or.inr ⟨by rfl, rfl⟩) hd rfl ?_
  try simp only [tk0, tk1, tk2, tk3, tk4]
  refine take_dst 14 17 undef rfl (by kernel_rfl) (by kernel_rfl) (by kernel_rfl) (fun _ _ _ h => h) (Or.inr ⟨by rfl, rfl⟩) hd rfl ?_
  try simp only [tk0, tk1, tk2, tk3, tk4]
  refine take_dst 15 18 undef rfl (by kernel_rfl) (by kernel_rfl) (by kernel_rfl) (fun _ _ _ h => h) (Or.inr ⟨by rfl, rfl⟩) hd rfl ?_
  try simp only [tk0, tk1, tk2, tk3, tk4]
  refine take_dst 16 19 undef rfl (by kernel_rfl) (by kernel_rfl) (by kernel_rfl) (fun _ _ _ h => h) (Or.inr ⟨by rfl, rfl⟩) hd rfl ?_
  try simp only [tk0, tk1, tk2, tk3, tk4]
  refine take_dst 17 20 undef rfl (by kernel_rfl) (by kernel_rfl) (by kernel_rfl) (fun _ _ _ h => h) (Or.inr ⟨by rfl, rfl⟩) hd rfl ?_
  try simp only [tk0, tk1, tk2, tk3, tk4]
  refine take_dst 18 21 undef rfl (by kernel_rfl) (by kernel_rfl) (by kernel_rfl) (fun _ _ _ h => h) (Or.inr ⟨by rfl, rfl⟩) hd rfl ?_
  try simp only [tk0, tk1, tk2, tk3, tk4]
  refine take_dst 19 22 undef rfl (by kernel_rfl) (by kernel_rfl) (by kernel_rfl) (fun _ _ _ h => h) (Or.inr ⟨by rfl, rfl⟩) hd rfl ?_
  try simp only [tk0, tk1, tk2, tk3, tk4]
  refine take_dst 20 23 undef rfl (by kernel_rfl) (by kernel_rfl) (by kernel_rfl) (fun _ _ _ h => h) (Or.inr ⟨by rfl, rfl⟩) hd rfl ?_
  try simp only [tk0, tk1, tk2, tk3, tk4]
  refine take_dst 21 24 (.bool true) rfl (by kernel_rfl) (by kernel_rfl) (by kernel_rfl) (fun _ _ _ h => h) (Or.inl ⟨by rfl, by intro wv hSv; unfold OldS at hSv; go_simp⟩) hd rfl ?_
  try simp only [tk0, tk1, tk2, tk3, tk4]
  refine take_dst 22 2 (.bool true) rfl (by kernel_rfl) (by kernel_rfl) (by kernel_rfl) (fun _ _ _ h => h) (Or.inl ⟨by rfl, by intro wv hSv; unfold OldS at hSv; go_simp⟩) hd rfl ?_
  try simp only [tk0, tk1, tk2, tk3, tk4]
  refine wpAnyH_done (by kernel_rfl) ?_ _
  clear hH hd r0 r1 r2 r3 r4 r5 r6 r7 p1 p2 p3 p4 p5 p6
  go_wp2_with fail
  go_ret
  exact ⟨says_yes trivial, bw.drew⟩
theorem regs_regsA (w : World) (pb po B uo : Nat) (pc : Int) (n : Nat) (a b c s : Int) (p : PD) (a3 a4 a5 : Value) (hP : PtrP w pb po p a3 a4 a5) (hU : UsO w B uo) (hB : B < w.heap.size) (hn : n ≤ 33) (hf5 : usC n 5 = .func (.func 76) #[] #[]) (a1 : 0 ≤ a) (a2 : a ≤ 255) (b1 : 0 ≤ b) (b2 : b ≤ 511) (c1 : 0 ≤ c) (c2 : c ≤ 511) (s1 : -1000000 ≤ s) (s2 : s ≤ 1000000) :
    Calls Tryz.prog 111 #[plN pb po B uo pc n a b c s] w fun e w' => Says e (a + 1 ≤ p.regs) ∧ Below w.heap.size w w' := by
  have hU9 := hU n
  have t5 : w.cell? ⟨B, uo + n * 10 + 5, none⟩ = some (.func (.func 76) #[] #[]) := by rw [← hf5]; exact hU n 5 (by omega) (by omega)
  clear hU9
  go_enter Tryz.func111, Tryz.ntmps111
  go_wp2_with fail
  have R0 := RowL.new w [.pointer (some ⟨pb, po, none⟩), .pointer (some ⟨B, uo + n * 10, none⟩), .int .i64 pc, .int .i64 (n : Int), .int .i64 a, .int .i64 b, .int .i64 c, .int .i64 s] 150
  have bw : Below w.heap.size w (w.alloc (.cells #[.pointer (some ⟨pb, po, none⟩), .pointer (some ⟨B, uo + n * 10, none⟩), .int .i64 pc, .int .i64 (n : Int), .int .i64 a, .int .i64 b, .int .i64 c, .int .i64 s] 150)) := (Below.refl _ _).alloc (Nat.le_refl _) _
  generalize w.alloc (.cells #[.pointer (some ⟨pb, po, none⟩), .pointer (some ⟨B, uo + n * 10, none⟩), .int .i64 pc, .int .i64 (n : Int), .int .i64 a, .int .i64 b, .int .i64 c, .int .i64 s] 150) = w0 at R0 bw ⊢
  have r0 := R0.cell 0 rfl
  have r1 := R0.cell 1 rfl
  have r2 := R0.cell 2 rfl
  have r3 := R0.cell 3 rfl
  have r4 := R0.cell 4 rfl
  have r5 := R0.cell 5 rfl
  have r6 := R0.cell 6 rfl
  have r7 := R0.cell 7 rfl
  have hl := R0.lt
  clear R0
  have hP0 := hP.later bw
  have p1 := hP0.c1
  have p2 := hP0.c2
  have p3 := hP0.c3
  have p4 := hP0.c4
  have p5 := hP0.c5
  have p6 := hP0.c6
  have hpb := hP0.lt
  have hB0 : B < w0.heap.size := Nat.lt_of_lt_of_le hB bw.size
  replace t5 := (bw.cell (p := ⟨B, uo + n * 10 + 5, none⟩) hB).trans t5
  replace hP0 : Hid _ := hP0
  replace hP : Hid _ := hP
  replace hU : Hid _ := hU
  clear hf5
  have hd : OldS w0 w0.drew := OldS.of (Below.refl _ _).drew
  refine wp_region_held_drew (S := OldS w0) (by kernel_rfl) hd (fun hH => ?_)
  refine take_dst 0 3 (.pointer (some ⟨w.heap.size, 1, none⟩)) rfl (by kernel_rfl) (by kernel_rfl) (by kernel_rfl) (fun _ _ _ h => h) (Or.inl ⟨by rfl, by intro wv hSv; unfold OldS at hSv; go_simp⟩) hd rfl ?_
  try simp only [tk0, tk1, tk2, tk3, tk4]
  refine take_dst 1 4 (.pointer (some ⟨B, uo + n * 10, none⟩)) rfl (by kernel_rfl) (by kernel_rfl) (by kernel_rfl) (fun _ _ _ h => h) (Or.inl ⟨by rfl, by intro wv hSv; unfold OldS at hSv; go_simp⟩) hd rfl ?_
  try simp only [tk0, tk1, tk2, tk3, tk4]
  refine take_dst 2 5 (.pointer (some ⟨B, uo + n * 10, none⟩)) rfl (by kernel_rfl) (by kernel_rfl) (by kernel_rfl) (fun _ _ _ h => h) (Or.inl ⟨by rfl, by intro wv hSv; unfold OldS at hSv; go_simp⟩) hd rfl ?_
  try simp only [tk0, tk1, tk2, tk3, tk4]
  refine take_dst 3 6 (.pointer (some ⟨B, uo + n * 10 + 5, none⟩)) rfl (by kernel_rfl) (by kernel_rfl) (by kernel_rfl) (fun _ _ _ h => h) (Or.inl ⟨by rfl, by intro wv hSv; unfold OldS at hSv; go_simp⟩) hd rfl ?_
  try simp only [tk0, tk1, tk2, tk3, tk4]
  refine take_dst 4 7 (.func (.func 76) #[] #[]) rfl (by kernel_rfl) (by kernel_rfl) (by kernel_rfl) (fun _ _ _ h => h) (Or.inl ⟨by rfl, by intro wv hSv; unfold OldS at hSv; go_simp⟩) hd rfl ?_
  try simp only [tk0, tk1, tk2, tk3, tk4]
  refine take_dst 5 8 (.bool false) rfl (by kernel_rfl) (by kernel_rfl) (by kernel_rfl) (fun _ _ _ h => h) (Or.inl ⟨by rfl, by intro wv hSv; unfold OldS at hSv; go_simp⟩) hd rfl ?_
  try simp only [tk0, tk1, tk2, tk3, tk4]
  refine take_dst 6 9 (.bool false) rfl (by kernel_rfl) (by kernel_rfl) (by kernel_rfl) (fun _ _ _ h => h) (Or.inl ⟨by rfl, by intro wv hSv; unfold OldS at hSv; go_simp⟩) hd rfl ?_
  try simp only [tk0, tk1, tk2, tk3, tk4]
  refine take_dst 7 10 (.pointer (some ⟨w.heap.size, 1, none⟩)) rfl (by kernel_rfl) (by kernel_rfl) (by kernel_rfl) (fun _ _ _ h => h) (Or.inl ⟨by rfl, by intro wv hSv; unfold OldS at hSv; go_simp⟩) hd rfl ?_
  try simp only [tk0, tk1, tk2, tk3, tk4]
  refine take_dst 8 11 (.pointer (some ⟨B, uo + n * 10, none⟩)) rfl (by kernel_rfl) (by kernel_rfl) (by kernel_rfl) (fun _ _ _ h => h) (Or.inl ⟨by rfl, by intro wv hSv; unfold OldS at hSv; go_simp⟩) hd rfl ?_
  try simp only [tk0, tk1, tk2, tk3, tk4]
  refine take_dst 9 12 (.pointer (some ⟨B, uo + n * 10, none⟩)) rfl (by kernel_rfl) (by kernel_rfl) (by kernel_rfl) (fun _ _ _ h => h) (Or.inl ⟨by rfl, by intro wv hSv; unfold OldS at hSv; go_simp⟩) hd rfl ?_
  try simp only [tk0, tk1, tk2, tk3, tk4]
  refine take_dst 10 13 (.pointer (some ⟨B, uo + n * 10 + 5, none⟩)) rfl (by kernel_rfl) (by kernel_rfl) (by kernel_rfl) (fun _ _ _ h => h) (Or.inl ⟨by rfl, by intro wv hSv; unfold OldS at hSv; go_simp⟩) hd rfl ?_
  try simp only [tk0, tk1, tk2, tk3, tk4]
  refine take_dst 11 14 (.func (.func 76) #[] #[]) rfl (by kernel_rfl) (by kernel_rfl) (by kernel_rfl) (fun _ _ _ h => h) (Or.inl ⟨by rfl, by intro wv hSv; unfold OldS at hSv; go_simp⟩) hd rfl ?_
  try simp only [tk0, tk1, tk2, tk3, tk4]
  refine take_dst 12 15 (.pointer (some ⟨w.heap.size, 3, none⟩)) rfl (by kernel_rfl) (by kernel_rfl) (by kernel_rfl) (fun _ _ _ h => h) (Or.inl ⟨by rfl, by intro wv hSv; unfold OldS at hSv; go_simp⟩) hd rfl ?_
  try simp only [tk0, tk1, tk2, tk3, tk4]
  refine take_dst 13 16 (.agg #[.int .i64 (n : Int), .int .i64 a, .int .i64 b, .int .i64 c, .int .i64 s]) rfl (by kernel_rfl) (by kernel_rfl) (by kernel_rfl) (fun _ _ _ h => h) (Or.inl ⟨by rfl, by intro wv hSv; unfold OldS at hSv; go_simp⟩) hd rfl ?_
  try simp only [tk0, tk1, tk2, tk3, tk4]
  refine take_dst 15 18 (.pointer (some ⟨w.heap.size, 0, none⟩)) rfl (by kernel_rfl) (by kernel_rfl) (by kernel_rfl) (fun _ _ _ h => h) (Or.inl ⟨by rfl, by intro wv hSv; unfold OldS at hSv; go_simp⟩) hd rfl ?_
  try simp only [tk0, tk1, tk2, tk3, tk4]
  refine take_dst 16 19 (.pointer (some ⟨pb, po, none⟩)) rfl (by kernel_rfl) (by kernel_rfl) (by kernel_rfl) (fun _ _ _ h => h) (Or.inl ⟨by rfl, by intro wv hSv; unfold OldS at hSv; go_simp⟩) hd rfl ?_
  try simp only [tk0, tk1, tk2, tk3, tk4]
  refine take_dst 17 20 (.pointer (some ⟨pb, po, none⟩)) rfl (by kernel_rfl) (by kernel_rfl) (by kernel_rfl) (fun _ _ _ h => h) (Or.inl ⟨by rfl, by intro wv hSv; unfold OldS at hSv; go_simp⟩) hd rfl ?_
  try simp only [tk0, tk1, tk2, tk3, tk4]
  refine take_dst 18 21 (.pointer (some ⟨pb, po + 2, none⟩)) rfl (by kernel_rfl) (by kernel_rfl) (by kernel_rfl) (fun _ _ _ h => h) (Or.inl ⟨by rfl, by intro wv hSv; unfold OldS at hSv; go_simp⟩) hd rfl ?_
  try simp only [tk0, tk1, tk2, tk3, tk4]
  refine take_dst 19 22 (.int .i64 p.regs) rfl (by kernel_rfl) (by kernel_rfl) (by kernel_rfl) (fun _ _ _ h => h) (Or.inl ⟨by rfl, by intro wv hSv; unfold OldS at hSv; go_simp⟩) hd rfl ?_
  try simp only [tk0, tk1, tk2, tk3, tk4]
  refine wpAnyH_ready (rs := [14]) (by kernel_rfl) (by simp) ?_
  refine AllReadyH.cons rfl (fun KK hKK => ?_) AllReadyH.nil
  go_simp
  refine (regsA_in (n : Int) a b c s _ a1 a2).mono ?_
  rintro e y2 ⟨rfl, b2⟩
  replace b2 : Below w0.heap.size w0 y2 := ⟨b2.os, b2.tape, b2.output, b2.size, b2.block⟩
  have h2o : OldS w0 y2 := OldS.of b2
  go_wp2_with fail
  refine hKK.out _ _ h2o (fun _ => ?_)
  clear hKK KK
  try simp only [tk0, tk1, tk2, tk3, tk4]
  refine take_dst 20 23 (.bool (decide (a + 1 ≤ p.regs))) rfl (by kernel_rfl) (by kernel_rfl) (by kernel_rfl) (fun _ _ _ h => h) (Or.inl ⟨by rfl, by intro wv hSv; unfold OldS at hSv; go_simp⟩) h2o rfl ?_
  try simp only [tk0, tk1, tk2, tk3, tk4]
  refine take_dst 21 24 (.bool (decide (a + 1 ≤ p.regs))) rfl (by kernel_rfl) (by kernel_rfl) (by kernel_rfl) (fun _ _ _ h => h) (Or.inl ⟨by rfl, by intro wv hSv; unfold OldS at hSv; go_simp⟩) h2o rfl ?_
  try simp only [tk0, tk1, tk2, tk3, tk4]
  refine take_dst 22 2 (.bool (decide (a + 1 ≤ p.regs))) rfl (by kernel_rfl) (by kernel_rfl) (by kernel_rfl) (fun _ _ _ h => h) (Or.inl ⟨by rfl, by intro wv hSv; unfold OldS at hSv; go_simp⟩) h2o rfl ?_
  try simp only [tk0, tk1, tk2, tk3, tk4]
  have bF := bw.trans (b2.mono bw.size)
  clear b2 h2o
  refine wpAnyH_done (by kernel_rfl) ?_ _
  clear hH hd r0 r1 r2 r3 r4 r5 r6 r7 p1 p2 p3 p4 p5 p6
  go_wp2_with fail
  go_ret
  exact ⟨⟨_, rfl, decide_eq_true_iff⟩, bF⟩
theorem regs_regsOfLoop (w : World) (pb po B uo : Nat) (pc : Int) (n : Nat) (a b c s : Int) (p : PD) (a3 a4 a5 : Value) (hP : PtrP w pb po p a3 a4 a5) (hU : UsO w B uo) (hB : B < w.heap.size) (hn : n ≤ 33) (hf5 : usC n 5 = .func (.func 91) #[] #[]) (a1 : 0 ≤ a) (a2 : a ≤ 255) (b1 : 0 ≤ b) (b2 : b ≤ 511) (c1 : 0 ≤ c) (c2 : c ≤ 511) (s1 : -1000000 ≤ s) (s2 : s ≤ 1000000) :
    Calls Tryz.prog 111 #[plN pb po B uo pc n a b c s] w fun e w' => Says e (a + 4 ≤ p.regs) ∧ Below w.heap.size w w' := by
  have hU9 := hU n
  have t5 : w.cell? ⟨B, uo + n * 10 + 5, none⟩ = some (.func (.func 91) #[] #[]) := by rw [← hf5]; exact hU n 5 (by omega) (by omega)
  clear hU9
  go_enter Tryz.func111, Tryz.ntmps111
  go_wp2_with fail
  have R0 := RowL.new w [.pointer (some ⟨pb, po, none⟩), .pointer (some ⟨B, uo + n * 10, none⟩), .int .i64 pc, .int .i64 (n : Int), .int .i64 a, .int .i64 b, .int .i64 c, .int .i64 s] 150
  have bw : Below w.heap.size w (w.alloc (.cells #[.pointer (some ⟨pb, po, none⟩), .pointer (some ⟨B, uo + n * 10, none⟩), .int .i64 pc, .int .i64 (n : Int), .int .i64 a, .int .i64 b, .int .i64 c, .int .i64 s] 150)) := (Below.refl _ _).alloc (Nat.le_refl _) _
  generalize w.alloc (.cells #[.pointer (some ⟨pb, po, none⟩), .pointer (some ⟨B, uo + n * 10, none⟩), .int .i64 pc, .int .i64 (n : Int), .int .i64 a, .int .i64 b, .int .i64 c, .int .i64 s] 150) = w0 at R0 bw ⊢
  have r0 := R0.cell 0 rfl
  have r1 := R0.cell 1 rfl
  have r2 := R0.cell 2 rfl
  have r3 := R0.cell 3 rfl
  have r4 := R0.cell 4 rfl
  have r5 := R0.cell 5 rfl
  have r6 := R0.cell 6 rfl
  have r7 := R0.cell 7 rfl
  have hl := R0.lt
  clear R0
  have hP0 := hP.later bw
  have p1 := hP0.c1
  have p2 := hP0.c2
  have p3 := hP0.c3
  have p4 := hP0.c4
  have p5 := hP0.c5
  have p6 := hP0.c6
  have hpb := hP0.lt
  have hB0 : B < w0.heap.size := Nat.lt_of_lt_of_le hB bw.size
  replace t5 := (bw.cell (p := ⟨B, uo + n * 10 + 5, none⟩) hB).trans t5
  replace hP0 : Hid _ := hP0
  replace hP : Hid _ := hP
  replace hU : Hid _ := hU
  clear hf5
  have hd : OldS w0 w0.drew := OldS.of (Below.refl _ _).drew
  refine wp_region_held_drew (S := OldS w0) (by kernel_rfl) hd (fun hH => ?_)
  refine take_dst 0 3 (.pointer (some ⟨w.heap.size, 1, none⟩)) rfl (by kernel_rfl) (by kernel_rfl) (by kernel_rfl) (fun _ _ _ h => h) (Or.inl ⟨by rfl, by intro wv hSv; unfold OldS at hSv; go_simp⟩) hd rfl ?_
  try simp only [tk0, tk1, tk2, tk3, tk4]
  refine take_dst 1 4 (.pointer (some ⟨B, uo + n * 10, none⟩)) rfl (by kernel_rfl) (by kernel_rfl) (by kernel_rfl) (fun _ _ _ h => h) (Or.inl ⟨by rfl, by intro wv hSv; unfold OldS at hSv; go_simp⟩) hd rfl ?_
  try simp only [tk0, tk1, tk2, tk3, tk4]
  refine take_dst 2 5 (.pointer (some ⟨B, uo + n * 10, none⟩)) rfl (by kernel_rfl) (by kernel_rfl) (by kernel_rfl) (fun _ _ _ h => h) (Or.inl ⟨by rfl, by intro wv hSv; unfold OldS at hSv; go_simp⟩) hd rfl ?_
  try simp only [tk0, tk1, tk2, tk3, tk4]
  refine take_dst 3 6 (.pointer (some ⟨B, uo + n * 10 + 5, none⟩)) rfl (by kernel_rfl) (by kernel_rfl) (by kernel_rfl) (fun _ _ _ h => h) (Or.inl ⟨by rfl, by intro wv hSv; unfold OldS at hSv; go_simp⟩) hd rfl ?_
  try simp only [tk0, tk1, tk2, tk3, tk4]
  refine take_dst 4 7 (.func (.func 91) #[] #[]) rfl (by kernel_rfl) (by kernel_rfl) (by kernel_rfl) (fun _ _ _ h => h) (Or.inl ⟨by rfl, by intro wv hSv; unfold OldS at hSv; go_simp⟩) hd rfl ?_
  try simp only [tk0, tk1, tk2, tk3, tk4]
  refine take_dst 5 8 (.bool false) rfl (by kernel_rfl) (by kernel_rfl) (by kernel_rfl) (fun _ _ _ h => h) (Or.inl ⟨by rfl, by intro wv hSv; unfold OldS at hSv; go_simp⟩) hd rfl ?_
  try simp only [tk0, tk1, tk2, tk3, tk4]
  refine take_dst 6 9 (.bool false) rfl (by kernel_rfl) (by kernel_rfl) (by kernel_rfl) (fun _ _ _ h => h) (Or.inl ⟨by rfl, by intro wv hSv; unfold OldS at hSv; go_simp⟩) hd rfl ?_
  try simp only [tk0, tk1, tk2, tk3, tk4]
  refine take_dst 7 10 (.pointer (some ⟨w.heap.size, 1, none⟩)) rfl (by kernel_rfl) (by kernel_rfl) (by kernel_rfl) (fun _ _ _ h => h) (Or.inl ⟨by rfl, by intro wv hSv; unfold OldS at hSv; go_simp⟩) hd rfl ?_
  try simp only [tk0, tk1, tk2, tk3, tk4]
  refine take_dst 8 11 (.pointer (some ⟨B, uo + n * 10, none⟩)) rfl (by kernel_rfl) (by kernel_rfl) (by kernel_rfl) (fun _ _ _ h => h) (Or.inl ⟨by rfl, by intro wv hSv; unfold OldS at hSv; go_simp⟩) hd rfl ?_
  try simp only [tk0, tk1, tk2, tk3, tk4]
  refine take_dst 9 12 (.pointer (some ⟨B, uo + n * 10, none⟩)) rfl (by kernel_rfl) (by kernel_rfl) (by kernel_rfl) (fun _ _ _ h => h) (Or.inl ⟨by rfl, by intro wv hSv; unfold OldS at hSv; go_simp⟩) hd rfl ?_
  try simp only [tk0, tk1, tk2, tk3, tk4]
  refine take_dst 10 13 (.pointer (some ⟨B, uo + n * 10 + 5, none⟩)) rfl (by kernel_rfl) (by kernel_rfl) (by kernel_rfl) (fun _ _ _ h => h) (Or.inl ⟨by rfl, by intro wv hSv; unfold OldS at hSv; go_simp⟩) hd rfl ?_
  try simp only [tk0, tk1, tk2, tk3, tk4]
  refine take_dst 11 14 (.func (.func 91) #[] #[]) rfl (by kernel_rfl) (by kernel_rfl) (by kernel_rfl) (fun _ _ _ h => h) (Or.inl ⟨by rfl, by intro wv hSv; unfold OldS at hSv; go_simp⟩) hd rfl ?_
  try simp only [tk0, tk1, tk2, tk3, tk4]
  refine take_dst 12 15 (.pointer (some ⟨w.heap.size, 3, none⟩)) rfl (by kernel_rfl) (by kernel_rfl) (by kernel_rfl) (fun _ _ _ h => h) (Or.inl ⟨by rfl, by intro wv hSv; unfold OldS at hSv; go_simp⟩) hd rfl ?_
  try simp only [tk0, tk1, tk2, tk3, tk4]
  refine take_dst 13 16 (.agg #[.int .i64 (n : Int), .int .i64 a, .int .i64 b, .int .i64 c, .int .i64 s]) rfl (by kernel_rfl) (by kernel_rfl) (by kernel_rfl) (fun _ _ _ h => h) (Or.inl ⟨by rfl, by intro wv hSv; unfold OldS at hSv; go_simp⟩) hd rfl ?_
  try simp only [tk0, tk1, tk2, tk3, tk4]
  refine take_dst 15 18 (.pointer (some ⟨w.heap.size, 0, none⟩)) rfl (by kernel_rfl) (by kernel_rfl) (by kernel_rfl) (fun _ _ _ h => h) (Or.inl ⟨by rfl, by intro wv hSv; unfold OldS at hSv; go_simp⟩) hd rfl ?_
  try simp only [tk0, tk1, tk2, tk3, tk4]
  refine take_dst 16 19 (.pointer (some ⟨pb, po, none⟩)) rfl (by kernel_rfl) (by kernel_rfl) (by kernel_rfl) (fun _ _ _ h => h) (Or.inl ⟨by rfl, by intro wv hSv; unfold OldS at hSv; go_simp⟩) hd rfl ?_
  try simp only [tk0, tk1, tk2, tk3, tk4]
  refine take_dst 17 20 (.pointer (some ⟨pb, po, none⟩)) rfl (by kernel_rfl) (by kernel_rfl) (by kernel_rfl) (fun _ _ _ h => h) (Or.inl ⟨by rfl, by intro wv hSv; unfold OldS at hSv; go_simp⟩) hd rfl ?_
  try simp only [tk0, tk1, tk2, tk3, tk4]
  refine take_dst 18 21 (.pointer (some ⟨pb, po + 2, none⟩)) rfl (by kernel_rfl) (by kernel_rfl) (by kernel_rfl) (fun _ _ _ h => h) (Or.inl ⟨by rfl, by intro wv hSv; unfold OldS at hSv; go_simp⟩) hd rfl ?_
  try simp only [tk0, tk1, tk2, tk3, tk4]
  refine take_dst 19 22 (.int .i64 p.regs) rfl (by kernel_rfl) (by kernel_rfl) (by kernel_rfl) (fun _ _ _ h => h) (Or.inl ⟨by rfl, by intro wv hSv; unfold OldS at hSv; go_simp⟩) hd rfl ?_
  try simp only [tk0, tk1, tk2, tk3, tk4]
  refine wpAnyH_ready (rs := [14]) (by kernel_rfl) (by simp) ?_
  refine AllReadyH.cons rfl (fun KK hKK => ?_) AllReadyH.nil
  go_simp
  refine (regsOfLoop_in (n : Int) a b c s _ a1 a2).mono ?_
  rintro e y2 ⟨rfl, b2⟩
  replace b2 : Below w0.heap.size w0 y2 := ⟨b2.os, b2.tape, b2.output, b2.size, b2.block⟩
  have h2o : OldS w0 y2 := OldS.of b2
  go_wp2_with fail
  refine hKK.out _ _ h2o (fun _ => ?_)
  clear hKK KK
  try simp only [tk0, tk1, tk2, tk3, tk4]
  refine take_dst 20 23 (.bool (decide (a + 4 ≤ p.regs))) rfl (by kernel_rfl) (by kernel_rfl) (by kernel_rfl) (fun _ _ _ h => h) (Or.inl ⟨by rfl, by intro wv hSv; unfold OldS at hSv; go_simp⟩) h2o rfl ?_
  try simp only [tk0, tk1, tk2, tk3, tk4]
  refine take_dst 21 24 (.bool (decide (a + 4 ≤ p.regs))) rfl (by kernel_rfl) (by kernel_rfl) (by kernel_rfl) (fun _ _ _ h => h) (Or.inl ⟨by rfl, by intro wv hSv; unfold OldS at hSv; go_simp⟩) h2o rfl ?_
  try simp only [tk0, tk1, tk2, tk3, tk4]
  refine take_dst 22 2 (.bool (decide (a + 4 ≤ p.regs))) rfl (by kernel_rfl) (by kernel_rfl) (by kernel_rfl) (fun _ _ _ h => h) (Or.inl ⟨by rfl, by intro wv hSv; unfold OldS at hSv; go_simp⟩) h2o rfl ?_
  try simp only [tk0, tk1, tk2, tk3, tk4]
  have bF := bw.trans (b2.mono bw.size)
  clear b2 h2o
  refine wpAnyH_done (by kernel_rfl) ?_ _
  clear hH hd r0 r1 r2 r3 r4 r5 r6 r7 p1 p2 p3 p4 p5 p6
  go_wp2_with fail
  go_ret
  exact ⟨⟨_, rfl, decide_eq_true_iff⟩, bF⟩
theorem regs_regsUpToB (w : World) (pb po B uo : Nat) (pc : Int) (n : Nat) (a b c s : Int) (p : PD) (a3 a4 a5 : Value) (hP : PtrP w pb po p a3 a4 a5) (hU : UsO w B uo) (hB : B < w.heap.size) (hn : n ≤ 33) (hf5 : usC n 5 = .func (.func 85) #[] #[]) (a1 : 0 ≤ a) (a2 : a ≤ 255) (b1 : 0 ≤ b) (b2 : b ≤ 511) (c1 : 0 ≤ c) (c2 : c ≤ 511) (s1 : -1000000 ≤ s) (s2 : s ≤ 1000000) :
    Calls Tryz.prog 111 #[plN pb po B uo pc n a b c s] w fun e w' => Says e (a + b + 1 ≤ p.regs) ∧ Below w.heap.size w w' := by
  have hU9 := hU n
  have t5 : w.cell? ⟨B, uo + n * 10 + 5, none⟩ = some (.func (.func 85) #[] #[]) := by rw [← hf5]; exact hU n 5 (by omega) (by omega)
  clear hU9
  go_enter Tryz.func111, Tryz.ntmps111
  go_wp2_with fail
  have R0 := RowL.new w [.pointer (some ⟨pb, po, none⟩), .pointer (some ⟨B, uo + n * 10, none⟩), .int .i64 pc, .int .i64 (n : Int), .int .i64 a, .int .i64 b, .int .i64 c, .int .i64 s] 150
  have bw : Below w.heap.size w (w.alloc (.cells #[.pointer (some ⟨pb, po, none⟩), .pointer (some ⟨B, uo + n * 10, none⟩), .int .i64 pc, .int .i64 (n : Int), .int .i64 a, .int .i64 b, .int .i64 c, .int .i64 s] 150)) := (Below.refl _ _).alloc (Nat.le_refl _) _
  generalize w.alloc (.cells #[.pointer (some ⟨pb, po, none⟩), .pointer (some ⟨B, uo + n * 10, none⟩), .int .i64 pc, .int .i64 (n : Int), .int .i64 a, .int .i64 b, .int .i64 c, .int .i64 s] 150) = w0 at R0 bw ⊢
  have r0 := R0.cell 0 rfl
  have r1 := R0.cell 1 rfl
  have r2 := R0.cell 2 rfl
  have r3 := R0.cell 3 rfl
  have r4 := R0.cell 4 rfl
  have r5 := R0.cell 5 rfl
  have r6 := R0.cell 6 rfl
  have r7 := R0.cell 7 rfl
  have hl := R0.lt
  clear R0
  have hP0 := hP.later bw
  have p1 := hP0.c1
  have p2 := hP0.c2
  have p3 := hP0.c3
  have p4 := hP0.c4
  have p5 := hP0.c5
  have p6 := hP0.c6
  have hpb := hP0.lt
  have hB0 : B < w0.heap.size := Nat.lt_of_lt_of_le hB bw.size
  replace t5 := (bw.cell (p := ⟨B, uo + n * 10 + 5, none⟩) hB).trans t5
  replace hP0 : Hid _ := hP0
  replace hP : Hid _ := hP
  replace hU : Hid _ := hU
  clear hf5
  have hd : OldS w0 w0.drew := OldS.of (Below.refl _ _).drew
  refine wp_region_held_drew (S := OldS w0) (by kernel_rfl) hd (fun hH => ?_)
  refine take_dst 0 3 (.pointer (some ⟨w.heap.size, 1, none⟩)) rfl (by kernel_rfl) (by kernel_rfl) (by kernel_rfl) (fun _ _ _ h => h) (Or.inl ⟨by rfl, by intro wv hSv; unfold OldS at hSv; go_simp⟩) hd rfl ?_
  try simp only [tk0, tk1, tk2, tk3, tk4]
  refine take_dst 1 4 (.pointer (some ⟨B, uo + n * 10, none⟩)) rfl (by kernel_rfl) (by kernel_rfl) (by kernel_rfl) (fun _ _ _ h => h) (Or.inl ⟨by rfl, by intro wv hSv; unfold OldS at hSv; go_simp⟩) hd rfl ?_
  try simp only [tk0, tk1, tk2, tk3, tk4]
  refine take_dst 2 5 (.pointer (some ⟨B, uo + n * 10, none⟩)) rfl (by kernel_rfl) (by kernel_rfl) (by kernel_rfl) (fun _ _ _ h => h) (Or.inl ⟨by rfl, by intro wv hSv; unfold OldS at hSv; go_simp⟩) hd rfl ?_
  try simp only [tk0, tk1, tk2, tk3, tk4]
  refine take_dst 3 6 (.pointer (some ⟨B, uo + n * 10 + 5, none⟩)) rfl (by kernel_rfl) (by kernel_rfl) (by kernel_rfl) (fun _ _ _ h => h) (Or.inl ⟨by rfl, by intro wv hSv; unfold OldS at hSv; go_simp⟩) hd rfl ?_
  try simp only [tk0, tk1, tk2, tk3, tk4]
  refine take_dst 4 7 (.func (.func 85) #[] #[]) rfl (by kernel_rfl) (by kernel_rfl) (by kernel_rfl) (fun _ _ _ h => h) (Or.inl ⟨by rfl, by intro wv hSv; unfold OldS at hSv; go_simp⟩) hd rfl ?_
  try simp only [tk0, tk1, tk2, tk3, tk4]
  refine take_dst 5 8 (.bool false) rfl (by kernel_rfl) (by kernel_rfl) (by kernel_rfl) (fun _ _ _ h => h) (Or.inl ⟨by rfl, by intro wv hSv; unfold OldS at hSv; go_simp⟩) hd rfl ?_
  try simp only [tk0, tk1, tk2, tk3, tk4]
  refine take_dst 6 9 (.bool false) rfl (by kernel_rfl) (by kernel_rfl) (by kernel_rfl) (fun _ _ _ h => h) (Or.inl ⟨by rfl, by intro wv hSv; unfold OldS at hSv; go_simp⟩) hd rfl ?_
  try simp only [tk0, tk1, tk2, tk3, tk4]
  refine take_dst 7 10 (.pointer (some ⟨w.heap.size, 1, none⟩)) rfl (by kernel_rfl) (by kernel_rfl) (by kernel_rfl) (fun _ _ _ h => h) (Or.inl ⟨by rfl, by intro wv hSv; unfold OldS at hSv; go_simp⟩) hd rfl ?_
  try simp only [tk0, tk1, tk2, tk3, tk4]
  refine take_dst 8 11 (.pointer (some ⟨B, uo + n * 10, none⟩)) rfl (by kernel_rfl) (by kernel_rfl) (by kernel_rfl) (fun _ _ _ h => h) (Or.inl ⟨by rfl, by intro wv hSv; unfold OldS at hSv; go_simp⟩) hd rfl ?_
  try simp only [tk0, tk1, tk2, tk3, tk4]
  refine take_dst 9 12 (.pointer (some ⟨B, uo + n * 10, none⟩)) rfl (by kernel_rfl) (by kernel_rfl) (by kernel_rfl) (fun _ _ _ h => h) (Or.inl ⟨by rfl, by intro wv hSv; unfold OldS at hSv; go_simp⟩) hd rfl ?_
  try simp only [tk0, tk1, tk2, tk3, tk4]
  refine take_dst 10 13 (.pointer (some ⟨B, uo + n * 10 + 5, none⟩)) rfl (by kernel_rfl) (by kernel_rfl) (by kernel_rfl) (fun _ _ _ h => h) (Or.inl ⟨by rfl, by intro wv hSv; unfold OldS at hSv; go_simp⟩) hd rfl ?_
  try simp only [tk0, tk1, tk2, tk3, tk4]
  refine take_dst 11 14 (.func (.func 85) #[] #[]) rfl (by kernel_rfl) (by kernel_rfl) (by kernel_rfl) (fun _ _ _ h => h) (Or.inl ⟨by rfl, by intro wv hSv; unfold OldS at hSv; go_simp⟩) hd rfl ?_
  try simp only [tk0, tk1, tk2, tk3, tk4]
  refine take_dst 12 15 (.pointer (some ⟨w.heap.size, 3, none⟩)) rfl (by kernel_rfl) (by kernel_rfl) (by kernel_rfl) (fun _ _ _ h => h) (Or.inl ⟨by rfl, by intro wv hSv; unfold OldS at hSv; go_simp⟩) hd rfl ?_
  try simp only [tk0, tk1, tk2, tk3, tk4]
  refine take_dst 13 16 (.agg #[.int .i64 (n : Int), .int .i64 a, .int .i64 b, .int .i64 c, .int .i64 s]) rfl (by kernel_rfl) (by kernel_rfl) (by kernel_rfl) (fun _ _ _ h => h) (Or.inl ⟨by rfl, by intro wv hSv; unfold OldS at hSv; go_simp⟩) hd rfl ?_
  try simp only [tk0, tk1, tk2, tk3, tk4]
  refine take_dst 15 18 (.pointer (some ⟨w.heap.size, 0, none⟩)) rfl (by kernel_rfl) (by kernel_rfl) (by kernel_rfl) (fun _ _ _ h => h) (Or.inl ⟨by rfl, by intro wv hSv; unfold OldS at hSv; go_simp⟩) hd rfl ?_
  try simp only [tk0, tk1, tk2, tk3, tk4]
  refine take_dst 16 19 (.pointer (some ⟨pb, po, none⟩)) rfl (by kernel_rfl) (by kernel_rfl) (by kernel_rfl) (fun _ _ _ h => h) (Or.inl ⟨by rfl, by intro wv hSv; unfold OldS at hSv; go_simp⟩) hd rfl ?_
  try simp only [tk0, tk1, tk2, tk3, tk4]
  refine take_dst 17 20 (.pointer (some ⟨pb, po, none⟩)) rfl (by kernel_rfl) (by kernel_rfl) (by kernel_rfl) (fun _ _ _ h => h) (Or.inl ⟨by rfl, by intro wv hSv; unfold OldS at hSv; go_simp⟩) hd rfl ?_
  try simp only [tk0, tk1, tk2, tk3, tk4]
  refine take_dst 18 21 (.pointer (some ⟨pb, po + 2, none⟩)) rfl (by kernel_rfl) (by kernel_rfl) (by kernel_rfl) (fun _ _ _ h => h) (Or.inl ⟨by rfl, by intro wv hSv; unfold OldS at hSv; go_simp⟩) hd rfl ?_
  try simp only [tk0, tk1, tk2, tk3, tk4]
  refine take_dst 19 22 (.int .i64 p.regs) rfl (by kernel_rfl) (by kernel_rfl) (by kernel_rfl) (fun _ _ _ h => h) (Or.inl ⟨by rfl, by intro wv hSv; unfold OldS at hSv; go_simp⟩) hd rfl ?_
  try simp only [tk0, tk1, tk2, tk3, tk4]
  refine wpAnyH_ready (rs := [14]) (by kernel_rfl) (by simp) ?_
  refine AllReadyH.cons rfl (fun KK hKK => ?_) AllReadyH.nil
  go_simp
  refine (regsUpToB_in (n : Int) a b c s _ a1 a2 b1 b2).mono ?_
  rintro e y2 ⟨rfl, b2⟩
  replace b2 : Below w0.heap.size w0 y2 := ⟨b2.os, b2.tape, b2.output, b2.size, b2.block⟩
  have h2o : OldS w0 y2 := OldS.of b2
  go_wp2_with fail
  refine hKK.out _ _ h2o (fun _ => ?_)
  clear hKK KK
  try simp only [tk0, tk1, tk2, tk3, tk4]
  refine take_dst 20 23 (.bool (decide (a + b + 1 ≤ p.regs))) rfl (by kernel_rfl) (by kernel_rfl) (by kernel_rfl) (fun _ _ _ h => h) (Or.inl ⟨by rfl, by intro wv hSv; unfold OldS at hSv; go_simp⟩) h2o rfl ?_
  try simp only [tk0, tk1, tk2, tk3, tk4]
  refine take_dst 21 24 (.bool (decide (a + b + 1 ≤ p.regs))) rfl (by kernel_rfl) (by kernel_rfl) (by kernel_rfl) (fun _ _ _ h => h) (Or.inl ⟨by rfl, by intro wv hSv; unfold OldS at hSv; go_simp⟩) h2o rfl ?_
  try simp only [tk0, tk1, tk2, tk3, tk4]
  refine take_dst 22 2 (.bool (decide (a + b + 1 ≤ p.regs))) rfl (by kernel_rfl) (by kernel_rfl) (by kernel_rfl) (fun _ _ _ h => h) (Or.inl ⟨by rfl, by intro wv hSv; unfold OldS at hSv; go_simp⟩) h2o rfl ?_
  try simp only [tk0, tk1, tk2, tk3, tk4]
  have bF := bw.trans (b2.mono bw.size)
  clear b2 h2o
  refine wpAnyH_done (by kernel_rfl) ?_ _
  clear hH hd r0 r1 r2 r3 r4 r5 r6 r7 p1 p2 p3 p4 p5 p6
  go_wp2_with fail
  go_ret
  exact ⟨⟨_, rfl, decide_eq_true_iff⟩, bF⟩
theorem regs_regsAB (w : World) (pb po B uo : Nat) (pc : Int) (n : Nat) (a b c s : Int) (p : PD) (a3 a4 a5 : Value) (hP : PtrP w pb po p a3 a4 a5) (hU : UsO w B uo) (hB : B < w.heap.size) (hn : n ≤ 33) (hf5 : usC n 5 = .func (.func 77) #[] #[]) (a1 : 0 ≤ a) (a2 : a ≤ 255) (b1 : 0 ≤ b) (b2 : b ≤ 511) (c1 : 0 ≤ c) (c2 : c ≤ 511) (s1 : -1000000 ≤ s) (s2 : s ≤ 1000000) :
    Calls Tryz.prog 111 #[plN pb po B uo pc n a b c s] w fun e w' => Says e (max a b + 1 ≤ p.regs) ∧ Below w.heap.size w w' := by
  have hU9 := hU n
  have t5 : w.cell? ⟨B, uo + n * 10 + 5, none⟩ = some (.func (.func 77) #[] #[]) := by rw [← hf5]; exact hU n 5 (by omega) (by omega)
  clear hU9
  go_enter Tryz.func111, Tryz.ntmps111
  go_wp2_with fail
  have R0 := RowL.new w [.pointer (some ⟨pb, po, none⟩), .pointer (some ⟨B, uo + n * 10, none⟩), .int .i64 pc, .int .i64 (n : Int), .int .i64 a, .int .i64 b, .int .i64 c, .int .i64 s] 150
  have bw : Below w.heap.size w (w.alloc (.cells #[.pointer (some ⟨pb, po, none⟩), .pointer (some ⟨B, uo + n * 10, none⟩), .int .i64 pc, .int .i64 (n : Int), .int .i64 a, .int .i64 b, .int .i64 c, .int .i64 s] 150)) := (Below.refl _ _).alloc (Nat.le_refl _) _
  generalize w.alloc (.cells #[.pointer (some ⟨pb, po, none⟩), .pointer (some ⟨B, uo + n * 10, none⟩), .int .i64 pc, .int .i64 (n : Int), .int .i64 a, .int .i64 b, .int .i64 c, .int .i64 s] 150) = w0 at R0 bw ⊢
  have r0 := R0.cell 0 rfl
  have r1 := R0.cell 1 rfl
  have r2 := R0.cell 2 rfl
  have r3 := R0.cell 3 rfl
  have r4 := R0.cell 4 rfl
  have r5 := R0.cell 5 rfl
  have r6 := R0.cell 6 rfl
  have r7 := R0.cell 7 rfl
  have hl := R0.lt
  clear R0
  have hP0 := hP.later bw
  have p1 := hP0.c1
  have p2 := hP0.c2
  have p3 := hP0.c3
  have p4 := hP0.c4
  have p5 := hP0.c5
  have p6 := hP0.c6
  have hpb := hP0.lt
  have hB0 : B < w0.heap.size := Nat.lt_of_lt_of_le hB bw.size
  replace t5 := (bw.cell (p := ⟨B, uo + n * 10 + 5, none⟩) hB).trans t5
  replace hP0 : Hid _ := hP0
  replace hP : Hid _ := hP
  replace hU : Hid _ := hU
  clear hf5
  have hd : OldS w0 w0.drew := OldS.of (Below.refl _ _).drew
  refine wp_region_held_drew (S := OldS w0) (by kernel_rfl) hd (fun hH => ?_)
  refine take_dst 0 3 (.pointer (some ⟨w.heap.size, 1, none⟩)) rfl (by kernel_rfl) (by kernel_rfl) (by kernel_rfl) (fun _ _ _ h => h) (Or.inl ⟨by rfl, by intro wv hSv; unfold OldS at hSv; go_simp⟩) hd rfl ?_
  try simp only [tk0, tk1, tk2, tk3, tk4]
  refine take_dst 1 4 (.pointer (some ⟨B, uo + n * 10, none⟩)) rfl (by kernel_rfl) (by kernel_rfl) (by kernel_rfl) (fun _ _ _ h => h) (Or.inl ⟨by rfl, by intro wv hSv; unfold OldS at hSv; go_simp⟩) hd rfl ?_
  try simp only [tk0, tk1, tk2, tk3, tk4]
  refine take_dst 2 5 (.pointer (some ⟨B, uo + n * 10, none⟩)) rfl (by kernel_rfl) (by kernel_rfl) (by kernel_rfl) (fun _ _ _ h => h) (Or.inl ⟨by rfl, by intro wv hSv; unfold OldS at hSv; go_simp⟩) hd rfl ?_
  try simp only [tk0, tk1, tk2, tk3, tk4]
  refine take_dst 3 6 (.pointer (some ⟨B, uo + n * 10 + 5, none⟩)) rfl (by kernel_rfl) (by kernel_rfl) (by kernel_rfl) (fun _ _ _ h => h) (Or.inl ⟨by rfl, by intro wv hSv; unfold OldS at hSv; go_simp⟩) hd rfl ?_
  try simp only [tk0, tk1, tk2, tk3, tk4]
  refine take_dst 4 7 (.func (.func 77) #[] #[]) rfl (by kernel_rfl) (by kernel_rfl) (by kernel_rfl) (fun _ _ _ h => h) (Or.inl ⟨by rfl, by intro wv hSv; unfold OldS at hSv; go_simp⟩) hd rfl ?_
  try simp only [tk0, tk1, tk2, tk3, tk4]
  refine take_dst 5 8 (.bool false) rfl (by kernel_rfl) (by kernel_rfl) (by kernel_rfl) (fun _ _ _ h => h) (Or.inl ⟨by rfl, by intro wv hSv; unfold OldS at hSv; go_simp⟩) hd rfl ?_
  try simp only [tk0, tk1, tk2, tk3, tk4]
  refine take_dst 6 9 (.bool false) rfl (by kernel_rfl) (by kernel_rfl) (by kernel_rfl) (fun _ _ _ h => h) (Or.inl ⟨by rfl, by intro wv hSv; unfold OldS at hSv; go_simp⟩) hd rfl ?_
  try simp only [tk0, tk1, tk2, tk3, tk4]
  refine take_dst 7 10 (.pointer (some ⟨w.heap.size, 1, none⟩)) rfl (by kernel_rfl) (by kernel_rfl) (by kernel_rfl) (fun _ _ _ h => h) (Or.inl ⟨by rfl, by intro wv hSv; unfold OldS at hSv; go_simp⟩) hd rfl ?_
  try simp only [tk0, tk1, tk2, tk3, tk4]
  refine take_dst 8 11 (.pointer (some ⟨B, uo + n * 10, none⟩)) rfl (by kernel_rfl) (by kernel_rfl) (by kernel_rfl) (fun _ _ _ h => h) (Or.inl ⟨by rfl, by intro wv hSv; unfold OldS at hSv; go_simp⟩) hd rfl ?_
  try simp only [tk0, tk1, tk2, tk3, tk4]
  refine take_dst 9 12 (.pointer (some ⟨B, uo + n * 10, none⟩)) rfl (by kernel_rfl) (by kernel_rfl) (by kernel_rfl) (fun _ _ _ h => h) (Or.inl ⟨by rfl, by intro wv hSv; unfold OldS at hSv; go_simp⟩) hd rfl ?_
  try simp only [tk0, tk1, tk2, tk3, tk4]
  refine take_dst 10 13 (.pointer (some ⟨B, uo + n * 10 + 5, none⟩)) rfl (by kernel_rfl) (by kernel_rfl) (by kernel_rfl) (fun _ _ _ h => h) (Or.inl ⟨by rfl, by intro wv hSv; unfold OldS at hSv; go_simp⟩) hd rfl ?_
  try simp only [tk0, tk1, tk2, tk3, tk4]
  refine take_dst 11 14 (.func (.func 77) #[] #[]) rfl (by kernel_rfl) (by kernel_rfl) (by kernel_rfl) (fun _ _ _ h => h) (Or.inl ⟨by rfl, by intro wv hSv; unfold OldS at hSv; go_simp⟩) hd rfl ?_
  try simp only [tk0, tk1, tk2, tk3, tk4]
  refine take_dst 12 15 (.pointer (some ⟨w.heap.size, 3, none⟩)) rfl (by kernel_rfl) (by kernel_rfl) (by kernel_rfl) (fun _ _ _ h => h) (Or.inl ⟨by rfl, by intro wv hSv; unfold OldS at hSv; go_simp⟩) hd rfl ?_
  try simp only [tk0, tk1, tk2, tk3, tk4]
  refine take_dst 13 16 (.agg #[.int .i64 (n : Int), .int .i64 a, .int .i64 b, .int .i64 c, .int .i64 s]) rfl (by kernel_rfl) (by kernel_rfl) (by kernel_rfl) (fun _ _ _ h => h) (Or.inl ⟨by rfl, by intro wv hSv; unfold OldS at hSv; go_simp⟩) hd rfl ?_
  try simp only [tk0, tk1, tk2, tk3, tk4]
  refine take_dst 15 18 (.pointer (some ⟨w.heap.size, 0, none⟩)) rfl (by kernel_rfl) (by kernel_rfl) (by kernel_rfl) (fun _ _ _ h => h) (Or.inl ⟨by rfl, by intro wv hSv; unfold OldS at hSv; go_simp⟩) hd rfl ?_
  try simp only [tk0, tk1, tk2, tk3, tk4]
  refine take_dst 16 19 (.pointer (some ⟨pb, po, none⟩)) rfl (by kernel_rfl) (by kernel_rfl) (by kernel_rfl) (fun _ _ _ h => h) (Or.inl ⟨by rfl, by intro wv hSv; unfold OldS at hSv; go_simp⟩) hd rfl ?_
  try simp only [tk0, tk1, tk2, tk3, tk4]
  refine take_dst 17 20 (.pointer (some ⟨pb, po, none⟩)) rfl (by kernel_rfl) (by kernel_rfl) (by kernel_rfl) (fun _ _ _ h => h) (Or.inl ⟨by rfl, by intro wv hSv; unfold OldS at hSv; go_simp⟩) hd rfl ?_
  try simp only [tk0, tk1, tk2, tk3, tk4]
  refine take_dst 18 21 (.pointer (some ⟨pb, po + 2, none⟩)) rfl (by kernel_rfl) (by kernel_rfl) (by kernel_rfl) (fun _ _ _ h => h) (Or.inl ⟨by rfl, by intro wv hSv; unfold OldS at hSv; go_simp⟩) hd rfl ?_
  try simp only [tk0, tk1, tk2, tk3, tk4]
  refine take_dst 19 22 (.int .i64 p.regs) rfl (by kernel_rfl) (by kernel_rfl) (by kernel_rfl) (fun _ _ _ h => h) (Or.inl ⟨by rfl, by intro wv hSv; unfold OldS at hSv; go_simp⟩) hd rfl ?_
  try simp only [tk0, tk1, tk2, tk3, tk4]
  refine wpAnyH_ready (rs := [14]) (by kernel_rfl) (by simp) ?_
  refine AllReadyH.cons rfl (fun KK hKK => ?_) AllReadyH.nil
  go_simp
  refine (regsAB_in (n : Int) a b c s _ a1 a2 b1 b2).mono ?_
  rintro e y2 ⟨rfl, b2⟩
  replace b2 : Below w0.heap.size w0 y2 := ⟨b2.os, b2.tape, b2.output, b2.size, b2.block⟩
  have h2o : OldS w0 y2 := OldS.of b2
  go_wp2_with fail
  refine hKK.out _ _ h2o (fun _ => ?_)
  clear hKK KK
  try simp only [tk0, tk1, tk2, tk3, tk4]
  refine take_dst 20 23 (.bool (decide (max a b + 1 ≤ p.regs))) rfl (by kernel_rfl) (by kernel_rfl) (by kernel_rfl) (fun _ _ _ h => h) (Or.inl ⟨by rfl, by intro wv hSv; unfold OldS at hSv; go_simp⟩) h2o rfl ?_
  try simp only [tk0, tk1, tk2, tk3, tk4]
  refine take_dst 21 24 (.bool (decide (max a b + 1 ≤ p.regs))) rfl (by kernel_rfl) (by kernel_rfl) (by kernel_rfl) (fun _ _ _ h => h) (Or.inl ⟨by rfl, by intro wv hSv; unfold OldS at hSv; go_simp⟩) h2o rfl ?_
  try simp only [tk0, tk1, tk2, tk3, tk4]
  refine take_dst 22 2 (.bool (decide (max a b + 1 ≤ p.regs))) rfl (by kernel_rfl) (by kernel_rfl) (by kernel_rfl) (fun _ _ _ h => h) (Or.inl ⟨by rfl, by intro wv hSv; unfold OldS at hSv; go_simp⟩) h2o rfl ?_
  try simp only [tk0, tk1, tk2, tk3, tk4]
  have bF := bw.trans (b2.mono bw.size)
  clear b2 h2o
  refine wpAnyH_done (by kernel_rfl) ?_ _
  clear hH hd r0 r1 r2 r3 r4 r5 r6 r7 p1 p2 p3 p4 p5 p6
  go_wp2_with fail
  go_ret
  exact ⟨⟨_, rfl, decide_eq_true_iff⟩, bF⟩
theorem regs_regsOfRow (w : World) (pb po B uo : Nat) (pc : Int) (n : Nat) (a b c s : Int) (p : PD) (a3 a4 a5 : Value) (hP : PtrP w pb po p a3 a4 a5) (hU : UsO w B uo) (hB : B < w.heap.size) (hn : n ≤ 33) (hf5 : usC n 5 = .func (.func 87) #[] #[]) (a1 : 0 ≤ a) (a2 : a ≤ 255) (b1 : 0 ≤ b) (b2 : b ≤ 511) (c1 : 0 ≤ c) (c2 : c ≤ 511) (s1 : -1000000 ≤ s) (s2 : s ≤ 1000000) :
    Calls Tryz.prog 111 #[plN pb po B uo pc n a b c s] w fun e w' => Says e (a + max 1 (rsz b) ≤ p.regs) ∧ Below w.heap.size w w' := by
  have hU9 := hU n
  have t5 : w.cell? ⟨B, uo + n * 10 + 5, none⟩ = some (.func (.func 87) #[] #[]) := by rw [← hf5]; exact hU n 5 (by omega) (by omega)
  clear hU9
  go_enter Tryz.func111, Tryz.ntmps111
  go_wp2_with fail
  have R0 := RowL.new w [.pointer (some ⟨pb, po, none⟩), .pointer (some ⟨B, uo + n * 10, none⟩), .int .i64 pc, .int .i64 (n : Int), .int .i64 a, .int .i64 b, .int .i64 c, .int .i64 s] 150
  have bw : Below w.heap.size w (w.alloc (.cells #[.pointer (some ⟨pb, po, none⟩), .pointer (some ⟨B, uo + n * 10, none⟩), .int .i64 pc, .int .i64 (n : Int), .int .i64 a, .int .i64 b, .int .i64 c, .int .i64 s] 150)) := (Below.refl _ _).alloc (Nat.le_refl _) _
  generalize w.alloc (.cells #[.pointer (some ⟨pb, po, none⟩), .pointer (some ⟨B, uo + n * 10, none⟩), .int .i64 pc, .int .i64 (n : Int), .int .i64 a, .int .i64 b, .int .i64 c, .int .i64 s] 150) = w0 at R0 bw ⊢
  have r0 := R0.cell 0 rfl
  have r1 := R0.cell 1 rfl
  have r2 := R0.cell 2 rfl
  have r3 := R0.cell 3 rfl
  have r4 := R0.cell 4 rfl
  have r5 := R0.cell 5 rfl
  have r6 := R0.cell 6 rfl
  have r7 := R0.cell 7 rfl
  have hl := R0.lt
  clear R0
  have hP0 := hP.later bw
  have p1 := hP0.c1
  have p2 := hP0.c2
  have p3 := hP0.c3
  have p4 := hP0.c4
  have p5 := hP0.c5
  have p6 := hP0.c6
  have hpb := hP0.lt
  have hB0 : B < w0.heap.size := Nat.lt_of_lt_of_le hB bw.size
  replace t5 := (bw.cell (p := ⟨B, uo + n * 10 + 5, none⟩) hB).trans t5
  replace hP0 : Hid _ := hP0
  replace hP : Hid _ := hP
  replace hU : Hid _ := hU
  clear hf5
  have hd : OldS w0 w0.drew := OldS.of (Below.refl _ _).drew
  refine wp_region_held_drew (S := OldS w0) (by kernel_rfl) hd (fun hH => ?_)
  refine take_dst 0 3 (.pointer (some ⟨w.heap.size, 1, none⟩)) rfl (by kernel_rfl) (by kernel_rfl) (by kernel_rfl) (fun _ _ _ h => h) (Or.inl ⟨by rfl, by intro wv hSv; unfold OldS at hSv; go_simp⟩) hd rfl ?_
  try simp only [tk0, tk1, tk2, tk3, tk4]
  refine take_dst 1 4 (.pointer (some ⟨B, uo + n * 10, none⟩)) rfl (by kernel_rfl) (by kernel_rfl) (by kernel_rfl) (fun _ _ _ h => h) (Or.inl ⟨by rfl, by intro wv hSv; unfold OldS at hSv; go_simp⟩) hd rfl ?_
  try simp only [tk0, tk1, tk2, tk3, tk4]
  refine take_dst 2 5 (.pointer (some ⟨B, uo + n * 10, none⟩)) rfl (by kernel_rfl) (by kernel_rfl) (by kernel_rfl) (fun _ _ _ h => h) (Or.inl ⟨by rfl, by intro wv hSv; unfold OldS at hSv; go_simp⟩) hd rfl ?_
  try simp only [tk0, tk1, tk2, tk3, tk4]
  refine take_dst 3 6 (.pointer (some ⟨B, uo + n * 10 + 5, none⟩)) rfl (by kernel_rfl) (by kernel_rfl) (by kernel_rfl) (fun _ _ _ h => h) (Or.inl ⟨by rfl, by intro wv hSv; unfold OldS at hSv; go_simp⟩) hd rfl ?_
  try simp only [tk0, tk1, tk2, tk3, tk4]
  refine take_dst 4 7 (.func (.func 87) #[] #[]) rfl (by kernel_rfl) (by kernel_rfl) (by kernel_rfl) (fun _ _ _ h => h) (Or.inl ⟨by rfl, by intro wv hSv; unfold OldS at hSv; go_simp⟩) hd rfl ?_
  try simp only [tk0, tk1, tk2, tk3, tk4]
  refine take_dst 5 8 (.bool false) rfl (by kernel_rfl) (by kernel_rfl) (by kernel_rfl) (fun _ _ _ h => h) (Or.inl ⟨by rfl, by intro wv hSv; unfold OldS at hSv; go_simp⟩) hd rfl ?_
  try simp only [tk0, tk1, tk2, tk3, tk4]
  refine take_dst 6 9 (.bool false) rfl (by kernel_rfl) (by kernel_rfl) (by kernel_rfl) (fun _ _ _ h => h) (Or.inl ⟨by rfl, by intro wv hSv; unfold OldS at hSv; go_simp⟩) hd rfl ?_
  try simp only [tk0, tk1, tk2, tk3, tk4]
  refine take_dst 7 10 (.pointer (some ⟨w.heap.size, 1, none⟩)) rfl (by kernel_rfl) (by kernel_rfl) (by kernel_rfl) (fun _ _ _ h => h) (Or.inl ⟨by rfl, by intro wv hSv; unfold OldS at hSv; go_simp⟩) hd rfl ?_
  try simp only [tk0, tk1, tk2, tk3, tk4]
  refine take_dst 8 11 (.pointer (some ⟨B, uo + n * 10, none⟩)) rfl (by kernel_rfl) (by kernel_rfl) (by kernel_rfl) (fun _ _ _ h => h) (Or.inl ⟨by rfl, by intro wv hSv; unfold OldS at hSv; go_simp⟩) hd rfl ?_
  try simp only [tk0, tk1, tk2, tk3, tk4]
  refine take_dst 9 12 (.pointer (some ⟨B, uo + n * 10, none⟩)) rfl (by kernel_rfl) (by kernel_rfl) (by kernel_rfl) (fun _ _ _ h => h) (Or.inl ⟨by rfl, by intro wv hSv; unfold OldS at hSv; go_simp⟩) hd rfl ?_
  try simp only [tk0, tk1, tk2, tk3, tk4]
  refine take_dst 10 13 (.pointer (some ⟨B, uo + n * 10 + 5, none⟩)) rfl (by kernel_rfl) (by kernel_rfl) (by kernel_rfl) (fun _ _ _ h => h) (Or.inl ⟨by rfl, by intro wv hSv; unfold OldS at hSv; go_simp⟩) hd rfl ?_
  try simp only [tk0, tk1, tk2, tk3, tk4]
  refine take_dst 11 14 (.func (.func 87) #[] #[]) rfl (by kernel_rfl) (by kernel_rfl) (by kernel_rfl) (fun _ _ _ h => h) (Or.inl ⟨by rfl, by intro wv hSv; unfold OldS at hSv; go_simp⟩) hd rfl ?_
  try simp only [tk0, tk1, tk2, tk3, tk4]
  refine take_dst 12 15 (.pointer (some ⟨w.heap.size, 3, none⟩)) rfl (by kernel_rfl) (by kernel_rfl) (by kernel_rfl) (fun _ _ _ h => h) (Or.inl ⟨by rfl, by intro wv hSv; unfold OldS at hSv; go_simp⟩) hd rfl ?_
  try simp only [tk0, tk1, tk2, tk3, tk4]
  refine take_dst 13 16 (.agg #[.int .i64 (n : Int), .int .i64 a, .int .i64 b, .int .i64 c, .int .i64 s]) rfl (by kernel_rfl) (by kernel_rfl) (by kernel_rfl) (fun _ _ _ h => h) (Or.inl ⟨by rfl, by intro wv hSv; unfold OldS at hSv; go_simp⟩) hd rfl ?_
  try simp only [tk0, tk1, tk2, tk3, tk4]
  refine take_dst 15 18 (.pointer (some ⟨w.heap.size, 0, none⟩)) rfl (by kernel_rfl) (by kernel_rfl) (by kernel_rfl) (fun _ _ _ h => h) (Or.inl ⟨by rfl, by intro wv hSv; unfold OldS at hSv; go_simp⟩) hd rfl ?_
  try simp only [tk0, tk1, tk2, tk3, tk4]
  refine take_dst 16 19 (.pointer (some ⟨pb, po, none⟩)) rfl (by kernel_rfl) (by kernel_rfl) (by kernel_rfl) (fun _ _ _ h => h) (Or.inl ⟨by rfl, by intro wv hSv; unfold OldS at hSv; go_simp⟩) hd rfl ?_
  try simp only [tk0, tk1, tk2, tk3, tk4]
  refine take_dst 17 20 (.pointer (some ⟨pb, po, none⟩)) rfl (by kernel_rfl) (by kernel_rfl) (by kernel_rfl) (fun _ _ _ h => h) (Or.inl ⟨by rfl, by intro wv hSv; unfold OldS at hSv; go_simp⟩) hd rfl ?_
  try simp only [tk0, tk1, tk2, tk3, tk4]
  refine take_dst 18 21 (.pointer (some ⟨pb, po + 2, none⟩)) rfl (by kernel_rfl) (by kernel_rfl) (by kernel_rfl) (fun _ _ _ h => h) (Or.inl ⟨by rfl, by intro wv hSv; unfold OldS at hSv; go_simp⟩) hd rfl ?_
  try simp only [tk0, tk1, tk2, tk3, tk4]
  refine take_dst 19 22 (.int .i64 p.regs) rfl (by kernel_rfl) (by kernel_rfl) (by kernel_rfl) (fun _ _ _ h => h) (Or.inl ⟨by rfl, by intro wv hSv; unfold OldS at hSv; go_simp⟩) hd rfl ?_
  try simp only [tk0, tk1, tk2, tk3, tk4]
  refine wpAnyH_ready (rs := [14]) (by kernel_rfl) (by simp) ?_
  refine AllReadyH.cons rfl (fun KK hKK => ?_) AllReadyH.nil
  go_simp
  refine (regsOfRow_in (n : Int) a b c s _ a1 a2 b1 b2).mono ?_
  rintro e y2 ⟨rfl, b2⟩
  replace b2 : Below w0.heap.size w0 y2 := ⟨b2.os, b2.tape, b2.output, b2.size, b2.block⟩
  have h2o : OldS w0 y2 := OldS.of b2
  go_wp2_with fail
  refine hKK.out _ _ h2o (fun _ => ?_)
  clear hKK KK
  try simp only [tk0, tk1, tk2, tk3, tk4]
  refine take_dst 20 23 (.bool (decide (a + max 1 (rsz b) ≤ p.regs))) rfl (by kernel_rfl) (by kernel_rfl) (by kernel_rfl) (fun _ _ _ h => h) (Or.inl ⟨by rfl, by intro wv hSv; unfold OldS at hSv; go_simp⟩) h2o rfl ?_
  try simp only [tk0, tk1, tk2, tk3, tk4]
  refine take_dst 21 24 (.bool (decide (a + max 1 (rsz b) ≤ p.regs))) rfl (by kernel_rfl) (by kernel_rfl) (by kernel_rfl) (fun _ _ _ h => h) (Or.inl ⟨by rfl, by intro wv hSv; unfold OldS at hSv; go_simp⟩) h2o rfl ?_
  try simp only [tk0, tk1, tk2, tk3, tk4]
  refine take_dst 22 2 (.bool (decide (a + max 1 (rsz b) ≤ p.regs))) rfl (by kernel_rfl) (by kernel_rfl) (by kernel_rfl) (fun _ _ _ h => h) (Or.inl ⟨by rfl, by intro wv hSv; unfold OldS at hSv; go_simp⟩) h2o rfl ?_
  try simp only [tk0, tk1, tk2, tk3, tk4]
  have bF := bw.trans (b2.mono bw.size)
  clear b2 h2o
  refine wpAnyH_done (by kernel_rfl) ?_ _
  clear hH hd r0 r1 r2 r3 r4 r5 r6 r7 p1 p2 p3 p4 p5 p6
  go_wp2_with fail
  go_ret
  exact ⟨⟨_, rfl, decide_eq_true_iff⟩, bF⟩
theorem regs_regsBC (w : World) (pb po B uo : Nat) (pc : Int) (n : Nat) (a b c s : Int) (p : PD) (a3 a4 a5 : Value) (hP : PtrP w pb po p a3 a4 a5) (hU : UsO w B uo) (hB : B < w.heap.size) (hn : n ≤ 33) (hf5 : usC n 5 = .func (.func 79) #[] #[]) (a1 : 0 ≤ a) (a2 : a ≤ 255) (b1 : 0 ≤ b) (b2 : b ≤ 511) (c1 : 0 ≤ c) (c2 : c ≤ 511) (s1 : -1000000 ≤ s) (s2 : s ≤ 1000000) :
    Calls Tryz.prog 111 #[plN pb po B uo pc n a b c s] w fun e w' => Says e (max b c + 1 ≤ p.regs) ∧ Below w.heap.size w w' := by
  have hU9 := hU n
  have t5 : w.cell? ⟨B, uo + n * 10 + 5, none⟩ = some (.func (.func 79) #[] #[]) := by rw [← hf5]; exact hU n 5 (by omega) (by omega)
  clear hU9
  go_enter Tryz.func111, Tryz.ntmps111
  go_wp2_with fail
  have R0 := RowL.new w [.pointer (some ⟨pb, po, none⟩), .pointer (some ⟨B, uo + n * 10, none⟩), .int .i64 pc, .int .i64 (n : Int), .int .i64 a, .int .i64 b, .int .i64 c, .int .i64 s] 150
  have bw : Below w.heap.size w (w.alloc (.cells #[.pointer (some ⟨pb, po, none⟩), .pointer (some ⟨B, uo + n * 10, none⟩), .int .i64 pc, .int .i64 (n : Int), .int .i64 a, .int .i64 b, .int .i64 c, .int .i64 s] 150)) := (Below.refl _ _).alloc (Nat.le_refl _) _
  generalize w.alloc (.cells #[.pointer (some ⟨pb, po, none⟩), .pointer (some ⟨B, uo + n * 10, none⟩), .int .i64 pc, .int .i64 (n : Int), .int .i64 a, .int .i64 b, .int .i64 c, .int .i64 s] 150) = w0 at R0 bw ⊢
  have r0 := R0.cell 0 rfl
  have r1 := R0.cell 1 rfl
  have r2 := R0.cell 2 rfl
  have r3 := R0.cell 3 rfl
  have r4 := R0.cell 4 rfl
  have r5 := R0.cell 5 rfl
  have r6 := R0.cell 6 rfl
  have r7 := R0.cell 7 rfl
  have hl := R0.lt
  clear R0
  have hP0 := hP.later bw
  have p1 := hP0.c1
  have p2 := hP0.c2
  have p3 := hP0.c3
  have p4 := hP0.c4
  have p5 := hP0.c5
  have p6 := hP0.c6
  have hpb := hP0.lt
  have hB0 : B < w0.heap.size := Nat.lt_of_lt_of_le hB bw.size
  replace t5 := (bw.cell (p := ⟨B, uo + n * 10 + 5, none⟩) hB).trans t5
  replace hP0 : Hid _ := hP0
  replace hP : Hid _ := hP
  replace hU : Hid _ := hU
  clear hf5
  have hd : OldS w0 w0.drew := OldS.of (Below.refl _ _).drew
  refine wp_region_held_drew (S := OldS w0) (by kernel_rfl) hd (fun hH => ?_)
  refine take_dst 0 3 (.pointer (some ⟨w.heap.size, 1, none⟩)) rfl (by kernel_rfl) (by kernel_rfl) (by kernel_rfl) (fun _ _ _ h => h) (Or.inl ⟨by rfl, by intro wv hSv; unfold OldS at hSv; go_simp⟩) hd rfl ?_
  try simp only [tk0, tk1, tk2, tk3, tk4]
  refine take_dst 1 4 (.pointer (some ⟨B, uo + n * 10, none⟩)) rfl (by kernel_rfl) (by kernel_rfl) (by kernel_rfl) (fun _ _ _ h => h) (Or.inl ⟨by rfl, by intro wv hSv; unfold OldS at hSv; go_simp⟩) hd rfl ?_
  try simp only [tk0, tk1, tk2, tk3, tk4]
  refine take_dst 2 5 (.pointer (some ⟨B, uo + n * 10, none⟩)) rfl (by kernel_rfl) (by kernel_rfl) (by kernel_rfl) (fun _ _ _ h => h) (Or.inl ⟨by rfl, by intro wv hSv; unfold OldS at hSv; go_simp⟩) hd rfl ?_
  try simp only [tk0, tk1, tk2, tk3, tk4]
  refine take_dst 3 6 (.pointer (some ⟨B, uo + n * 10 + 5, none⟩)) rfl (by kernel_rfl) (by kernel_rfl) (by kernel_rfl) (fun _ _ _ h => h) (Or.inl ⟨by rfl, by intro wv hSv; unfold OldS at hSv; go_simp⟩) hd rfl ?_
  try simp only [tk0, tk1, tk2, tk3, tk4]
  refine take_dst 4 7 (.func (.func 79) #[] #[]) rfl (by kernel_rfl) (by kernel_rfl) (by kernel_rfl) (fun _ _ _ h => h) (Or.inl ⟨by rfl, by intro wv hSv; unfold OldS at hSv; go_simp⟩) hd rfl ?_
  try simp only [tk0, tk1, tk2, tk3, tk4]
  refine take_dst 5 8 (.bool false) rfl (by kernel_rfl) (by kernel_rfl) (by kernel_rfl) (fun _ _ _ h => h) (Or.inl ⟨by rfl, by intro wv hSv; unfold OldS at hSv; go_simp⟩) hd rfl ?_
  try simp only [tk0, tk1, tk2, tk3, tk4]
  refine take_dst 6 9 (.bool false) rfl (by kernel_rfl) (by kernel_rfl) (by kernel_rfl) (fun _ _ _ h => h) (Or.inl ⟨by rfl, by intro wv hSv; unfold OldS at hSv; go_simp⟩) hd rfl ?_
  try simp only [tk0, tk1, tk2, tk3, tk4]
  refine take_dst 7 10 (.pointer (some ⟨w.heap.size, 1, none⟩)) rfl (by kernel_rfl) (by kernel_rfl) (by kernel_rfl) (fun _ _ _ h => h) (Or.inl ⟨by rfl, by intro wv hSv; unfold OldS at hSv; go_simp⟩) hd rfl ?_
  try simp only [tk0, tk1, tk2, tk3, tk4]
  refine take_dst 8 11 (.pointer (some ⟨B, uo + n * 10, none⟩)) rfl (by kernel_rfl) (by kernel_rfl) (by kernel_rfl) (fun _ _ _ h => h) (Or.inl ⟨by rfl, by intro wv hSv; unfold OldS at hSv; go_simp⟩) hd rfl ?_
  try simp only [tk0, tk1, tk2, tk3, tk4]
  refine take_dst 9 12 (.pointer (some ⟨B, uo + n * 10, none⟩)) rfl (by kernel_rfl) (by kernel_rfl) (by kernel_rfl) (fun _ _ _ h => h) (Or.inl ⟨by rfl, by intro wv hSv; unfold OldS at hSv; go_simp⟩) hd rfl ?_
  try simp only [tk0, tk1, tk2, tk3, tk4]
  refine take_dst 10 13 (.pointer (some ⟨B, uo + n * 10 + 5, none⟩)) rfl (by kernel_rfl) (by kernel_rfl) (by kernel_rfl) (fun _ _ _ h => h) (Or.inl ⟨by rfl, by intro wv hSv; unfold OldS at hSv; go_simp⟩) hd rfl ?_
  try simp only [tk0, tk1, tk2, tk3, tk4]
  refine take_dst 11 14 (.func (.func 79) #[] #[]) rfl (by kernel_rfl) (by kernel_rfl) (by kernel_rfl) (fun _ _ _ h => h) (Or.inl ⟨by rfl, by intro wv hSv; unfold OldS at hSv; go_simp⟩) hd rfl ?_
  try simp only [tk0, tk1, tk2, tk3, tk4]
  refine take_dst 12 15 (.pointer (some ⟨w.heap.size, 3, none⟩)) rfl (by kernel_rfl) (by kernel_rfl) (by kernel_rfl) (fun _ _ _ h => h) (Or.inl ⟨by rfl, by intro wv hSv; unfold OldS at hSv; go_simp⟩) hd rfl ?_
  try simp only [tk0, tk1, tk2, tk3, tk4]
  refine take_dst 13 16 (.agg #[.int .i64 (n : Int), .int .i64 a, .int .i64 b, .int .i64 c, .int .i64 s]) rfl (by kernel_rfl) (by kernel_rfl) (by kernel_rfl) (fun _ _ _ h => h) (Or.inl ⟨by rfl, by intro wv hSv; unfold OldS at hSv; go_simp⟩) hd rfl ?_
  try simp only [tk0, tk1, tk2, tk3, tk4]
  refine take_dst 15 18 (.pointer (some ⟨w.heap.size, 0, none⟩)) rfl (by kernel_rfl) (by kernel_rfl) (by kernel_rfl) (fun _ _ _ h => h) (Or.inl ⟨by rfl, by intro wv hSv; unfold OldS at hSv; go_simp⟩) hd rfl ?_
  try simp only [tk0, tk1, tk2, tk3, tk4]
  refine take_dst 16 19 (.pointer (some ⟨pb, po, none⟩)) rfl (by kernel_rfl) (by kernel_rfl) (by kernel_rfl) (fun _ _ _ h => h) (Or.inl ⟨by rfl, by intro wv hSv; unfold OldS at hSv; go_simp⟩) hd rfl ?_
  try simp only [tk0, tk1, tk2, tk3, tk4]
  refine take_dst 17 20 (.pointer (some ⟨pb, po, none⟩)) rfl (by kernel_rfl) (by kernel_rfl) (by kernel_rfl) (fun _ _ _ h => h) (Or.inl ⟨by rfl, by intro wv hSv; unfold OldS at hSv; go_simp⟩) hd rfl ?_
  try simp only [tk0, tk1, tk2, tk3, tk4]
  refine take_dst 18 21 (.pointer (some ⟨pb, po + 2, none⟩)) rfl (by kernel_rfl) (by kernel_rfl) (by kernel_rfl) (fun _ _ _ h => h) (Or.inl ⟨by rfl, by intro wv hSv; unfold OldS at hSv; go_simp⟩) hd rfl ?_
  try simp only [tk0, tk1, tk2, tk3, tk4]
  refine take_dst 19 22 (.int .i64 p.regs) rfl (by kernel_rfl) (by kernel_rfl) (by kernel_rfl) (fun _ _ _ h => h) (Or.inl ⟨by rfl, by intro wv hSv; unfold OldS at hSv; go_simp⟩) hd rfl ?_
  try simp only [tk0, tk1, tk2, tk3, tk4]
  refine wpAnyH_ready (rs := [14]) (by kernel_rfl) (by simp) ?_
  refine AllReadyH.cons rfl (fun KK hKK => ?_) AllReadyH.nil
  go_simp
  refine (regsBC_in (n : Int) a b c s _ b1 b2 c1 c2).mono ?_
  rintro e y2 ⟨rfl, b2⟩
  replace b2 : Below w0.heap.size w0 y2 := ⟨b2.os, b2.tape, b2.output, b2.size, b2.block⟩
  have h2o : OldS w0 y2 := OldS.of b2
  go_wp2_with fail
  refine hKK.out _ _ h2o (fun _ => ?_)
  clear hKK KK
  try simp only [tk0, tk1, tk2, tk3, tk4]
  refine take_dst 20 23 (.bool (decide (max b c + 1 ≤ p.regs))) rfl (by kernel_rfl) (by kernel_rfl) (by kernel_rfl) (fun _ _ _ h => h) (Or.inl ⟨by rfl, by intro wv hSv; unfold OldS at hSv; go_simp⟩) h2o rfl ?_
  try simp only [tk0, tk1, tk2, tk3, tk4]
  refine take_dst 21 24 (.bool (decide (max b c + 1 ≤ p.regs))) rfl (by kernel_rfl) (by kernel_rfl) (by kernel_rfl) (fun _ _ _ h => h) (Or.inl ⟨by rfl, by intro wv hSv; unfold OldS at hSv; go_simp⟩) h2o rfl ?_
  try simp only [tk0, tk1, tk2, tk3, tk4]
  refine take_dst 22 2 (.bool (decide (max b c + 1 ≤ p.regs))) rfl (by kernel_rfl) (by kernel_rfl) (by kernel_rfl) (fun _ _ _ h => h) (Or.inl ⟨by rfl, by intro wv hSv; unfold OldS at hSv; go_simp⟩) h2o rfl ?_
  try simp only [tk0, tk1, tk2, tk3, tk4]
  have bF := bw.trans (b2.mono bw.size)
  clear b2 h2o
  refine wpAnyH_done (by kernel_rfl) ?_ _
  clear hH hd r0 r1 r2 r3 r4 r5 r6 r7 p1 p2 p3 p4 p5 p6
  go_wp2_with fail
  go_ret
  exact ⟨⟨_, rfl, decide_eq_true_iff⟩, bF⟩
theorem regs_regsABC (w : World) (pb po B uo : Nat) (pc : Int) (n : Nat) (a b c s : Int) (p : PD) (a3 a4 a5 : Value) (hP : PtrP w pb po p a3 a4 a5) (hU : UsO w B uo) (hB : B < w.heap.size) (hn : n ≤ 33) (hf5 : usC n 5 = .func (.func 78) #[] #[]) (a1 : 0 ≤ a) (a2 : a ≤ 255) (b1 : 0 ≤ b) (b2 : b ≤ 511) (c1 : 0 ≤ c) (c2 : c ≤ 511) (s1 : -1000000 ≤ s) (s2 : s ≤ 1000000) :
    Calls Tryz.prog 111 #[plN pb po B uo pc n a b c s] w fun e w' => Says e (max a (max b c) + 1 ≤ p.regs) ∧ Below w.heap.size w w' := by
  have hU9 := hU n
  have t5 : w.cell? ⟨B, uo + n * 10 + 5, none⟩ = some (.func (.func 78) #[] #[]) := by rw [← hf5]; exact hU n 5 (by omega) (by omega)
  clear hU9
  go_enter Tryz.func111, Tryz.ntmps111
  go_wp2_with fail
  have R0 := RowL.new w [.pointer (some ⟨pb, po, none⟩), .pointer (some ⟨B, uo + n * 10, none⟩), .int .i64 pc, .int .i64 (n : Int), .int .i64 a, .int .i64 b, .int .i64 c, .int .i64 s] 150
  have bw : Below w.heap.size w (w.alloc (.cells #[.pointer (some ⟨pb, po, none⟩), .pointer (some ⟨B, uo + n * 10, none⟩), .int .i64 pc, .int .i64 (n : Int), .int .i64 a, .int .i64 b, .int .i64 c, .int .i64 s] 150)) := (Below.refl _ _).alloc (Nat.le_refl _) _
  generalize w.alloc (.cells #[.pointer (some ⟨pb, po, none⟩), .pointer (some ⟨B, uo + n * 10, none⟩), .int .i64 pc, .int .i64 (n : Int), .int .i64 a, .int .i64 b, .int .i64 c, .int .i64 s] 150) = w0 at R0 bw ⊢
  have r0 := R0.cell 0 rfl
  have r1 := R0.cell 1 rfl
  have r2 := R0.cell 2 rfl
  have r3 := R0.cell 3 rfl
  have r4 := R0.cell 4 rfl
  have r5 := R0.cell 5 rfl
  have r6 := R0.cell 6 rfl
  have r7 := R0.cell 7 rfl
  have hl := R0.lt
  clear R0
  have hP0 := hP.later bw
  have p1 := hP0.c1
  have p2 := hP0.c2
  have p3 := hP0.c3
  have p4 := hP0.c4
  have p5 := hP0.c5
  have p6 := hP0.c6
  have hpb := hP0.lt
  have hB0 : B < w0.heap.size := Nat.lt_of_lt_of_le hB bw.size
  replace t5 := (bw.cell (p := ⟨B, uo + n * 10 + 5, none⟩) hB).trans t5
  replace hP0 : Hid _ := hP0
  replace hP : Hid _ := hP
  replace hU : Hid _ := hU
  clear hf5
  have hd : OldS w0 w0.drew := OldS.of (Below.refl _ _).drew
  refine wp_region_held_drew (S := OldS w0) (by kernel_rfl) hd (fun hH => ?_)
  refine take_dst 0 3 (.pointer (some ⟨w.heap.size, 1, none⟩)) rfl (by kernel_rfl) (by kernel_rfl) (by kernel_rfl) (fun _ _ _ h => h) (Or.inl ⟨by rfl, by intro wv hSv; unfold OldS at hSv; go_simp⟩) hd rfl ?_
  try simp only [tk0, tk1, tk2, tk3, tk4]
  refine take_dst 1 4 (.pointer (some ⟨B, uo + n * 10, none⟩)) rfl (by kernel_rfl) (by kernel_rfl) (by kernel_rfl) (fun _ _ _ h => h) (Or.inl ⟨by rfl, by intro wv hSv; unfold OldS at hSv; go_simp⟩) hd rfl ?_
  try simp only [tk0, tk1, tk2, tk3, tk4]
  refine take_dst 2 5 (.pointer (some ⟨B, uo + n * 10, none⟩)) rfl (by kernel_rfl) (by kernel_rfl) (by kernel_rfl) (fun _ _ _ h => h) (Or.inl ⟨by rfl, by intro wv hSv; unfold OldS at hSv; go_simp⟩) hd rfl ?_
  try simp only [tk0, tk1, tk2, tk3, tk4]
  refine take_dst 3 6 (.pointer (some ⟨B, uo + n * 10 + 5, none⟩)) rfl (by kernel_rfl) (by kernel_rfl) (by kernel_rfl) (fun _ _ _ h => h) (Or.inl ⟨by rfl, by intro wv hSv; unfold OldS at hSv; go_simp⟩) hd rfl ?_
  try simp only [tk0, tk1, tk2, tk3, tk4]
  refine take_dst 4 7 (.func (.func 78) #[] #[]) rfl (by kernel_rfl) (by kernel_rfl) (by kernel_rfl) (fun _ _ _ h => h) (Or.inl ⟨by rfl, by intro wv hSv; unfold OldS at hSv; go_simp⟩) hd rfl ?_
  try simp only [tk0, tk1, tk2, tk3, tk4]
  refine take_dst 5 8 (.bool false) rfl (by kernel_rfl) (by kernel_rfl) (by kernel_rfl) (fun _ _ _ h => h) (Or.inl ⟨by rfl, by intro wv hSv; unfold OldS at hSv; go_simp⟩) hd rfl ?_
  try simp only [tk0, tk1, tk2, tk3, tk4]
  refine take_dst 6 9 (.bool false) rfl (by kernel_rfl) (by kernel_rfl) (by kernel_rfl) (fun _ _ _ h => h) (Or.inl ⟨by rfl, by intro wv hSv; unfold OldS at hSv; go_simp⟩) hd rfl ?_
  try simp only [tk0, tk1, tk2, tk3, tk4]
  refine take_dst 7 10 (.pointer (some ⟨w.heap.size, 1, none⟩)) rfl (by kernel_rfl) (by kernel_rfl) (by kernel_rfl) (fun _ _ _ h => h) (Or.inl ⟨by rfl, by intro wv hSv; unfold OldS at hSv; go_simp⟩) hd rfl ?_
  try simp only [tk0, tk1, tk2, tk3, tk4]
  refine take_dst 8 11 (.pointer (some ⟨B, uo + n * 10, none⟩)) rfl (by kernel_rfl) (by kernel_rfl) (by kernel_rfl) (fun _ _ _ h => h) (Or.inl ⟨by rfl, by intro wv hSv; unfold OldS at hSv; go_simp⟩) hd rfl ?_
  try simp only [tk0, tk1, tk2, tk3, tk4]
  refine take_dst 9 12 (.pointer (some ⟨B, uo + n * 10, none⟩)) rfl (by kernel_rfl) (by kernel_rfl) (by kernel_rfl) (fun _ _ _ h => h) (Or.inl ⟨by rfl, by intro wv hSv; unfold OldS at hSv; go_simp⟩) hd rfl ?_
  try simp only [tk0, tk1, tk2, tk3, tk4]
  refine take_dst 10 13 (.pointer (some ⟨B, uo + n * 10 + 5, none⟩)) rfl (by kernel_rfl) (by kernel_rfl) (by kernel_rfl) (fun _ _ _ h => h) (Or.inl ⟨by rfl, by intro wv hSv; unfold OldS at hSv; go_simp⟩) hd rfl ?_
  try simp only [tk0, tk1, tk2, tk3, tk4]
  refine take_dst 11 14 (.func (.func 78) #[] #[]) rfl (by kernel_rfl) (by kernel_rfl) (by kernel_rfl) (fun _ _ _ h => h) (Or.inl ⟨by rfl, by intro wv hSv; unfold OldS at hSv; go_simp⟩) hd rfl ?_
  try simp only [tk0, tk1, tk2, tk3, tk4]
  refine take_dst 12 15 (.pointer (some ⟨w.heap.size, 3, none⟩)) rfl (by kernel_rfl) (by kernel_rfl) (by kernel_rfl) (fun _ _ _ h => h) (Or.inl ⟨by rfl, by intro wv hSv; unfold OldS at hSv; go_simp⟩) hd rfl ?_
  try simp only [tk0, tk1, tk2, tk3, tk4]
  refine take_dst 13 16 (.agg #[.int .i64 (n : Int), .int .i64 a, .int .i64 b, .int .i64 c, .int .i64 s]) rfl (by kernel_rfl) (by kernel_rfl) (by kernel_rfl) (fun _ _ _ h => h) (Or.inl ⟨by rfl, by intro wv hSv; unfold OldS at hSv; go_simp⟩) hd rfl ?_
  try simp only [tk0, tk1, tk2, tk3, tk4]
  refine take_dst 15 18 (.pointer (some ⟨w.heap.size, 0, none⟩)) rfl (by kernel_rfl) (by kernel_rfl) (by kernel_rfl) (fun _ _ _ h => h) (Or.inl ⟨by rfl, by intro wv hSv; unfold OldS at hSv; go_simp⟩) hd rfl ?_
  try simp only [tk0, tk1, tk2, tk3, tk4]
  refine take_dst 16 19 (.pointer (some ⟨pb, po, none⟩)) rfl (by kernel_rfl) (by kernel_rfl) (by kernel_rfl) (fun _ _ _ h => h) (Or.inl ⟨by rfl, by intro wv hSv; unfold OldS at hSv; go_simp⟩) hd rfl ?_
  try simp only [tk0, tk1, tk2, tk3, tk4]
  refine take_dst 17 20 (.pointer (some ⟨pb, po, none⟩)) rfl (by kernel_rfl) (by kernel_rfl) (by kernel_rfl) (fun _ _ _ h => h) (Or.inl ⟨by rfl, by intro wv hSv; unfold OldS at hSv; go_simp⟩) hd rfl ?_
  try simp only [tk0, tk1, tk2, tk3, tk4]
  refine take_dst 18 21 (.pointer (some ⟨pb, po + 2, none⟩)) rfl (by kernel_rfl) (by kernel_rfl) (by kernel_rfl) (fun _ _ _ h => h) (Or.inl ⟨by rfl, by intro wv hSv; unfold OldS at hSv; go_simp⟩) hd rfl ?_
  try simp only [tk0, tk1, tk2, tk3, tk4]
  refine take_dst 19 22 (.int .i64 p.regs) rfl (by kernel_rfl) (by kernel_rfl) (by kernel_rfl) (fun _ _ _ h => h) (Or.inl ⟨by rfl, by intro wv hSv; unfold OldS at hSv; go_simp⟩) hd rfl ?_
  try simp only [tk0, tk1, tk2, tk3, tk4]
  refine wpAnyH_ready (rs := [14]) (by kernel_rfl) (by simp) ?_
  refine AllReadyH.cons rfl (fun KK hKK => ?_) AllReadyH.nil
  go_simp
  refine (regsABC_in (n : Int) a b c s _ a1 a2 b1 b2 c1 c2).mono ?_
  rintro e y2 ⟨rfl, b2⟩
  replace b2 : Below w0.heap.size w0 y2 := ⟨b2.os, b2.tape, b2.output, b2.size, b2.block⟩
  have h2o : OldS w0 y2 := OldS.of b2
  go_wp2_with fail
  refine hKK.out _ _ h2o (fun _ => ?_)
  clear hKK KK
  try simp only [tk0, tk1, tk2, tk3, tk4]
  refine take_dst 20 23 (.bool (decide (max a (max b c) + 1 ≤ p.regs))) rfl (by kernel_rfl) (by kernel_rfl) (by kernel_rfl) (fun _ _ _ h => h) (Or.inl ⟨by rfl, by intro wv hSv; unfold OldS at hSv; go_simp⟩) h2o rfl ?_
  try simp only [tk0, tk1, tk2, tk3, tk4]
  refine take_dst 21 24 (.bool (decide (max a (max b c) + 1 ≤ p.regs))) rfl (by kernel_rfl) (by kernel_rfl) (by kernel_rfl) (fun _ _ _ h => h) (Or.inl ⟨by rfl, by intro wv hSv; unfold OldS at hSv; go_simp⟩) h2o rfl ?_
  try simp only [tk0, tk1, tk2, tk3, tk4]
  refine take_dst 22 2 (.bool (decide (max a (max b c) + 1 ≤ p.regs))) rfl (by kernel_rfl) (by kernel_rfl) (by kernel_rfl) (fun _ _ _ h => h) (Or.inl ⟨by rfl, by intro wv hSv; unfold OldS at hSv; go_simp⟩) h2o rfl ?_
  try simp only [tk0, tk1, tk2, tk3, tk4]
  have bF := bw.trans (b2.mono bw.size)
  clear b2 h2o
  refine wpAnyH_done (by kernel_rfl) ?_ _
  clear hH hd r0 r1 r2 r3 r4 r5 r6 r7 p1 p2 p3 p4 p5 p6
  go_wp2_with fail
  go_ret
  exact ⟨⟨_, rfl, decide_eq_true_iff⟩, bF⟩
theorem regs_regsOfYield (w : World) (pb po B uo : Nat) (pc : Int) (n : Nat) (a b c s : Int) (p : PD) (a3 a4 a5 : Value) (hP : PtrP w pb po p a3 a4 a5) (hU : UsO w B uo) (hB : B < w.heap.size) (hn : n ≤ 33) (hf5 : usC n 5 = .func (.func 94) #[] #[]) (a1 : 0 ≤ a) (a2 : a ≤ 255) (b1 : 0 ≤ b) (b2 : b ≤ 511) (c1 : 0 ≤ c) (c2 : c ≤ 511) (s1 : -1000000 ≤ s) (s2 : s ≤ 1000000) :
    Calls Tryz.prog 111 #[plN pb po B uo pc n a b c s] w fun e w' => Says e (a + max 1 (max (rsz b) (rsz c)) ≤ p.regs) ∧ Below w.heap.size w w' := by
  have hU9 := hU n
  have t5 : w.cell? ⟨B, uo + n * 10 + 5, none⟩ = some (.func (.func 94) #[] #[]) := by rw [← hf5]; exact hU n 5 (by omega) (by omega)
  clear hU9
  go_enter Tryz.func111, Tryz.ntmps111
  go_wp2_with fail
  have R0 := RowL.new w [.pointer (some ⟨pb, po, none⟩), .pointer (some ⟨B, uo + n * 10, none⟩), .int .i64 pc, .int .i64 (n : Int), .int .i64 a, .int .i64 b, .int .i64 c, .int .i64 s] 150
  have bw : Below w.heap.size w (w.alloc (.cells #[.pointer (some ⟨pb, po, none⟩), .pointer (some ⟨B, uo + n * 10, none⟩), .int .i64 pc, .int .i64 (n : Int), .int .i64 a, .int .i64 b, .int .i64 c, .int .i64 s] 150)) := (Below.refl _ _).alloc (Nat.le_refl _) _
  generalize w.alloc (.cells #[.pointer (some ⟨pb, po, none⟩), .pointer (some ⟨B, uo + n * 10, none⟩), .int .i64 pc, .int .i64 (n : Int), .int .i64 a, .int .i64 b, .int .i64 c, .int .i64 s] 150) = w0 at R0 bw ⊢
  have r0 := R0.cell 0 rfl
  have r1 := R0.cell 1 rfl
  have r2 := R0.cell 2 rfl
  have r3 := R0.cell 3 rfl
  have r4 := R0.cell 4 rfl
  have r5 := R0.cell 5 rfl
  have r6 := R0.cell 6 rfl
  have r7 := R0.cell 7 rfl
  have hl := R0.lt
  clear R0
  have hP0 := hP.later bw
  have p1 := hP0.c1
  have p2 := hP0.c2
  have p3 := hP0.c3
  have p4 := hP0.c4
  have p5 := hP0.c5
  have p6 := hP0.c6
  have hpb := hP0.lt
  have hB0 : B < w0.heap.size := Nat.lt_of_lt_of_le hB bw.size
  replace t5 := (bw.cell (p := ⟨B, uo + n * 10 + 5, none⟩) hB).trans t5
  replace hP0 : Hid _ := hP0
  replace hP : Hid _ := hP
  replace hU : Hid _ := hU
  clear hf5
  have hd : OldS w0 w0.drew := OldS.of (Below.refl _ _).drew
  refine wp_region_held_drew (S := OldS w0) (by kernel_rfl) hd (fun hH => ?_)
  refine take_dst 0 3 (.pointer (some ⟨w.heap.size, 1, none⟩)) rfl (by kernel_rfl) (by kernel_rfl) (by kernel_rfl) (fun _ _ _ h => h) (Or.inl ⟨by rfl, by intro wv hSv; unfold OldS at hSv; go_simp⟩) hd rfl ?_
  try simp only [tk0, tk1, tk2, tk3, tk4]
  refine take_dst 1 4 (.pointer (some ⟨B, uo + n * 10, none⟩)) rfl (by kernel_rfl) (by kernel_rfl) (by kernel_rfl) (fun _ _ _ h => h) (Or.inl ⟨by rfl, by intro wv hSv; unfold OldS at hSv; go_simp⟩) hd rfl ?_
  try simp only [tk0, tk1, tk2, tk3, tk4]
  refine take_dst 2 5 (.pointer (some ⟨B, uo + n * 10, none⟩)) rfl (by kernel_rfl) (by kernel_rfl) (by kernel_rfl) (fun _ _ _ h => h) (Or.inl ⟨by rfl, by intro wv hSv; unfold OldS at hSv; go_simp⟩) hd rfl ?_
  try simp only [tk0, tk1, tk2, tk3, tk4]
  refine take_dst 3 6 (.pointer (some ⟨B, uo + n * 10 + 5, none⟩)) rfl (by kernel_rfl) (by kernel_rfl) (by kernel_rfl) (fun _ _ _ h => h) (Or.inl ⟨by rfl, by intro wv hSv; unfold OldS at hSv; go_simp⟩) hd rfl ?_
  try simp only [tk0, tk1, tk2, tk3, tk4]
  refine take_dst 4 7 (.func (.func 94) #[] #[]) rfl (by kernel_rfl) (by kernel_rfl) (by kernel_rfl) (fun _ _ _ h => h) (Or.inl ⟨by rfl, by intro wv hSv; unfold OldS at hSv; go_simp⟩) hd rfl ?_
  try simp only [tk0, tk1, tk2, tk3, tk4]
  refine take_dst 5 8 (.bool false) rfl (by kernel_rfl) (by kernel_rfl) (by kernel_rfl) (fun _ _ _ h => h) (Or.inl ⟨by rfl, by intro wv hSv; unfold OldS at hSv; go_simp⟩) hd rfl ?_
  try simp only [tk0, tk1, tk2, tk3, tk4]
  refine take_dst 6 9 (.bool false) rfl (by kernel_rfl) (by kernel_rfl) (by kernel_rfl) (fun _ _ _ h => h) (Or.inl ⟨by rfl, by intro wv hSv; unfold OldS at hSv; go_simp⟩) hd rfl ?_
  try simp only [tk0, tk1, tk2, tk3, tk4]
  refine take_dst 7 10 (.pointer (some ⟨w.heap.size, 1, none⟩)) rfl (by kernel_rfl) (by kernel_rfl) (by kernel_rfl) (fun _ _ _ h => h) (Or.inl ⟨by rfl, by intro wv hSv; unfold OldS at hSv; go_simp⟩) hd rfl ?_
  try simp only [tk0, tk1, tk2, tk3, tk4]
  refine take_dst 8 11 (.pointer (some ⟨B, uo + n * 10, none⟩)) rfl (by kernel_rfl) (by kernel_rfl) (by kernel_rfl) (fun _ _ _ h => h) (Or.inl ⟨by rfl, by intro wv hSv; unfold OldS at hSv; go_simp⟩) hd rfl ?_
  try simp only [tk0, tk1, tk2, tk3, tk4]
  refine take_dst 9 12 (.pointer (some ⟨B, uo + n * 10, none⟩)) rfl (by kernel_rfl) (by kernel_rfl) (by kernel_rfl) (fun _ _ _ h => h) (Or.inl ⟨by rfl, by intro wv hSv; unfold OldS at hSv; go_simp⟩) hd rfl ?_
  try simp only [tk0, tk1, tk2, tk3, tk4]
  refine take_dst 10 13 (.pointer (some ⟨B, uo + n * 10 + 5, none⟩)) rfl (by kernel_rfl) (by kernel_rfl) (by kernel_rfl) (fun _ _ _ h => h) (Or.inl ⟨by rfl, by intro wv hSv; unfold OldS at hSv; go_simp⟩) hd rfl ?_
  try simp only [tk0, tk1, tk2, tk3, tk4]
  refine take_dst 11 14 (.func (.func 94) #[] #[]) rfl (by kernel_rfl) (by kernel_rfl) (by kernel_rfl) (fun _ _ _ h => h) (Or.inl ⟨by rfl, by intro wv hSv; unfold OldS at hSv; go_simp⟩) hd rfl ?_
  try simp only [tk0, tk1, tk2, tk3, tk4]
  refine take_dst 12 15 (.pointer (some ⟨w.heap.size, 3, none⟩)) rfl (by kernel_rfl) (by kernel_rfl) (by kernel_rfl) (fun _ _ _ h => h) (Or.inl ⟨by rfl, by intro wv hSv; unfold OldS at hSv; go_simp⟩) hd rfl ?_
  try simp only [tk0, tk1, tk2, tk3, tk4]
  refine take_dst 13 16 (.agg #[.int .i64 (n : Int), .int .i64 a, .int .i64 b, .int .i64 c, .int .i64 s]) rfl (by kernel_rfl) (by kernel_rfl) (by kernel_rfl) (fun _ _ _ h => h) (Or.inl ⟨by rfl, by intro wv hSv; unfold OldS at hSv; go_simp⟩) hd rfl ?_
  try simp only [tk0, tk1, tk2, tk3, tk4]
  refine take_dst 15 18 (.pointer (some ⟨w.heap.size, 0, none⟩)) rfl (by kernel_rfl) (by kernel_rfl) (by kernel_rfl) (fun _ _ _ h => h) (Or.inl ⟨by rfl, by intro wv hSv; unfold OldS at hSv; go_simp⟩) hd rfl ?_
  try simp only [tk0, tk1, tk2, tk3, tk4]
  refine take_dst 16 19 (.pointer (some ⟨pb, po, none⟩)) rfl (by kernel_rfl) (by kernel_rfl) (by kernel_rfl) (fun _ _ _ h => h) (Or.inl ⟨by rfl, by intro wv hSv; unfold OldS at hSv; go_simp⟩) hd rfl ?_
  try simp only [tk0, tk1, tk2, tk3, tk4]
  refine take_dst 17 20 (.pointer (some ⟨pb, po, none⟩)) rfl (by kernel_rfl) (by kernel_rfl) (by kernel_rfl) (fun _ _ _ h => h) (Or.inl ⟨by rfl, by intro wv hSv; unfold OldS at hSv; go_simp⟩) hd rfl ?_
  try simp only [tk0, tk1, tk2, tk3, tk4]
  refine take_dst 18 21 (.pointer (some ⟨pb, po + 2, none⟩)) rfl (by kernel_rfl) (by kernel_rfl) (by kernel_rfl) (fun _ _ _ h => h) (Or.inl ⟨by rfl, by intro wv hSv; unfold OldS at hSv; go_simp⟩) hd rfl ?_
  try simp only [tk0, tk1, tk2, tk3, tk4]
  refine take_dst 19 22 (.int .i64 p.regs) rfl (by kernel_rfl) (by kernel_rfl) (by kernel_rfl) (fun _ _ _ h => h) (Or.inl ⟨by rfl, by intro wv hSv; unfold OldS at hSv; go_simp⟩) hd rfl ?_
  try simp only [tk0, tk1, tk2, tk3, tk4]
  refine wpAnyH_ready (rs := [14]) (by kernel_rfl) (by simp) ?_
  refine AllReadyH.cons rfl (fun KK hKK => ?_) AllReadyH.nil
  go_simp
  refine (regsOfYield_in (n : Int) a b c s _ a1 a2 b1 b2 c1 c2).mono ?_
  rintro e y2 ⟨rfl, b2⟩
  replace b2 : Below w0.heap.size w0 y2 := ⟨b2.os, b2.tape, b2.output, b2.size, b2.block⟩
  have h2o : OldS w0 y2 := OldS.of b2
  go_wp2_with fail
  refine hKK.out _ _ h2o (fun _ => ?_)
  clear hKK KK
  try simp only [tk0, tk1, tk2, tk3, tk4]
  refine take_dst 20 23 (.bool (decide (a + max 1 (max (rsz b) (rsz c)) ≤ p.regs))) rfl (by kernel_rfl) (by kernel_rfl) (by kernel_rfl) (fun _ _ _ h => h) (Or.inl ⟨by rfl, by intro wv hSv; unfold OldS at hSv; go_simp⟩) h2o rfl ?_
  try simp only [tk0, tk1, tk2, tk3, tk4]
  refine take_dst 21 24 (.bool (decide (a + max 1 (max (rsz b) (rsz c)) ≤ p.regs))) rfl (by kernel_rfl) (by kernel_rfl) (by kernel_rfl) (fun _ _ _ h => h) (Or.inl ⟨by rfl, by intro wv hSv; unfold OldS at hSv; go_simp⟩) h2o rfl ?_
  try simp only [tk0, tk1, tk2, tk3, tk4]
  refine take_dst 22 2 (.bool (decide (a + max 1 (max (rsz b) (rsz c)) ≤ p.regs))) rfl (by kernel_rfl) (by kernel_rfl) (by kernel_rfl) (fun _ _ _ h => h) (Or.inl ⟨by rfl, by intro wv hSv; unfold OldS at hSv; go_simp⟩) h2o rfl ?_
  try simp only [tk0, tk1, tk2, tk3, tk4]
  have bF := bw.trans (b2.mono bw.size)
  clear b2 h2o
  refine wpAnyH_done (by kernel_rfl) ?_ _
  clear hH hd r0 r1 r2 r3 r4 r5 r6 r7 p1 p2 p3 p4 p5 p6
  go_wp2_with fail
  go_ret
  exact ⟨⟨_, rfl, decide_eq_true_iff⟩, bF⟩
theorem regs_regsOfCall (w : World) (pb po B uo : Nat) (pc : Int) (n : Nat) (a b c s : Int) (p : PD) (a3 a4 a5 : Value) (hP : PtrP w pb po p a3 a4 a5) (hU : UsO w B uo) (hB : B < w.heap.size) (hn : n ≤ 33) (hf5 : usC n 5 = .func (.func 82) #[] #[]) (a1 : 0 ≤ a) (a2 : a ≤ 255) (b1 : 0 ≤ b) (b2 : b ≤ 511) (c1 : 0 ≤ c) (c2 : c ≤ 511) (s1 : -1000000 ≤ s) (s2 : s ≤ 1000000) :
    Calls Tryz.prog 111 #[plN pb po B uo pc n a b c s] w fun e w' => Says e (a + max (1 + rsz b) (rsz c) ≤ p.regs) ∧ Below w.heap.size w w' := by
  have hU9 := hU n
  have t5 : w.cell? ⟨B, uo + n * 10 + 5, none⟩ = some (.func (.func 82) #[] #[]) := by rw [← hf5]; exact hU n 5 (by omega) (by omega)
  clear hU9
  go_enter Tryz.func111, Tryz.ntmps111
  go_wp2_with fail
  have R0 := RowL.new w [.pointer (some ⟨pb, po, none⟩), .pointer (some ⟨B, uo + n * 10, none⟩), .int .i64 pc, .int .i64 (n : Int), .int .i64 a, .int .i64 b, .int .i64 c, .int .i64 s] 150
  have bw : Below w.heap.size w (w.alloc (.cells #[.pointer (some ⟨pb, po, none⟩), .pointer (some ⟨B, uo + n * 10, none⟩), .int .i64 pc, .int .i64 (n : Int), .int .i64 a, .int .i64 b, .int .i64 c, .int .i64 s] 150)) := (Below.refl _ _).alloc (Nat.le_refl _) _
  generalize w.alloc (.cells #[.pointer (some ⟨pb, po, none⟩), .pointer (some ⟨B, uo + n * 10, none⟩), .int .i64 pc, .int .i64 (n : Int), .int .i64 a, .int .i64 b, .int .i64 c, .int .i64 s] 150) = w0 at R0 bw ⊢
  have r0 := R0.cell 0 rfl
  have r1 := R0.cell 1 rfl
  have r2 := R0.cell 2 rfl
  have r3 := R0.cell 3 rfl
  have r4 := R0.cell 4 rfl
  have r5 := R0.cell 5 rfl
  have r6 := R0.cell 6 rfl
  have r7 := R0.cell 7 rfl
  have hl := R0.lt
  clear R0
  have hP0 := hP.later bw
  have p1 := hP0.c1
  have p2 := hP0.c2
  have p3 := hP0.c3
  have p4 := hP0.c4
  have p5 := hP0.c5
  have p6 := hP0.c6
  have hpb := hP0.lt
  have hB0 : B < w0.heap.size := Nat.lt_of_lt_of_le hB bw.size
  replace t5 := (bw.cell (p := ⟨B, uo + n * 10 + 5, none⟩) hB).trans t5
  replace hP0 : Hid _ := hP0
  replace hP : Hid _ := hP
  replace hU : Hid _ := hU
  clear hf5
  have hd : OldS w0 w0.drew := OldS.of (Below.refl _ _).drew
  refine wp_region_held_drew (S := OldS w0) (by kernel_rfl) hd (fun hH => ?_)
  refine take_dst 0 3 (.pointer (some ⟨w.heap.size, 1, none⟩)) rfl (by kernel_rfl) (by kernel_rfl) (by kernel_rfl) (fun _ _ _ h => h) (Or.inl ⟨by rfl, by intro wv hSv; unfold OldS at hSv; go_simp⟩) hd rfl ?_
  try simp only [tk0, tk1, tk2, tk3, tk4]
  refine take_dst 1 4 (.pointer (some ⟨B, uo + n * 10, none⟩)) rfl (by kernel_rfl) (by kernel_rfl) (by kernel_rfl) (fun _ _ _ h => h) (Or.inl ⟨by rfl, by intro wv hSv; unfold OldS at hSv; go_simp⟩) hd rfl ?_
  try simp only [tk0, tk1, tk2, tk3, tk4]
  refine take_dst 2 5 (.pointer (some ⟨B, uo + n * 10, none⟩)) rfl (by kernel_rfl) (by kernel_rfl) (by kernel_rfl) (fun _ _ _ h => h) (Or.inl ⟨by rfl, by intro wv hSv; unfold OldS at hSv; go_simp⟩) hd rfl ?_
  try simp only [tk0, tk1, tk2, tk3, tk4]
  refine take_dst 3 6 (.pointer (some ⟨B, uo + n * 10 + 5, none⟩)) rfl (by kernel_rfl) (by kernel_rfl) (by kernel_rfl) (fun _ _ _ h => h) (Or.inl ⟨by rfl, by intro wv hSv; unfold OldS at hSv; go_simp⟩) hd rfl ?_
  try simp only [tk0, tk1, tk2, tk3, tk4]
  refine take_dst 4 7 (.func (.func 82) #[] #[]) rfl (by kernel_rfl) (by kernel_rfl) (by kernel_rfl) (fun _ _ _ h => h) (Or.inl ⟨by rfl, by intro wv hSv; unfold OldS at hSv; go_simp⟩) hd rfl ?_
  try simp only [tk0, tk1, tk2, tk3, tk4]
  refine take_dst 5 8 (.bool false) rfl (by kernel_rfl) (by kernel_rfl) (by kernel_rfl) (fun _ _ _ h => h) (Or.inl ⟨by rfl, by intro wv hSv; unfold OldS at hSv; go_simp⟩) hd rfl ?_
  try simp only [tk0, tk1, tk2, tk3, tk4]
  refine take_dst 6 9 (.bool false) rfl (by kernel_rfl) (by kernel_rfl) (by kernel_rfl) (fun _ _ _ h => h) (Or.inl ⟨by rfl, by intro wv hSv; unfold OldS at hSv; go_simp⟩) hd rfl ?_
  try simp only [tk0, tk1, tk2, tk3, tk4]
  refine take_dst 7 10 (.pointer (some ⟨w.heap.size, 1, none⟩)) rfl (by kernel_rfl) (by kernel_rfl) (by kernel_rfl) (fun _ _ _ h => h) (Or.inl ⟨by rfl, by intro wv hSv; unfold OldS at hSv; go_simp⟩) hd rfl ?_
  try simp only [tk0, tk1, tk2, tk3, tk4]
  refine take_dst 8 11 (.pointer (some ⟨B, uo + n * 10, none⟩)) rfl (by kernel_rfl) (by kernel_rfl) (by kernel_rfl) (fun _ _ _ h => h) (Or.inl ⟨by rfl, by intro wv hSv; unfold OldS at hSv; go_simp⟩) hd rfl ?_
  try simp only [tk0, tk1, tk2, tk3, tk4]
  refine take_dst 9 12 (.pointer (some ⟨B, uo + n * 10, none⟩)) rfl (by kernel_rfl) (by kernel_rfl) (by kernel_rfl) (fun _ _ _ h => h) (Or.inl ⟨by rfl, by intro wv hSv; unfold OldS at hSv; go_simp⟩) hd rfl ?_
  try simp only [tk0, tk1, tk2, tk3, tk4]
  refine take_dst 10 13 (.pointer (some ⟨B, uo + n * 10 + 5, none⟩)) rfl (by kernel_rfl) (by kernel_rfl) (by kernel_rfl) (fun _ _ _ h => h) (Or.inl ⟨by rfl, by intro wv hSv; unfold OldS at hSv; go_simp⟩) hd rfl ?_
  try simp only [tk0, tk1, tk2, tk3, tk4]
  refine take_dst 11 14 (.func (.func 82) #[] #[]) rfl (by kernel_rfl) (by kernel_rfl) (by kernel_rfl) (fun _ _ _ h => h) (Or.inl ⟨by rfl, by intro wv hSv; unfold OldS at hSv; go_simp⟩) hd rfl ?_
  try simp only [tk0, tk1, tk2, tk3, tk4]
  refine take_dst 12 15 (.pointer (some ⟨w.heap.size, 3, none⟩)) rfl (by kernel_rfl) (by kernel_rfl) (by kernel_rfl) (fun _ _ _ h => h) (Or.inl ⟨by rfl, by intro wv hSv; unfold OldS at hSv; go_simp⟩) hd rfl ?_
  try simp only [tk0, tk1, tk2, tk3, tk4]
  refine take_dst 13 16 (.agg #[.int .i64 (n : Int), .int .i64 a, .int .i64 b, .int .i64 c, .int .i64 s]) rfl (by kernel_rfl) (by kernel_rfl) (by kernel_rfl) (fun _ _ _ h => h) (Or.inl ⟨by rfl, by intro wv hSv; unfold OldS at hSv; go_simp⟩) hd rfl ?_
  try simp only [tk0, tk1, tk2, tk3, tk4]
  refine take_dst 15 18 (.pointer (some ⟨w.heap.size, 0, none⟩)) rfl (by kernel_rfl) (by kernel_rfl) (by kernel_rfl) (fun _ _ _ h => h) (Or.inl ⟨by rfl, by intro wv hSv; unfold OldS at hSv; go_simp⟩) hd rfl ?_
  try simp only [tk0, tk1, tk2, tk3, tk4]
  refine take_dst 16 19 (.pointer (some ⟨pb, po, none⟩)) rfl (by kernel_rfl) (by kernel_rfl) (by kernel_rfl) (fun _ _ _ h => h) (Or.inl ⟨by rfl, by intro wv hSv; unfold OldS at hSv; go_simp⟩) hd rfl ?_
  try simp only [tk0, tk1, tk2, tk3, tk4]
  refine take_dst 17 20 (.pointer (some ⟨pb, po, none⟩)) rfl (by kernel_rfl) (by kernel_rfl) (by kernel_rfl) (fun _ _ _ h => h) (Or.inl ⟨by rfl, by intro wv hSv; unfold OldS at hSv; go_simp⟩) hd rfl ?_
  try simp only [tk0, tk1, tk2, tk3, tk4]
  refine take_dst 18 21 (.pointer (some ⟨pb, po + 2, none⟩)) rfl (by kernel_rfl) (by kernel_rfl) (by kernel_rfl) (fun _ _ _ h => h) (Or.inl ⟨by rfl, by intro wv hSv; unfold OldS at hSv; go_simp⟩) hd rfl ?_
  try simp only [tk0, tk1, tk2, tk3, tk4]
  refine take_dst 19 22 (.int .i64 p.regs) rfl (by kernel_rfl) (by kernel_rfl) (by kernel_rfl) (fun _ _ _ h => h) (Or.inl ⟨by rfl, by intro wv hSv; unfold OldS at hSv; go_simp⟩) hd rfl ?_
  try simp only [tk0, tk1, tk2, tk3, tk4]
  refine wpAnyH_ready (rs := [14]) (by kernel_rfl) (by simp) ?_
  refine AllReadyH.cons rfl (fun KK hKK => ?_) AllReadyH.nil
  go_simp
  refine (regsOfCall_in (n : Int) a b c s _ a1 a2 b1 b2 c1 c2).mono ?_
  rintro e y2 ⟨rfl, b2⟩
  replace b2 : Below w0.heap.size w0 y2 := ⟨b2.os, b2.tape, b2.output, b2.size, b2.block⟩
  have h2o : OldS w0 y2 := OldS.of b2
  go_wp2_with fail
  refine hKK.out _ _ h2o (fun _ => ?_)
  clear hKK KK
  try simp only [tk0, tk1, tk2, tk3, tk4]
  refine take_dst 20 23 (.bool (decide (a + max (1 + rsz b) (rsz c) ≤ p.regs))) rfl (by kernel_rfl) (by kernel_rfl) (by kernel_rfl) (fun _ _ _ h => h) (Or.inl ⟨by rfl, by intro wv hSv; unfold OldS at hSv; go_simp⟩) h2o rfl ?_
  try simp only [tk0, tk1, tk2, tk3, tk4]
  refine take_dst 21 24 (.bool (decide (a + max (1 + rsz b) (rsz c) ≤ p.regs))) rfl (by kernel_rfl) (by kernel_rfl) (by kernel_rfl) (fun _ _ _ h => h) (Or.inl ⟨by rfl, by intro wv hSv; unfold OldS at hSv; go_simp⟩) h2o rfl ?_
  try simp only [tk0, tk1, tk2, tk3, tk4]
  refine take_dst 22 2 (.bool (decide (a + max (1 + rsz b) (rsz c) ≤ p.regs))) rfl (by kernel_rfl) (by kernel_rfl) (by kernel_rfl) (fun _ _ _ h => h) (Or.inl ⟨by rfl, by intro wv hSv; unfold OldS at hSv; go_simp⟩) h2o rfl ?_
  try simp only [tk0, tk1, tk2, tk3, tk4]
  have bF := bw.trans (b2.mono bw.size)
  clear b2 h2o
  refine wpAnyH_done (by kernel_rfl) ?_ _
  clear hH hd r0 r1 r2 r3 r4 r5 r6 r7 p1 p2 p3 p4 p5 p6
  go_wp2_with fail
  go_ret
  exact ⟨⟨_, rfl, decide_eq_true_iff⟩, bF⟩
theorem part_nil (w : World) (pb po B uo : Nat) (pc : Int) (n : Nat) (a b c s : Int) (p : PD) (a3 a4 a5 : Value) (hP : PtrP w pb po p a3 a4 a5) (hU : UsO w B uo) (hB : B < w.heap.size) (hn : n ≤ 33) (hf9 : usC n 9 = .nilFunc) :
    Calls Tryz.prog 116 #[plN pb po B uo pc n a b c s] w fun e w' => Says e (True) ∧ Below w.heap.size w w' := by
  have hU9 := hU n
  have t9 : w.cell? ⟨B, uo + n * 10 + 9, none⟩ = some (.nilFunc) := by rw [← hf9]; exact hU n 9 (by omega) (by omega)
  clear hU9
  go_enter Tryz.func116, Tryz.ntmps116
  go_wp2_with fail
  have R0 := RowL.new w [.pointer (some ⟨pb, po, none⟩), .pointer (some ⟨B, uo + n * 10, none⟩), .int .i64 pc, .int .i64 (n : Int), .int .i64 a, .int .i64 b, .int .i64 c, .int .i64 s] 150
  have bw : Below w.heap.size w (w.alloc (.cells #[.pointer (some ⟨pb, po, none⟩), .pointer (some ⟨B, uo + n * 10, none⟩), .int .i64 pc, .int .i64 (n : Int), .int .i64 a, .int .i64 b, .int .i64 c, .int .i64 s] 150)) := (Below.refl _ _).alloc (Nat.le_refl _) _
  generalize w.alloc (.cells #[.pointer (some ⟨pb, po, none⟩), .pointer (some ⟨B, uo + n * 10, none⟩), .int .i64 pc, .int .i64 (n : Int), .int .i64 a, .int .i64 b, .int .i64 c, .int .i64 s] 150) = w0 at R0 bw ⊢
  have r0 := R0.cell 0 rfl
  have r1 := R0.cell 1 rfl
  have r2 := R0.cell 2 rfl
  have r3 := R0.cell 3 rfl
  have r4 := R0.cell 4 rfl
  have r5 := R0.cell 5 rfl
  have r6 := R0.cell 6 rfl
  have r7 := R0.cell 7 rfl
  have hl := R0.lt
  clear R0
  have hP0 := hP.later bw
  have p1 := hP0.c1
  have p2 := hP0.c2
  have p3 := hP0.c3
  have p4 := hP0.c4
  have p5 := hP0.c5
  have p6 := hP0.c6
  have hpb := hP0.lt
  have hB0 : B < w0.heap.size := Nat.lt_of_lt_of_le hB bw.size
  replace t9 := (bw.cell (p := ⟨B, uo + n * 10 + 9, none⟩) hB).trans t9
  replace hP0 : Hid _ := hP0
  replace hP : Hid _ := hP
  replace hU : Hid _ := hU
  clear hf9
  have hd : OldS w0 w0.drew := OldS.of (Below.refl _ _).drew
  refine wp_region_held_drew (S := OldS w0) (by kernel_rfl) hd (fun hH => ?_)
  refine take_dst 0 3 (.pointer (some ⟨w.heap.size, 1, none⟩)) rfl (by kernel_rfl) (by kernel_rfl) (by kernel_rfl) (fun _ _ _ h => h) (Or.inl ⟨by rfl, by intro wv hSv; unfold OldS at hSv; go_simp⟩) hd rfl ?_
  try simp only [tk0, tk1, tk2, tk3, tk4]
  refine take_dst 1 4 (.pointer (some ⟨B, uo + n * 10, none⟩)) rfl (by kernel_rfl) (by kernel_rfl) (by kernel_rfl) (fun _ _ _ h => h) (Or.inl ⟨by rfl, by intro wv hSv; unfold OldS at hSv; go_simp⟩) hd rfl ?_
  try simp only [tk0, tk1, tk2, tk3, tk4]
  refine take_dst 2 5 (.pointer (some ⟨B, uo + n * 10, none⟩)) rfl (by kernel_rfl) (by kernel_rfl) (by kernel_rfl) (fun _ _ _ h => h) (Or.inl ⟨by rfl, by intro wv hSv; unfold OldS at hSv; go_simp⟩) hd rfl ?_
  try simp only [tk0, tk1, tk2, tk3, tk4]
  refine take_dst 3 6 (.pointer (some ⟨B, uo + n * 10 + 9, none⟩)) rfl (by kernel_rfl) (by kernel_rfl) (by kernel_rfl) (fun _ _ _ h => h) (Or.inl ⟨by rfl, by intro wv hSv; unfold OldS at hSv; go_simp⟩) hd rfl ?_
  try simp only [tk0, tk1, tk2, tk3, tk4]
  refine take_dst 4 7 (.nilFunc) rfl (by kernel_rfl) (by kernel_rfl) (by kernel_rfl) (fun _ _ _ h => h) (Or.inl ⟨by rfl, by intro wv hSv; unfold OldS at hSv; go_simp⟩) hd rfl ?_
  try simp only [tk0, tk1, tk2, tk3, tk4]
  refine take_dst 5 8 (.bool true) rfl (by kernel_rfl) (by kernel_rfl) (by kernel_rfl) (fun _ _ _ h => h) (Or.inl ⟨by rfl, by intro wv hSv; unfold OldS at hSv; go_simp⟩) hd rfl ?_
  try simp only [tk0, tk1, tk2, tk3, tk4]
  refine take_dst 6 9 (.bool true) rfl (by kernel_rfl) (by kernel_rfl) (by kernel_rfl) (fun _ _ _ h => h) (Or.inl ⟨by rfl, by intro wv hSv; unfold OldS at hSv; go_simp⟩) hd rfl ?_
  try simp only [tk0, tk1, tk2, tk3, tk4]
  refine take_dst 7 10 undef rfl (by kernel_rfl) (by kernel_rfl) (by kernel_rfl) (fun _ _ _ h => h) (Or.inr ⟨by rfl, rfl⟩) hd rfl ?_
  try simp only [tk0, tk1, tk2, tk3, tk4]
  refine take_dst 8 11 undef rfl (by kernel_rfl) (by kernel_rfl) (by kernel_rfl) (fun _ _ _ h => h) (Or.inr ⟨by rfl, rfl⟩) hd rfl ?_
  try simp only [tk0, tk1, tk2, tk3, tk4]
  refine take_dst 9 12 undef rfl (by kernel_rfl) (by kernel_rfl) (by kernel_rfl) (fun _ _ _ h => h) (Or.inr ⟨by rfl, rfl⟩) hd rfl ?_
  try simp only [tk0, tk1, tk2, tk3, tk4]
  refine take_dst 10 13 undef rfl (by kernel_rfl) (by kernel_rfl) (by kernel_rfl) (fun _ _ _ h => h) (Or.inr ⟨by rfl, rfl⟩) hd rfl ?_
  try simp only [tk0, tk1, tk2, tk3, tk4]
  refine take_dst 11 14 undef rfl (by kernel_rfl) (by kernel_rfl) (by kernel_rfl) (fun _ _ _ h => h) (Or.inr ⟨by rfl, rfl⟩) hd rfl ?_
  try simp only [tk0, tk1, tk2, tk3, tk4]
  refine take_dst 12 15 undef rfl (by kernel_rfl) (by kernel_rfl) (by kernel_rfl) (fun _ _ _ h => h) (Or.inr ⟨by rfl, rfl⟩) hd rfl ?_
  try simp only [tk0, tk1, tk2, tk3, tk4]
  refine take_dst 13 16 undef rfl (by kernel_rfl) (by kernel_rfl) (by kernel_rfl) (fun _ _ _ h => h) (Or.inr ⟨by rfl, rfl⟩) hd rfl ?_
  try simp only [tk0, tk1, tk2, tk3, tk4]
  refine take_dst 14 17 (.bool true) rfl (by kernel_rfl) (by kernel_rfl) (by kernel_rfl) (fun _ _ _ h => h) (Or.inl ⟨by rfl, by intro wv hSv; unfold OldS at hSv; go_simp⟩) hd rfl ?_
  try simp only [tk0, tk1, tk2, tk3, tk4]
  refine take_dst 15 2 (.bool true) rfl (by kernel_rfl) (by kernel_rfl) (by kernel_rfl) (fun _ _ _ h => h) (Or.inl ⟨by rfl, by intro wv hSv; unfold OldS at hSv; go_simp⟩) hd rfl ?_
  try simp only [tk0, tk1, tk2, tk3, tk4]
  refine wpAnyH_done (by kernel_rfl) ?_ _
  clear hH hd r0 r1 r2 r3 r4 r5 r6 r7 p1 p2 p3 p4 p5 p6
  go_wp2_with fail
  go_ret
  exact ⟨says_yes trivial, bw.drew⟩
theorem part_jumpBehind (w : World) (pb po B uo : Nat) (pc : Int) (n : Nat) (a b c s : Int) (p : PD) (a3 a4 a5 : Value) (hP : PtrP w pb po p a3 a4 a5) (hU : UsO w B uo) (hB : B < w.heap.size) (hn : n ≤ 33) (Q : Prop) (hf9 : usC n 9 = .func (.func 81) #[] #[]) (hF : Hid (∀ y, Below w.heap.size w y → Calls Tryz.prog 81 #[.agg #[.pointer (some ⟨pb, po, none⟩), .pointer (some ⟨B, uo + n * 10, none⟩), .int .i64 pc, .int .i64 (n : Int), .int .i64 a, .int .i64 b, .int .i64 c, .int .i64 s]] y fun e w' => Says e Q ∧ Below y.heap.size y w')) :
    Calls Tryz.prog 116 #[plN pb po B uo pc n a b c s] w fun e w' => Says e (Q) ∧ Below w.heap.size w w' := by
  have hU9 := hU n
  have t9 : w.cell? ⟨B, uo + n * 10 + 9, none⟩ = some (.func (.func 81) #[] #[]) := by rw [← hf9]; exact hU n 9 (by omega) (by omega)
  clear hU9
  go_enter Tryz.func116, Tryz.ntmps116
  go_wp2_with fail
  have R0 := RowL.new w [.pointer (some ⟨pb, po, none⟩), .pointer (some ⟨B, uo + n * 10, none⟩), .int .i64 pc, .int .i64 (n : Int), .int .i64 a, .int .i64 b, .int .i64 c, .int .i64 s] 150
  have bw : Below w.heap.size w (w.alloc (.cells #[.pointer (some ⟨pb, po, none⟩), .pointer (some ⟨B, uo + n * 10, none⟩), .int .i64 pc, .int .i64 (n : Int), .int .i64 a, .int .i64 b, .int .i64 c, .int .i64 s] 150)) := (Below.refl _ _).alloc (Nat.le_refl _) _
  generalize w.alloc (.cells #[.pointer (some ⟨pb, po, none⟩), .pointer (some ⟨B, uo + n * 10, none⟩), .int .i64 pc, .int .i64 (n : Int), .int .i64 a, .int .i64 b, .int .i64 c, .int .i64 s] 150) = w0 at R0 bw ⊢
  have r0 := R0.cell 0 rfl
  have r1 := R0.cell 1 rfl
  have r2 := R0.cell 2 rfl
  have r3 := R0.cell 3 rfl
  have r4 := R0.cell 4 rfl
  have r5 := R0.cell 5 rfl
  have r6 := R0.cell 6 rfl
  have r7 := R0.cell 7 rfl
  have hl := R0.lt
  clear R0
  have hP0 := hP.later bw
  have p1 := hP0.c1
  have p2 := hP0.c2
  have p3 := hP0.c3
  have p4 := hP0.c4
  have p5 := hP0.c5
  have p6 := hP0.c6
  have hpb := hP0.lt
  have hB0 : B < w0.heap.size := Nat.lt_of_lt_of_le hB bw.size
  replace t9 := (bw.cell (p := ⟨B, uo + n * 10 + 9, none⟩) hB).trans t9
  replace hP0 : Hid _ := hP0
  replace hP : Hid _ := hP
  replace hU : Hid _ := hU
  clear hf9
  have hd : OldS w0 w0.drew := OldS.of (Below.refl _ _).drew
  refine wp_region_held_drew (S := OldS w0) (by kernel_rfl) hd (fun hH => ?_)
  refine take_dst 0 3 (.pointer (some ⟨w.heap.size, 1, none⟩)) rfl (by kernel_rfl) (by kernel_rfl) (by kernel_rfl) (fun _ _ _ h => h) (Or.inl ⟨by rfl, by intro wv hSv; unfold OldS at hSv; go_simp⟩) hd rfl ?_
  try simp only [tk0, tk1, tk2, tk3, tk4]
  refine take_dst 1 4 (.pointer (some ⟨B, uo + n * 10, none⟩)) rfl (by kernel_rfl) (by kernel_rfl) (by kernel_rfl) (fun _ _ _ h => h) (Or.inl ⟨by rfl, by intro wv hSv; unfold OldS at hSv; go_simp⟩) hd rfl ?_
  try simp only [tk0, tk1, tk2, tk3, tk4]
  refine take_dst 2 5 (.pointer (some ⟨B, uo + n * 10, none⟩)) rfl (by kernel_rfl) (by kernel_rfl) (by kernel_rfl) (fun _ _ _ h => h) (Or.inl ⟨by rfl, by intro wv hSv; unfold OldS at hSv; go_simp⟩) hd rfl ?_
  try simp only [tk0, tk1, tk2, tk3, tk4]
  refine take_dst 3 6 (.pointer (some ⟨B, uo + n * 10 + 9, none⟩)) rfl (by kernel_rfl) (by kernel_rfl) (by kernel_rfl) (fun _ _ _ h => h) (Or.inl ⟨by rfl, by intro wv hSv; unfold OldS at hSv; go_simp⟩) hd rfl ?_
  try simp only [tk0, tk1, tk2, tk3, tk4]
  refine take_dst 4 7 (.func (.func 81) #[] #[]) rfl (by kernel_rfl) (by kernel_rfl) (by kernel_rfl) (fun _ _ _ h => h) (Or.inl ⟨by rfl, by intro wv hSv; unfold OldS at hSv; go_simp⟩) hd rfl ?_
  try simp only [tk0, tk1, tk2, tk3, tk4]
  refine take_dst 5 8 (.bool false) rfl (by kernel_rfl) (by kernel_rfl) (by kernel_rfl) (fun _ _ _ h => h) (Or.inl ⟨by rfl, by intro wv hSv; unfold OldS at hSv; go_simp⟩) hd rfl ?_
  try simp only [tk0, tk1, tk2, tk3, tk4]
  refine take_dst 6 9 (.bool false) rfl (by kernel_rfl) (by kernel_rfl) (by kernel_rfl) (fun _ _ _ h => h) (Or.inl ⟨by rfl, by intro wv hSv; unfold OldS at hSv; go_simp⟩) hd rfl ?_
  try simp only [tk0, tk1, tk2, tk3, tk4]
  refine take_dst 7 10 (.pointer (some ⟨w.heap.size, 1, none⟩)) rfl (by kernel_rfl) (by kernel_rfl) (by kernel_rfl) (fun _ _ _ h => h) (Or.inl ⟨by rfl, by intro wv hSv; unfold OldS at hSv; go_simp⟩) hd rfl ?_
  try simp only [tk0, tk1, tk2, tk3, tk4]
  refine take_dst 8 11 (.pointer (some ⟨B, uo + n * 10, none⟩)) rfl (by kernel_rfl) (by kernel_rfl) (by kernel_rfl) (fun _ _ _ h => h) (Or.inl ⟨by rfl, by intro wv hSv; unfold OldS at hSv; go_simp⟩) hd rfl ?_
  try simp only [tk0, tk1, tk2, tk3, tk4]
  refine take_dst 9 12 (.pointer (some ⟨B, uo + n * 10, none⟩)) rfl (by kernel_rfl) (by kernel_rfl) (by kernel_rfl) (fun _ _ _ h => h) (Or.inl ⟨by rfl, by intro wv hSv; unfold OldS at hSv; go_simp⟩) hd rfl ?_
  try simp only [tk0, tk1, tk2, tk3, tk4]
  refine take_dst 10 13 (.pointer (some ⟨B, uo + n * 10 + 9, none⟩)) rfl (by kernel_rfl) (by kernel_rfl) (by kernel_rfl) (fun _ _ _ h => h) (Or.inl ⟨by rfl, by intro wv hSv; unfold OldS at hSv; go_simp⟩) hd rfl ?_
  try simp only [tk0, tk1, tk2, tk3, tk4]
  refine take_dst 11 14 (.func (.func 81) #[] #[]) rfl (by kernel_rfl) (by kernel_rfl) (by kernel_rfl) (fun _ _ _ h => h) (Or.inl ⟨by rfl, by intro wv hSv; unfold OldS at hSv; go_simp⟩) hd rfl ?_
  try simp only [tk0, tk1, tk2, tk3, tk4]
  refine take_dst 12 15 (.agg #[.pointer (some ⟨pb, po, none⟩), .pointer (some ⟨B, uo + n * 10, none⟩), .int .i64 pc, .int .i64 (n : Int), .int .i64 a, .int .i64 b, .int .i64 c, .int .i64 s]) rfl (by kernel_rfl) (by kernel_rfl) (by kernel_rfl) (fun _ _ _ h => h) (Or.inl ⟨by rfl, by intro wv hSv; unfold OldS at hSv; go_simp⟩) hd rfl ?_
  try simp only [tk0, tk1, tk2, tk3, tk4]
  refine wpAnyH_ready (rs := [13]) (by kernel_rfl) (by simp) ?_
  refine AllReadyH.cons rfl (fun KK hKK => ?_) AllReadyH.nil
  go_simp
  refine (hF.out _ (bw.trans ((Below.refl _ _).drew.mono bw.size))).mono ?_
  rintro e y2 ⟨⟨r, rfl, hr⟩, b2⟩
  replace b2 : Below w0.heap.size w0 y2 := ⟨b2.os, b2.tape, b2.output, b2.size, b2.block⟩
  have h2o : OldS w0 y2 := OldS.of b2
  go_wp2_with fail
  refine hKK.out _ _ h2o (fun _ => ?_)
  clear hKK KK
  try simp only [tk0, tk1, tk2, tk3, tk4]
  refine take_dst 14 17 (.bool r) rfl (by kernel_rfl) (by kernel_rfl) (by kernel_rfl) (fun _ _ _ h => h) (Or.inl ⟨by rfl, by intro wv hSv; unfold OldS at hSv; go_simp⟩) h2o rfl ?_
  try simp only [tk0, tk1, tk2, tk3, tk4]
  refine take_dst 15 2 (.bool r) rfl (by kernel_rfl) (by kernel_rfl) (by kernel_rfl) (fun _ _ _ h => h) (Or.inl ⟨by rfl, by intro wv hSv; unfold OldS at hSv; go_simp⟩) h2o rfl ?_
  try simp only [tk0, tk1, tk2, tk3, tk4]
  have bF := bw.trans (b2.mono bw.size)
  clear b2 h2o
  refine wpAnyH_done (by kernel_rfl) ?_ _
  clear hH hd r0 r1 r2 r3 r4 r5 r6 r7 p1 p2 p3 p4 p5 p6
  go_wp2_with fail
  go_ret
  exact ⟨⟨_, rfl, hr⟩, bF⟩
theorem part_loopCloses (w : World) (pb po B uo : Nat) (pc : Int) (n : Nat) (a b c s : Int) (p : PD) (a3 a4 a5 : Value) (hP : PtrP w pb po p a3 a4 a5) (hU : UsO w B uo) (hB : B < w.heap.size) (hn : n ≤ 33) (Q : Prop) (hf9 : usC n 9 = .func (.func 93) #[] #[]) (hF : Hid (∀ y, Below w.heap.size w y → Calls Tryz.prog 93 #[.agg #[.pointer (some ⟨pb, po, none⟩), .pointer (some ⟨B, uo + n * 10, none⟩), .int .i64 pc, .int .i64 (n : Int), .int .i64 a, .int .i64 b, .int .i64 c, .int .i64 s]] y fun e w' => Says e Q ∧ Below y.heap.size y w')) :
    Calls Tryz.prog 116 #[plN pb po B uo pc n a b c s] w fun e w' => Says e (Q) ∧ Below w.heap.size w w' := by
  have hU9 := hU n
  have t9 : w.cell? ⟨B, uo + n * 10 + 9, none⟩ = some (.func (.func 93) #[] #[]) := by rw [← hf9]; exact hU n 9 (by omega) (by omega)
  clear hU9
  go_enter Tryz.func116, Tryz.ntmps116
  go_wp2_with fail
  have R0 := RowL.new w [.pointer (some ⟨pb, po, none⟩), .pointer (some ⟨B, uo + n * 10, none⟩), .int .i64 pc, .int .i64 (n : Int), .int .i64 a, .int .i64 b, .int .i64 c, .int .i64 s] 150
  have bw : Below w.heap.size w (w.alloc (.cells #[.pointer (some ⟨pb, po, none⟩), .pointer (some ⟨B, uo + n * 10, none⟩), .int .i64 pc, .int .i64 (n : Int), .int .i64 a, .int .i64 b, .int .i64 c, .int .i64 s] 150)) := (Below.refl _ _).alloc (Nat.le_refl _) _
  generalize w.alloc (.cells #[.pointer (some ⟨pb, po, none⟩), .pointer (some ⟨B, uo + n * 10, none⟩), .int .i64 pc, .int .i64 (n : Int), .int .i64 a, .int .i64 b, .int .i64 c, .int .i64 s] 150) = w0 at R0 bw ⊢
  have r0 := R0.cell 0 rfl
  have r1 := R0.cell 1 rfl
  have r2 := R0.cell 2 rfl
  have r3 := R0.cell 3 rfl
  have r4 := R0.cell 4 rfl
  have r5 := R0.cell 5 rfl
  have r6 := R0.cell 6 rfl
  have r7 := R0.cell 7 rfl
  have hl := R0.lt
  clear R0
  have hP0 := hP.later bw
  have p1 := hP0.c1
  have p2 := hP0.c2
  have p3 := hP0.c3
  have p4 := hP0.c4
  have p5 := hP0.c5
  have p6 := hP0.c6
  have hpb := hP0.lt
  have hB0 : B < w0.heap.size := Nat.lt_of_lt_of_le hB bw.size
  replace t9 := (bw.cell (p := ⟨B, uo + n * 10 + 9, none⟩) hB).trans t9
  replace hP0 : Hid _ := hP0
  replace hP : Hid _ := hP
  replace hU : Hid _ := hU
  clear hf9
  have hd : OldS w0 w0.drew := OldS.of (Below.refl _ _).drew
  refine wp_region_held_drew (S := OldS w0) (by kernel_rfl) hd (fun hH => ?_)
  refine take_dst 0 3 (.pointer (some ⟨w.heap.size, 1, none⟩)) rfl (by kernel_rfl) (by kernel_rfl) (by kernel_rfl) (fun _ _ _ h => h) (Or.inl ⟨by rfl, by intro wv hSv; unfold OldS at hSv; go_simp⟩) hd rfl ?_
  try simp only [tk0, tk1, tk2, tk3, tk4]
  refine take_dst 1 4 (.pointer (some ⟨B, uo + n * 10, none⟩)) rfl (by kernel_rfl) (by kernel_rfl) (by kernel_rfl) (fun _ _ _ h => h) (Or.inl ⟨by rfl, by intro wv hSv; unfold OldS at hSv; go_simp⟩) hd rfl ?_
  try simp only [tk0, tk1, tk2, tk3, tk4]
  refine take_dst 2 5 (.pointer (some ⟨B, uo + n * 10, none⟩)) rfl (by kernel_rfl) (by kernel_rfl) (by kernel_rfl) (fun _ _ _ h => h) (Or.inl ⟨by rfl, by intro wv hSv; unfold OldS at hSv; go_simp⟩) hd rfl ?_
  try simp only [tk0, tk1, tk2, tk3, tk4]
  refine take_dst 3 6 (.pointer (some ⟨B, uo + n * 10 + 9, none⟩)) rfl (by kernel_rfl) (by kernel_rfl) (by kernel_rfl) (fun _ _ _ h => h) (Or.inl ⟨by rfl, by intro wv hSv; unfold OldS at hSv; go_simp⟩) hd rfl ?_
  try simp only [tk0, tk1, tk2, tk3, tk4]
  refine take_dst 4 7 (.func (.func 93) #[] #[]) rfl (by kernel_rfl) (by kernel_rfl) (by kernel_rfl) (fun _ _ _ h => h) (Or.inl ⟨by rfl, by intro wv hSv; unfold OldS at hSv; go_simp⟩) hd rfl ?_
  try simp only [tk0, tk1, tk2, tk3, tk4]
  refine take_dst 5 8 (.bool false) rfl (by kernel_rfl) (by kernel_rfl) (by kernel_rfl) (fun _ _ _ h => h) (Or.inl ⟨by rfl, by intro wv hSv; unfold OldS at hSv; go_simp⟩) hd rfl ?_
  try simp only [tk0, tk1, tk2, tk3, tk4]
  refine take_dst 6 9 (.bool false) rfl (by kernel_rfl) (by kernel_rfl) (by kernel_rfl) (fun _ _ _ h => h) (Or.inl ⟨by rfl, by intro wv hSv; unfold OldS at hSv; go_simp⟩) hd rfl ?_
  try simp only [tk0, tk1, tk2, tk3, tk4]
  refine take_dst 7 10 (.pointer (some ⟨w.heap.size, 1, none⟩)) rfl (by kernel_rfl) (by kernel_rfl) (by kernel_rfl) (fun _ _ _ h => h) (Or.inl ⟨by rfl, by intro wv hSv; unfold OldS at hSv; go_simp⟩) hd rfl ?_
  try simp only [tk0, tk1, tk2, tk3, tk4]
  refine take_dst 8 11 (.pointer (some ⟨B, uo + n * 10, none⟩)) rfl (by kernel_rfl) (by kernel_rfl) (by kernel_rfl) (fun _ _ _ h => h) (Or.inl ⟨by rfl, by intro wv hSv; unfold OldS at hSv; go_simp⟩) hd rfl ?_
  try simp only [tk0, tk1, tk2, tk3, tk4]
  refine take_dst 9 12 (.pointer (some ⟨B, uo + n * 10, none⟩)) rfl (by kernel_rfl) (by kernel_rfl) (by kernel_rfl) (fun _ _ _ h => h) (Or.inl ⟨by rfl, by intro wv hSv; unfold OldS at hSv; go_simp⟩) hd rfl ?_
  try simp only [tk0, tk1, tk2, tk3, tk4]
  refine take_dst 10 13 (.pointer (some ⟨B, uo + n * 10 + 9, none⟩)) rfl (by kernel_rfl) (by kernel_rfl) (by kernel_rfl) (fun _ _ _ h => h) (Or.inl ⟨by rfl, by intro wv hSv; unfold OldS at hSv; go_simp⟩) hd rfl ?_
  try simp only [tk0, tk1, tk2, tk3, tk4]
  refine take_dst 11 14 (.func (.func 93) #[] #[]) rfl (by kernel_rfl) (by kernel_rfl) (by kernel_rfl) (fun _ _ _ h => h) (Or.inl ⟨by rfl, by intro wv hSv; unfold OldS at hSv; go_simp⟩) hd rfl ?_
  try simp only [tk0, tk1, tk2, tk3, tk4]
  refine take_dst 12 15 (.agg #[.pointer (some ⟨pb, po, none⟩), .pointer (some ⟨B, uo + n * 10, none⟩), .int .i64 pc, .int .i64 (n : Int), .int .i64 a, .int .i64 b, .int .i64 c, .int .i64 s]) rfl (by kernel_rfl) (by kernel_rfl) (by kernel_rfl) (fun _ _ _ h => h) (Or.inl ⟨by rfl, by intro wv hSv; unfold OldS at hSv; go_simp⟩) hd rfl ?_
  try simp only [tk0, tk1, tk2, tk3, tk4]
  refine wpAnyH_ready (rs := [13]) (by kernel_rfl) (by simp) ?_
  refine AllReadyH.cons rfl (fun KK hKK => ?_) AllReadyH.nil
  go_simp
  refine (hF.out _ (bw.trans ((Below.refl _ _).drew.mono bw.size))).mono ?_
  rintro e y2 ⟨⟨r, rfl, hr⟩, b2⟩
  replace b2 : Below w0.heap.size w0 y2 := ⟨b2.os, b2.tape, b2.output, b2.size, b2.block⟩
  have h2o : OldS w0 y2 := OldS.of b2
  go_wp2_with fail
  refine hKK.out _ _ h2o (fun _ => ?_)
  clear hKK KK
  try simp only [tk0, tk1, tk2, tk3, tk4]
  refine take_dst 14 17 (.bool r) rfl (by kernel_rfl) (by kernel_rfl) (by kernel_rfl) (fun _ _ _ h => h) (Or.inl ⟨by rfl, by intro wv hSv; unfold OldS at hSv; go_simp⟩) h2o rfl ?_
  try simp only [tk0, tk1, tk2, tk3, tk4]
  refine take_dst 15 2 (.bool r) rfl (by kernel_rfl) (by kernel_rfl) (by kernel_rfl) (fun _ _ _ h => h) (Or.inl ⟨by rfl, by intro wv hSv; unfold OldS at hSv; go_simp⟩) h2o rfl ?_
  try simp only [tk0, tk1, tk2, tk3, tk4]
  have bF := bw.trans (b2.mono bw.size)
  clear b2 h2o
  refine wpAnyH_done (by kernel_rfl) ?_ _
  clear hH hd r0 r1 r2 r3 r4 r5 r6 r7 p1 p2 p3 p4 p5 p6
  go_wp2_with fail
  go_ret
  exact ⟨⟨_, rfl, hr⟩, bF⟩
end Go.Proofs.YtckapapejfnojaaGreatDoor

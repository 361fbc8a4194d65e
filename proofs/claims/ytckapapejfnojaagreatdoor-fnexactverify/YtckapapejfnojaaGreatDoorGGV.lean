import Derived.Test.YtckapapejfnojaaGreatDoorVmDV
import Derived.Test.YtckapapejfnojaaGreatDoorGAV
namespace Go.Proofs.YtckapapejfnojaaGreatDoor
section
open Go.RowKit Go.Shelf
set_option linter.unusedVariables false
set_option linter.unusedSimpArgs false
set_option maxRecDepth 100000
set_option maxHeartbeats 2000000
attribute [local go_sem] Oper.semAt_some
theorem instrAt_no (w : World) (pb po B uo : Nat) (pc : Int) (n : Nat) (a b c s : Int) (p : PD) (a3 a4 a5 : Value) (hP : PtrP w pb po p a3 a4 a5) (z : Int) (hp : Prt z n a b c s) (hn2 : p.code.n ≤ 2000) (hn0 : 0 < p.code.n) (x : Int) (hx : ¬ (0 ≤ x ∧ x < (p.code.n : Int))) :
    Calls Tryz.prog 159 #[plN pb po B uo pc n a b c s, .int .i64 x] w fun e w' => e = .returned (.tuple #[insV 0 0 0 0 0, .bool false]) ∧ Below w.heap.size w w' := by
  go_enter Tryz.func159, Tryz.ntmps159
  go_wp2_with fail
  have R0 := (RowL.new w [.pointer (some ⟨pb, po, none⟩), .pointer (some ⟨B, uo + n * 10, none⟩), .int .i64 pc, .int .i64 (n : Int), .int .i64 a, .int .i64 b, .int .i64 c, .int .i64 s] 150).alloc (.cells #[.int .i64 0, .int .i64 0, .int .i64 0, .int .i64 0, .int .i64 0] 88)
  have Q0 := RowL.new (w.alloc (.cells #[.pointer (some ⟨pb, po, none⟩), .pointer (some ⟨B, uo + n * 10, none⟩), .int .i64 pc, .int .i64 (n : Int), .int .i64 a, .int .i64 b, .int .i64 c, .int .i64 s] 150)) [.int .i64 0, .int .i64 0, .int .i64 0, .int .i64 0, .int .i64 0] 88
  rw [World.size_alloc] at Q0
  have bw : Below w.heap.size w ((w.alloc (.cells #[.pointer (some ⟨pb, po, none⟩), .pointer (some ⟨B, uo + n * 10, none⟩), .int .i64 pc, .int .i64 (n : Int), .int .i64 a, .int .i64 b, .int .i64 c, .int .i64 s] 150)).alloc (.cells #[.int .i64 0, .int .i64 0, .int .i64 0, .int .i64 0, .int .i64 0] 88)) := ((Below.refl _ _).alloc (Nat.le_refl _) _).alloc (by rw [World.size_alloc]; omega) _
  generalize (w.alloc (.cells #[.pointer (some ⟨pb, po, none⟩), .pointer (some ⟨B, uo + n * 10, none⟩), .int .i64 pc, .int .i64 (n : Int), .int .i64 a, .int .i64 b, .int .i64 c, .int .i64 s] 150)).alloc (.cells #[.int .i64 0, .int .i64 0, .int .i64 0, .int .i64 0, .int .i64 0] 88) = w2 at R0 Q0 bw ⊢
  have hic := inCode_in w2 pb po B uo pc z p a3 a4 a5 (hP.later bw) x hn2 hn0 false (by simp; omega)
  rw [plV_eq hp] at hic
  refine hic.mono ?_
  rintro e y ⟨rfl, b9⟩
  clear hic
  replace R0 := R0.call b9
  replace Q0 := Q0.call b9
  replace bw := bw.trans (b9.mono bw.size)
  clear b9
  have e0 := Q0.cell 0 rfl
  have e1 := Q0.cell 1 rfl
  have e2 := Q0.cell 2 rfl
  have e3 := Q0.cell 3 rfl
  have e4 := Q0.cell 4 rfl
  have ef := Q0.frozen
  have L := ((((((Q0).set 0 (.int .i64 0)).set 1 (.int .i64 0)).set 2 (.int .i64 0)).set 3 (.int .i64 0)).set 4 (.int .i64 0))
  have bf := (Below.setCell (Below.setCell (Below.setCell (Below.setCell (Below.setCell bw (p := ⟨w.heap.size + 1, 0, none⟩) (Nat.le_succ _) (.int .i64 0)) (p := ⟨w.heap.size + 1, 1, none⟩) (Nat.le_succ _) (.int .i64 0)) (p := ⟨w.heap.size + 1, 2, none⟩) (Nat.le_succ _) (.int .i64 0)) (p := ⟨w.heap.size + 1, 3, none⟩) (Nat.le_succ _) (.int .i64 0)) (p := ⟨w.heap.size + 1, 4, none⟩) (Nat.le_succ _) (.int .i64 0))
  have l0 := L.cell 0 rfl
  have l1 := L.cell 1 rfl
  have l2 := L.cell 2 rfl
  have l3 := L.cell 3 rfl
  have l4 := L.cell 4 rfl
  replace L : Hid _ := L
  replace Q0 : Hid _ := Q0
  go_wp2_with fail
  refine bodyPost_ret (v := .tuple #[insV 0 0 0 0 0, .bool false]) ?_ rfl ⟨rfl, bf⟩
  simp [results, Tryz.results159, go_sem, l0, l1, l2, l3, l4]
theorem instrAt_yes (w : World) (pb po B uo : Nat) (pc : Int) (n : Nat) (a b c s : Int) (p : PD) (a3 a4 a5 : Value) (hP : PtrP w pb po p a3 a4 a5) (z : Int) (hp : Prt z n a b c s) (hn2 : p.code.n ≤ 2000) (hn0 : 0 < p.code.n) (hS : Spans w) (x : Int) (t : Nat) (hx : x = (t : Int)) (ht : t < p.code.n) (z9 : Int) (hz9 : p.code.f t = z9) (hz1 : 0 ≤ z9) (hz2 : z9 ≤ 4294967295) :
    Calls Tryz.prog 159 #[plN pb po B uo pc n a b c s, .int .i64 x] w fun e w' => e = .returned (.tuple #[insV (opW z9) (aW z9) (bW z9) (cW z9) (sW z9), .bool true]) ∧ Below w.heap.size w w' := by
  obtain ⟨bc, oc, cap, rfl, hbc, hcw⟩ := hP.word ht
  rw [hz9] at hcw
  subst hx
  replace hz9 : Hid _ := hz9
  go_enter Tryz.func159, Tryz.ntmps159
  go_wp2_with fail
  have R0 := (RowL.new w [.pointer (some ⟨pb, po, none⟩), .pointer (some ⟨B, uo + n * 10, none⟩), .int .i64 pc, .int .i64 (n : Int), .int .i64 a, .int .i64 b, .int .i64 c, .int .i64 s] 150).alloc (.cells #[.int .i64 0, .int .i64 0, .int .i64 0, .int .i64 0, .int .i64 0] 88)
  have Q0 := RowL.new (w.alloc (.cells #[.pointer (some ⟨pb, po, none⟩), .pointer (some ⟨B, uo + n * 10, none⟩), .int .i64 pc, .int .i64 (n : Int), .int .i64 a, .int .i64 b, .int .i64 c, .int .i64 s] 150)) [.int .i64 0, .int .i64 0, .int .i64 0, .int .i64 0, .int .i64 0] 88
  rw [World.size_alloc] at Q0
  have bw : Below w.heap.size w ((w.alloc (.cells #[.pointer (some ⟨pb, po, none⟩), .pointer (some ⟨B, uo + n * 10, none⟩), .int .i64 pc, .int .i64 (n : Int), .int .i64 a, .int .i64 b, .int .i64 c, .int .i64 s] 150)).alloc (.cells #[.int .i64 0, .int .i64 0, .int .i64 0, .int .i64 0, .int .i64 0] 88)) := ((Below.refl _ _).alloc (Nat.le_refl _) _).alloc (by rw [World.size_alloc]; omega) _
  generalize (w.alloc (.cells #[.pointer (some ⟨pb, po, none⟩), .pointer (some ⟨B, uo + n * 10, none⟩), .int .i64 pc, .int .i64 (n : Int), .int .i64 a, .int .i64 b, .int .i64 c, .int .i64 s] 150)).alloc (.cells #[.int .i64 0, .int .i64 0, .int .i64 0, .int .i64 0, .int .i64 0] 88) = w2 at R0 Q0 bw ⊢
  have hic := inCode_in w2 pb po B uo pc z p _ a4 a5 (hP.later bw) (t : Int) hn2 hn0 true (by simp; omega)
  rw [plV_eq hp] at hic
  refine hic.mono ?_
  rintro e y ⟨rfl, b9⟩
  clear hic
  replace R0 := R0.call b9
  replace Q0 := Q0.call b9
  replace bw := bw.trans (b9.mono bw.size)
  clear b9
  have e0 := Q0.cell 0 rfl
  have e1 := Q0.cell 1 rfl
  have e2 := Q0.cell 2 rfl
  have e3 := Q0.cell 3 rfl
  have e4 := Q0.cell 4 rfl
  have ef := Q0.frozen
  clear e0 e1 e2 e3 e4 ef
  have r0 := R0.cell 0 rfl
  have hl := R0.lt
  have p3 := (hP.later bw).c3
  have hpl := (hP.later bw).lt
  have hcy := (bw.cell (p := ⟨bc, oc + t, none⟩) hbc).trans hcw
  have hbcy : bc < y.heap.size := Nat.lt_of_lt_of_le hbc bw.size
  have hxI : (t : Int) < (p.code.n : Int) := by omega
  go_wp2_with fail
  refine (unpackI z9 _ (hS.below bw) hz1 hz2).mono ?_
  rintro e y2 ⟨rfl, b9⟩
  clear r0 p3 hcy
  replace Q0 := Q0.call b9
  replace bw := bw.trans (b9.mono bw.size)
  clear b9
  have e0 := Q0.cell 0 rfl
  have e1 := Q0.cell 1 rfl
  have e2 := Q0.cell 2 rfl
  have e3 := Q0.cell 3 rfl
  have e4 := Q0.cell 4 rfl
  have ef := Q0.frozen
  have L := ((((((Q0).set 0 (.int .i64 (opW z9))).set 1 (.int .i64 (aW z9))).set 2 (.int .i64 (bW z9))).set 3 (.int .i64 (cW z9))).set 4 (.int .i64 (sW z9)))
  have bf := (Below.setCell (Below.setCell (Below.setCell (Below.setCell (Below.setCell bw (p := ⟨w.heap.size + 1, 0, none⟩) (Nat.le_succ _) (.int .i64 (opW z9))) (p := ⟨w.heap.size + 1, 1, none⟩) (Nat.le_succ _) (.int .i64 (aW z9))) (p := ⟨w.heap.size + 1, 2, none⟩) (Nat.le_succ _) (.int .i64 (bW z9))) (p := ⟨w.heap.size + 1, 3, none⟩) (Nat.le_succ _) (.int .i64 (cW z9))) (p := ⟨w.heap.size + 1, 4, none⟩) (Nat.le_succ _) (.int .i64 (sW z9)))
  have l0 := L.cell 0 rfl
  have l1 := L.cell 1 rfl
  have l2 := L.cell 2 rfl
  have l3 := L.cell 3 rfl
  have l4 := L.cell 4 rfl
  replace L : Hid _ := L
  replace Q0 : Hid _ := Q0
  go_wp2_with fail
  refine bodyPost_ret (v := .tuple #[insV (opW z9) (aW z9) (bW z9) (cW z9) (sW z9), .bool true]) ?_ rfl ⟨rfl, bf⟩
  simp [results, Tryz.results159, go_sem, l0, l1, l2, l3, l4]
theorem jb_no (w : World) (pb po B uo : Nat) (pc : Int) (n : Nat) (a b c s : Int) (p : PD) (a3 a4 a5 : Value) (hP : PtrP w pb po p a3 a4 a5) (z : Int) (hp : Prt z n a b c s) (hn2 : p.code.n ≤ 2000) (hn0 : 0 < p.code.n) (hS : Spans w) (q : Nat) (hpc : pc = (q : Int)) (hq : q < p.code.n) (hx : ¬ (pc + 1 < (p.code.n : Int))) :
    Calls Tryz.prog 81 #[plN pb po B uo pc n a b c s] w fun e w' => Says e (opAt p (pc + 1) 18) ∧ Below w.heap.size w w' := by
  have hpI : pc ≤ 2000 := by omega
  have hp0 : 0 ≤ pc := by omega
  replace hpc : Hid (pc = (q : Int)) := hpc
  go_enter Tryz.func81, Tryz.ntmps81
  go_wp2_with fail
  have bw : Below w.heap.size w (w.alloc (.cells #[.pointer (some ⟨pb, po, none⟩), .pointer (some ⟨B, uo + n * 10, none⟩), .int .i64 pc, .int .i64 (n : Int), .int .i64 a, .int .i64 b, .int .i64 c, .int .i64 s] 150)) := (Below.refl _ _).alloc (Nat.le_refl _) _
  generalize w.alloc (.cells #[.pointer (some ⟨pb, po, none⟩), .pointer (some ⟨B, uo + n * 10, none⟩), .int .i64 pc, .int .i64 (n : Int), .int .i64 a, .int .i64 b, .int .i64 c, .int .i64 s] 150) = w0 at bw ⊢
  refine (instrAt_no _ pb po B uo pc n a b c s p a3 a4 a5 (hP.later bw) z hp hn2 hn0 (pc + 1) (by omega)).mono ?_
  rintro e y ⟨rfl, b9⟩
  replace bw := bw.trans (b9.mono bw.size)
  clear b9
  have hno : Hid (¬ opAt p (pc + 1) 18) := fun ⟨t, h1, h2, h3⟩ => by omega
  go_wp2_with fail
  go_ret
  exact ⟨says_no hno.out, bw.alloc bw.size _⟩
theorem jb_y1 (w : World) (pb po B uo : Nat) (pc : Int) (n : Nat) (a b c s : Int) (p : PD) (a3 a4 a5 : Value) (hP : PtrP w pb po p a3 a4 a5) (z : Int) (hp : Prt z n a b c s) (hn2 : p.code.n ≤ 2000) (hn0 : 0 < p.code.n) (hS : Spans w) (q : Nat) (hpc : pc = (q : Int)) (hq : q < p.code.n) (ht : q + 1 < p.code.n) (z9 : Int) (hz9 : Hid (p.code.f (q + 1) = z9)) (hz1 : 0 ≤ z9) (hz2 : z9 ≤ 4294967295) (ho : opW z9 = 18) :
    Calls Tryz.prog 81 #[plN pb po B uo pc n a b c s] w fun e w' => Says e (opAt p (pc + 1) 18) ∧ Below w.heap.size w w' := by
  have hpI : pc ≤ 2000 := by omega
  have hp0 : 0 ≤ pc := by omega
  replace hpc : Hid (pc = (q : Int)) := hpc
  go_enter Tryz.func81, Tryz.ntmps81
  go_wp2_with fail
  have bw : Below w.heap.size w (w.alloc (.cells #[.pointer (some ⟨pb, po, none⟩), .pointer (some ⟨B, uo + n * 10, none⟩), .int .i64 pc, .int .i64 (n : Int), .int .i64 a, .int .i64 b, .int .i64 c, .int .i64 s] 150)) := (Below.refl _ _).alloc (Nat.le_refl _) _
  generalize w.alloc (.cells #[.pointer (some ⟨pb, po, none⟩), .pointer (some ⟨B, uo + n * 10, none⟩), .int .i64 pc, .int .i64 (n : Int), .int .i64 a, .int .i64 b, .int .i64 c, .int .i64 s] 150) = w0 at bw ⊢
  refine (instrAt_yes _ pb po B uo pc n a b c s p a3 a4 a5 (hP.later bw) z hp hn2 hn0 (hS.below bw) (pc + 1) (q + 1) (by have := hpc.out; omega) ht z9 hz9.out hz1 hz2).mono ?_
  rintro e y ⟨rfl, b9⟩
  replace bw := bw.trans (b9.mono bw.size)
  clear b9
  have hok : Hid (opAt p (pc + 1) 18) := ⟨q + 1, by have := hpc.out; omega, ht, by rw [hz9.out]; exact ho⟩
  have q18 : (opW z9 == 18) = true := by simp [ho]
  replace ho : Hid _ := ho
  go_wp2_with fail
  go_ret
  exact ⟨says_yes hok.out, bw.alloc bw.size _⟩
theorem jb_y0 (w : World) (pb po B uo : Nat) (pc : Int) (n : Nat) (a b c s : Int) (p : PD) (a3 a4 a5 : Value) (hP : PtrP w pb po p a3 a4 a5) (z : Int) (hp : Prt z n a b c s) (hn2 : p.code.n ≤ 2000) (hn0 : 0 < p.code.n) (hS : Spans w) (q : Nat) (hpc : pc = (q : Int)) (hq : q < p.code.n) (ht : q + 1 < p.code.n) (z9 : Int) (hz9 : Hid (p.code.f (q + 1) = z9)) (hz1 : 0 ≤ z9) (hz2 : z9 ≤ 4294967295) (ho : opW z9 ≠ 18) :
    Calls Tryz.prog 81 #[plN pb po B uo pc n a b c s] w fun e w' => Says e (opAt p (pc + 1) 18) ∧ Below w.heap.size w w' := by
  have hpI : pc ≤ 2000 := by omega
  have hp0 : 0 ≤ pc := by omega
  replace hpc : Hid (pc = (q : Int)) := hpc
  go_enter Tryz.func81, Tryz.ntmps81
  go_wp2_with fail
  have bw : Below w.heap.size w (w.alloc (.cells #[.pointer (some ⟨pb, po, none⟩), .pointer (some ⟨B, uo + n * 10, none⟩), .int .i64 pc, .int .i64 (n : Int), .int .i64 a, .int .i64 b, .int .i64 c, .int .i64 s] 150)) := (Below.refl _ _).alloc (Nat.le_refl _) _
  generalize w.alloc (.cells #[.pointer (some ⟨pb, po, none⟩), .pointer (some ⟨B, uo + n * 10, none⟩), .int .i64 pc, .int .i64 (n : Int), .int .i64 a, .int .i64 b, .int .i64 c, .int .i64 s] 150) = w0 at bw ⊢
  refine (instrAt_yes _ pb po B uo pc n a b c s p a3 a4 a5 (hP.later bw) z hp hn2 hn0 (hS.below bw) (pc + 1) (q + 1) (by have := hpc.out; omega) ht z9 hz9.out hz1 hz2).mono ?_
  rintro e y ⟨rfl, b9⟩
  replace bw := bw.trans (b9.mono bw.size)
  clear b9
  have hok : Hid (¬ opAt p (pc + 1) 18) := fun ⟨t, h1, h2, h3⟩ => by obtain rfl : t = q + 1 := (by have := hpc.out; omega); rw [hz9.out] at h3; exact ho h3
  have q18 : (opW z9 == 18) = false := by simp [ho]
  replace ho : Hid _ := ho
  go_wp2_with fail
  go_ret
  exact ⟨says_no hok.out, bw.alloc bw.size _⟩
theorem jumpBehind_in (w : World) (pb po B uo : Nat) (pc : Int) (n : Nat) (a b c s : Int) (p : PD) (a3 a4 a5 : Value) (hP : PtrP w pb po p a3 a4 a5) (z : Int) (hp : Prt z n a b c s) (hn2 : p.code.n ≤ 2000) (hn0 : 0 < p.code.n) (hS : Spans w) (q : Nat) (hpc : pc = (q : Int)) (hq : q < p.code.n) (hcb : ∀ i, i < p.code.n → 0 ≤ p.code.f i ∧ p.code.f i ≤ 4294967295) :
    Calls Tryz.prog 81 #[plN pb po B uo pc n a b c s] w fun e w' => Says e (opAt p (pc + 1) 18) ∧ Below w.heap.size w w' := by
  by_cases ht : q + 1 < p.code.n
  · by_cases ho : opW (p.code.f (q + 1)) = 18
    · exact jb_y1 w pb po B uo pc n a b c s p a3 a4 a5 hP z hp hn2 hn0 hS q hpc hq ht _ (show Hid (p.code.f (q + 1) = _) from rfl) (hcb _ ht).1 (hcb _ ht).2 ho
    · exact jb_y0 w pb po B uo pc n a b c s p a3 a4 a5 hP z hp hn2 hn0 hS q hpc hq ht _ (show Hid (p.code.f (q + 1) = _) from rfl) (hcb _ ht).1 (hcb _ ht).2 ho
  · exact jb_no w pb po B uo pc n a b c s p a3 a4 a5 hP z hp hn2 hn0 hS q hpc hq (by omega)
end
section
open Go.RowKit Go.Shelf
set_option linter.unusedVariables false
set_option linter.unusedSimpArgs false
set_option maxRecDepth 100000
set_option maxHeartbeats 2000000
attribute [local go_sem] Oper.semAt_some
theorem lc_no (w : World) (pb po B uo : Nat) (pc : Int) (n : Nat) (a b c s : Int) (p : PD) (a3 a4 a5 : Value) (hP : PtrP w pb po p a3 a4 a5) (z : Int) (hp : Prt z n a b c s) (hn2 : p.code.n ≤ 2000) (hn0 : 0 < p.code.n) (hS : Spans w) (h1 : 0 ≤ pc) (h2 : pc ≤ 2000) (s1 : -1000000 ≤ s) (s2 : s ≤ 1000000) (hx : ¬ (0 ≤ pc + s ∧ pc + s < (p.code.n : Int))) :
    Calls Tryz.prog 93 #[plN pb po B uo pc n a b c s] w fun e w' => e = .returned (.bool false) ∧ Below w.heap.size w w' := by
  go_enter Tryz.func93, Tryz.ntmps93
  go_wp2_with fail
  have R0 := RowL.new w [.pointer (some ⟨pb, po, none⟩), .pointer (some ⟨B, uo + n * 10, none⟩), .int .i64 pc, .int .i64 (n : Int), .int .i64 a, .int .i64 b, .int .i64 c, .int .i64 s] 150
  have bw : Below w.heap.size w (w.alloc (.cells #[.pointer (some ⟨pb, po, none⟩), .pointer (some ⟨B, uo + n * 10, none⟩), .int .i64 pc, .int .i64 (n : Int), .int .i64 a, .int .i64 b, .int .i64 c, .int .i64 s] 150)) := (Below.refl _ _).alloc (Nat.le_refl _) _
  generalize w.alloc (.cells #[.pointer (some ⟨pb, po, none⟩), .pointer (some ⟨B, uo + n * 10, none⟩), .int .i64 pc, .int .i64 (n : Int), .int .i64 a, .int .i64 b, .int .i64 c, .int .i64 s] 150) = w0 at R0 bw ⊢
  refine (target_in pc (n : Int) a b c s _ h1 (by omega) s1 s2).mono ?_
  rintro e y ⟨rfl, b9⟩
  replace R0 := R0.call b9
  replace bw := bw.trans (b9.mono bw.size)
  clear b9
  have r0 := R0.cell 0 rfl
  have r1 := R0.cell 1 rfl
  have r2 := R0.cell 2 rfl
  have r3 := R0.cell 3 rfl
  have r4 := R0.cell 4 rfl
  have r5 := R0.cell 5 rfl
  have r6 := R0.cell 6 rfl
  have r7 := R0.cell 7 rfl
  go_wp2_with fail
  clear r0 r1 r2 r3 r4 r5 r6 r7
  refine (instrAt_no _ pb po B uo pc n a b c s p a3 a4 a5 (hP.later bw) z hp hn2 hn0 (pc + 1 + s - 1) (by omega)).mono ?_
  rintro e y1 ⟨rfl, b9⟩
  replace R0 := R0.call b9
  replace bw := bw.trans (b9.mono bw.size)
  clear b9
  go_wp2_with fail
  have I0 := RowL.new y1 [.int .i64 0, .int .i64 0, .int .i64 0, .int .i64 0, .int .i64 0] 88
  have bx : Below y1.heap.size y1 (y1.alloc (.cells #[.int .i64 0, .int .i64 0, .int .i64 0, .int .i64 0, .int .i64 0] 88)) := (Below.refl _ _).alloc (Nat.le_refl _) _
  replace R0 := R0.call bx
  replace bw := bw.trans (bx.mono bw.size)
  clear bx
  generalize y1.alloc (.cells #[.int .i64 0, .int .i64 0, .int .i64 0, .int .i64 0, .int .i64 0] 88) = y2 at I0 R0 bw ⊢
  generalize hBI : y1.heap.size = BI at I0 ⊢
  replace hBI : Hid _ := hBI
  have r0 := R0.cell 0 rfl
  have r2 := R0.cell 2 rfl
  have r3 := R0.cell 3 rfl
  have r4 := R0.cell 4 rfl
  have i0 := I0.cell 0 rfl
  have i1 := I0.cell 1 rfl
  have i2 := I0.cell 2 rfl
  have i3 := I0.cell 3 rfl
  have i4 := I0.cell 4 rfl
  have hl := R0.lt
  have hli := I0.lt
  replace R0 : Hid _ := R0
  replace I0 : Hid _ := I0
  have hd : OldS y2 y2.drew := OldS.of (Below.refl _ _).drew
  refine wp_region_held_drew (S := OldS y2) (by kernel_rfl) hd (fun hH => ?_)
  refine take_dst 0 18 (.bool false) rfl (by kernel_rfl) (by kernel_rfl) (by kernel_rfl) (fun _ _ _ h => h) (Or.inl ⟨by rfl, by intro wv hSv; unfold OldS at hSv; go_simp⟩) hd rfl ?_
  try simp only [tk0, tk1, tk2, tk3, tk4]
  refine take_dst 1 19 (.bool false) rfl (by kernel_rfl) (by kernel_rfl) (by kernel_rfl) (fun _ _ _ h => h) (Or.inl ⟨by rfl, by intro wv hSv; unfold OldS at hSv; go_simp⟩) hd rfl ?_
  try simp only [tk0, tk1, tk2, tk3, tk4]
  refine take_dst 2 20 undef rfl (by kernel_rfl) (by kernel_rfl) (by kernel_rfl) (fun _ _ _ h => h) (Or.inr ⟨by rfl, rfl⟩) hd rfl ?_
  try simp only [tk0, tk1, tk2, tk3, tk4]
  refine take_dst 3 21 undef rfl (by kernel_rfl) (by kernel_rfl) (by kernel_rfl) (fun _ _ _ h => h) (Or.inr ⟨by rfl, rfl⟩) hd rfl ?_
  try simp only [tk0, tk1, tk2, tk3, tk4]
  refine take_dst 4 22 undef rfl (by kernel_rfl) (by kernel_rfl) (by kernel_rfl) (fun _ _ _ h => h) (Or.inr ⟨by rfl, rfl⟩) hd rfl ?_
  try simp only [tk0, tk1, tk2, tk3, tk4]
  refine take_dst 5 23 (.bool false) rfl (by kernel_rfl) (by kernel_rfl) (by kernel_rfl) (fun _ _ _ h => h) (Or.inl ⟨by rfl, by intro wv hSv; unfold OldS at hSv; go_simp⟩) hd rfl ?_
  try simp only [tk0, tk1, tk2, tk3, tk4]
  refine take_dst 6 24 (.bool false) rfl (by kernel_rfl) (by kernel_rfl) (by kernel_rfl) (fun _ _ _ h => h) (Or.inl ⟨by rfl, by intro wv hSv; unfold OldS at hSv; go_simp⟩) hd rfl ?_
  try simp only [tk0, tk1, tk2, tk3, tk4]
  refine take_dst 7 25 undef rfl (by kernel_rfl) (by kernel_rfl) (by kernel_rfl) (fun _ _ _ h => h) (Or.inr ⟨by rfl, rfl⟩) hd rfl ?_
  try simp only [tk0, tk1, tk2, tk3, tk4]
  refine take_dst 8 26 undef rfl (by kernel_rfl) (by kernel_rfl) (by kernel_rfl) (fun _ _ _ h => h) (Or.inr ⟨by rfl, rfl⟩) hd rfl ?_
  try simp only [tk0, tk1, tk2, tk3, tk4]
  refine take_dst 9 27 undef rfl (by kernel_rfl) (by kernel_rfl) (by kernel_rfl) (fun _ _ _ h => h) (Or.inr ⟨by rfl, rfl⟩) hd rfl ?_
  try simp only [tk0, tk1, tk2, tk3, tk4]
  refine take_dst 10 28 undef rfl (by kernel_rfl) (by kernel_rfl) (by kernel_rfl) (fun _ _ _ h => h) (Or.inr ⟨by rfl, rfl⟩) hd rfl ?_
  try simp only [tk0, tk1, tk2, tk3, tk4]
  refine take_dst 11 29 undef rfl (by kernel_rfl) (by kernel_rfl) (by kernel_rfl) (fun _ _ _ h => h) (Or.inr ⟨by rfl, rfl⟩) hd rfl ?_
  try simp only [tk0, tk1, tk2, tk3, tk4]
  refine take_dst 12 30 undef rfl (by kernel_rfl) (by kernel_rfl) (by kernel_rfl) (fun _ _ _ h => h) (Or.inr ⟨by rfl, rfl⟩) hd rfl ?_
  try simp only [tk0, tk1, tk2, tk3, tk4]
  refine take_dst 13 31 (.bool false) rfl (by kernel_rfl) (by kernel_rfl) (by kernel_rfl) (fun _ _ _ h => h) (Or.inl ⟨by rfl, by intro wv hSv; unfold OldS at hSv; go_simp⟩) hd rfl ?_
  try simp only [tk0, tk1, tk2, tk3, tk4]
  refine take_dst 14 32 (.bool false) rfl (by kernel_rfl) (by kernel_rfl) (by kernel_rfl) (fun _ _ _ h => h) (Or.inl ⟨by rfl, by intro wv hSv; unfold OldS at hSv; go_simp⟩) hd rfl ?_
  try simp only [tk0, tk1, tk2, tk3, tk4]
  refine take_dst 15 33 undef rfl (by kernel_rfl) (by kernel_rfl) (by kernel_rfl) (fun _ _ _ h => h) (Or.inr ⟨by rfl, rfl⟩) hd rfl ?_
  try simp only [tk0, tk1, tk2, tk3, tk4]
  refine take_dst 16 34 undef rfl (by kernel_rfl) (by kernel_rfl) (by kernel_rfl) (fun _ _ _ h => h) (Or.inr ⟨by rfl, rfl⟩) hd rfl ?_
  try simp only [tk0, tk1, tk2, tk3, tk4]
  refine take_dst 17 35 undef rfl (by kernel_rfl) (by kernel_rfl) (by kernel_rfl) (fun _ _ _ h => h) (Or.inr ⟨by rfl, rfl⟩) hd rfl ?_
  try simp only [tk0, tk1, tk2, tk3, tk4]
  refine take_dst 18 36 undef rfl (by kernel_rfl) (by kernel_rfl) (by kernel_rfl) (fun _ _ _ h => h) (Or.inr ⟨by rfl, rfl⟩) hd rfl ?_
  try simp only [tk0, tk1, tk2, tk3, tk4]
  refine take_dst 19 37 undef rfl (by kernel_rfl) (by kernel_rfl) (by kernel_rfl) (fun _ _ _ h => h) (Or.inr ⟨by rfl, rfl⟩) hd rfl ?_
  try simp only [tk0, tk1, tk2, tk3, tk4]
  refine take_dst 20 38 undef rfl (by kernel_rfl) (by kernel_rfl) (by kernel_rfl) (fun _ _ _ h => h) (Or.inr ⟨by rfl, rfl⟩) hd rfl ?_
  try simp only [tk0, tk1, tk2, tk3, tk4]
  refine take_dst 21 39 undef rfl (by kernel_rfl) (by kernel_rfl) (by kernel_rfl) (fun _ _ _ h => h) (Or.inr ⟨by rfl, rfl⟩) hd rfl ?_
  try simp only [tk0, tk1, tk2, tk3, tk4]
  refine take_dst 22 40 (.bool false) rfl (by kernel_rfl) (by kernel_rfl) (by kernel_rfl) (fun _ _ _ h => h) (Or.inl ⟨by rfl, by intro wv hSv; unfold OldS at hSv; go_simp⟩) hd rfl ?_
  try simp only [tk0, tk1, tk2, tk3, tk4]
  refine take_dst 23 2 (.bool false) rfl (by kernel_rfl) (by kernel_rfl) (by kernel_rfl) (fun _ _ _ h => h) (Or.inl ⟨by rfl, by intro wv hSv; unfold OldS at hSv; go_simp⟩) hd rfl ?_
  try simp only [tk0, tk1, tk2, tk3, tk4]
  refine wpAnyH_done (by kernel_rfl) ?_ _
  clear hH hd r0 r2 r3 r4 i0 i1 i2 i3 i4
  go_wp2_with fail
  go_ret
  exact ⟨rfl, bw.drew⟩
theorem lc_op (w : World) (pb po B uo : Nat) (pc : Int) (n : Nat) (a b c s : Int) (p : PD) (a3 a4 a5 : Value) (hP : PtrP w pb po p a3 a4 a5) (z : Int) (hp : Prt z n a b c s) (hn2 : p.code.n ≤ 2000) (hn0 : 0 < p.code.n) (hS : Spans w) (h1 : 0 ≤ pc) (h2 : pc ≤ 2000) (s1 : -1000000 ≤ s) (s2 : s ≤ 1000000) (t : Nat) (hx : Hid (pc + s = (t : Int))) (ht : t < p.code.n) (z9 : Int) (hz9 : Hid (p.code.f t = z9)) (hz1 : 0 ≤ z9) (hz2 : z9 ≤ 4294967295) (q1 : (opW z9 == 28) = false) :
    Calls Tryz.prog 93 #[plN pb po B uo pc n a b c s] w fun e w' => e = .returned (.bool false) ∧ Below w.heap.size w w' := by
  go_enter Tryz.func93, Tryz.ntmps93
  go_wp2_with fail
  have R0 := RowL.new w [.pointer (some ⟨pb, po, none⟩), .pointer (some ⟨B, uo + n * 10, none⟩), .int .i64 pc, .int .i64 (n : Int), .int .i64 a, .int .i64 b, .int .i64 c, .int .i64 s] 150
  have bw : Below w.heap.size w (w.alloc (.cells #[.pointer (some ⟨pb, po, none⟩), .pointer (some ⟨B, uo + n * 10, none⟩), .int .i64 pc, .int .i64 (n : Int), .int .i64 a, .int .i64 b, .int .i64 c, .int .i64 s] 150)) := (Below.refl _ _).alloc (Nat.le_refl _) _
  generalize w.alloc (.cells #[.pointer (some ⟨pb, po, none⟩), .pointer (some ⟨B, uo + n * 10, none⟩), .int .i64 pc, .int .i64 (n : Int), .int .i64 a, .int .i64 b, .int .i64 c, .int .i64 s] 150) = w0 at R0 bw ⊢
  refine (target_in pc (n : Int) a b c s _ h1 (by omega) s1 s2).mono ?_
  rintro e y ⟨rfl, b9⟩
  replace R0 := R0.call b9
  replace bw := bw.trans (b9.mono bw.size)
  clear b9
  have r0 := R0.cell 0 rfl
  have r1 := R0.cell 1 rfl
  have r2 := R0.cell 2 rfl
  have r3 := R0.cell 3 rfl
  have r4 := R0.cell 4 rfl
  have r5 := R0.cell 5 rfl
  have r6 := R0.cell 6 rfl
  have r7 := R0.cell 7 rfl
  go_wp2_with fail
  clear r0 r1 r2 r3 r4 r5 r6 r7
  refine (instrAt_yes _ pb po B uo pc n a b c s p a3 a4 a5 (hP.later bw) z hp hn2 hn0 (hS.below bw) (pc + 1 + s - 1) t (by have := hx.out; omega) ht z9 hz9.out hz1 hz2).mono ?_
  rintro e y1 ⟨rfl, b9⟩
  replace R0 := R0.call b9
  replace bw := bw.trans (b9.mono bw.size)
  clear b9
  go_wp2_with fail
  have I0 := RowL.new y1 [.int .i64 (opW z9), .int .i64 (aW z9), .int .i64 (bW z9), .int .i64 (cW z9), .int .i64 (sW z9)] 88
  have bx : Below y1.heap.size y1 (y1.alloc (.cells #[.int .i64 (opW z9), .int .i64 (aW z9), .int .i64 (bW z9), .int .i64 (cW z9), .int .i64 (sW z9)] 88)) := (Below.refl _ _).alloc (Nat.le_refl _) _
  replace R0 := R0.call bx
  replace bw := bw.trans (bx.mono bw.size)
  clear bx
  generalize y1.alloc (.cells #[.int .i64 (opW z9), .int .i64 (aW z9), .int .i64 (bW z9), .int .i64 (cW z9), .int .i64 (sW z9)] 88) = y2 at I0 R0 bw ⊢
  generalize hBI : y1.heap.size = BI at I0 ⊢
  replace hBI : Hid _ := hBI
  have r0 := R0.cell 0 rfl
  have r2 := R0.cell 2 rfl
  have r3 := R0.cell 3 rfl
  have r4 := R0.cell 4 rfl
  have i0 := I0.cell 0 rfl
  have i1 := I0.cell 1 rfl
  have i2 := I0.cell 2 rfl
  have i3 := I0.cell 3 rfl
  have i4 := I0.cell 4 rfl
  have hl := R0.lt
  have hli := I0.lt
  replace R0 : Hid _ := R0
  replace I0 : Hid _ := I0
  have hd : OldS y2 y2.drew := OldS.of (Below.refl _ _).drew
  refine wp_region_held_drew (S := OldS y2) (by kernel_rfl) hd (fun hH => ?_)
  refine take_dst 0 18 (.bool true) rfl (by kernel_rfl) (by kernel_rfl) (by kernel_rfl) (fun _ _ _ h => h) (Or.inl ⟨by rfl, by intro wv hSv; unfold OldS at hSv; go_simp⟩) hd rfl ?_
  try simp only [tk0, tk1, tk2, tk3, tk4]
  refine take_dst 1 19 (.bool true) rfl (by kernel_rfl) (by kernel_rfl) (by kernel_rfl) (fun _ _ _ h => h) (Or.inl ⟨by rfl, by intro wv hSv; unfold OldS at hSv; go_simp⟩) hd rfl ?_
  try simp only [tk0, tk1, tk2, tk3, tk4]
  refine take_dst 2 20 (.pointer (some ⟨BI, 0, none⟩)) rfl (by kernel_rfl) (by kernel_rfl) (by kernel_rfl) (fun _ _ _ h => h) (Or.inl ⟨by rfl, by intro wv hSv; unfold OldS at hSv; go_simp⟩) hd rfl ?_
  try simp only [tk0, tk1, tk2, tk3, tk4]
  refine take_dst 3 21 (.int .i64 (opW z9)) rfl (by kernel_rfl) (by kernel_rfl) (by kernel_rfl) (fun _ _ _ h => h) (Or.inl ⟨by rfl, by intro wv hSv; unfold OldS at hSv; go_simp⟩) hd rfl ?_
  try simp only [tk0, tk1, tk2, tk3, tk4]
  refine take_dst 4 22 (.bool false) rfl (by kernel_rfl) (by kernel_rfl) (by kernel_rfl) (fun _ _ _ h => h) (Or.inl ⟨by rfl, by intro wv hSv; unfold OldS at hSv; go_simp⟩) hd rfl ?_
  try simp only [tk0, tk1, tk2, tk3, tk4]
  refine take_dst 5 23 (.bool false) rfl (by kernel_rfl) (by kernel_rfl) (by kernel_rfl) (fun _ _ _ h => h) (Or.inl ⟨by rfl, by intro wv hSv; unfold OldS at hSv; go_simp⟩) hd rfl ?_
  try simp only [tk0, tk1, tk2, tk3, tk4]
  refine take_dst 6 24 (.bool false) rfl (by kernel_rfl) (by kernel_rfl) (by kernel_rfl) (fun _ _ _ h => h) (Or.inl ⟨by rfl, by intro wv hSv; unfold OldS at hSv; go_simp⟩) hd rfl ?_
  try simp only [tk0, tk1, tk2, tk3, tk4]
  refine take_dst 7 25 undef rfl (by kernel_rfl) (by kernel_rfl) (by kernel_rfl) (fun _ _ _ h => h) (Or.inr ⟨by rfl, rfl⟩) hd rfl ?_
  try simp only [tk0, tk1, tk2, tk3, tk4]
  refine take_dst 8 26 undef rfl (by kernel_rfl) (by kernel_rfl) (by kernel_rfl) (fun _ _ _ h => h) (Or.inr ⟨by rfl, rfl⟩) hd rfl ?_
  try simp only [tk0, tk1, tk2, tk3, tk4]
  refine take_dst 9 27 undef rfl (by kernel_rfl) (by kernel_rfl) (by kernel_rfl) (fun _ _ _ h => h) (Or.inr ⟨by rfl, rfl⟩) hd rfl ?_
  try simp only [tk0, tk1, tk2, tk3, tk4]
  refine take_dst 10 28 undef rfl (by kernel_rfl) (by kernel_rfl) (by kernel_rfl) (fun _ _ _ h => h) (Or.inr ⟨by rfl, rfl⟩) hd rfl ?_
  try simp only [tk0, tk1, tk2, tk3, tk4]
  refine take_dst 11 29 undef rfl (by kernel_rfl) (by kernel_rfl) (by kernel_rfl) (fun _ _ _ h => h) (Or.inr ⟨by rfl, rfl⟩) hd rfl ?_
  try simp only [tk0, tk1, tk2, tk3, tk4]
  refine take_dst 12 30 undef rfl (by kernel_rfl) (by kernel_rfl) (by kernel_rfl) (fun _ _ _ h => h) (Or.inr ⟨by rfl, rfl⟩) hd rfl ?_
  try simp only [tk0, tk1, tk2, tk3, tk4]
  refine take_dst 13 31 (.bool false) rfl (by kernel_rfl) (by kernel_rfl) (by kernel_rfl) (fun _ _ _ h => h) (Or.inl ⟨by rfl, by intro wv hSv; unfold OldS at hSv; go_simp⟩) hd rfl ?_
  try simp only [tk0, tk1, tk2, tk3, tk4]
  refine take_dst 14 32 (.bool false) rfl (by kernel_rfl) (by kernel_rfl) (by kernel_rfl) (fun _ _ _ h => h) (Or.inl ⟨by rfl, by intro wv hSv; unfold OldS at hSv; go_simp⟩) hd rfl ?_
  try simp only [tk0, tk1, tk2, tk3, tk4]
  refine take_dst 15 33 undef rfl (by kernel_rfl) (by kernel_rfl) (by kernel_rfl) (fun _ _ _ h => h) (Or.inr ⟨by rfl, rfl⟩) hd rfl ?_
  try simp only [tk0, tk1, tk2, tk3, tk4]
  refine take_dst 16 34 undef rfl (by kernel_rfl) (by kernel_rfl) (by kernel_rfl) (fun _ _ _ h => h) (Or.inr ⟨by rfl, rfl⟩) hd rfl ?_
  try simp only [tk0, tk1, tk2, tk3, tk4]
  refine take_dst 17 35 undef rfl (by kernel_rfl) (by kernel_rfl) (by kernel_rfl) (fun _ _ _ h => h) (Or.inr ⟨by rfl, rfl⟩) hd rfl ?_
  try simp only [tk0, tk1, tk2, tk3, tk4]
  refine take_dst 18 36 undef rfl (by kernel_rfl) (by kernel_rfl) (by kernel_rfl) (fun _ _ _ h => h) (Or.inr ⟨by rfl, rfl⟩) hd rfl ?_
  try simp only [tk0, tk1, tk2, tk3, tk4]
  refine take_dst 19 37 undef rfl (by kernel_rfl) (by kernel_rfl) (by kernel_rfl) (fun _ _ _ h => h) (Or.inr ⟨by rfl, rfl⟩) hd rfl ?_
  try simp only [tk0, tk1, tk2, tk3, tk4]
  refine take_dst 20 38 undef rfl (by kernel_rfl) (by kernel_rfl) (by kernel_rfl) (fun _ _ _ h => h) (Or.inr ⟨by rfl, rfl⟩) hd rfl ?_
  try simp only [tk0, tk1, tk2, tk3, tk4]
  refine take_dst 21 39 undef rfl (by kernel_rfl) (by kernel_rfl) (by kernel_rfl) (fun _ _ _ h => h) (Or.inr ⟨by rfl, rfl⟩) hd rfl ?_
  try simp only [tk0, tk1, tk2, tk3, tk4]
  refine take_dst 22 40 (.bool false) rfl (by kernel_rfl) (by kernel_rfl) (by kernel_rfl) (fun _ _ _ h => h) (Or.inl ⟨by rfl, by intro wv hSv; unfold OldS at hSv; go_simp⟩) hd rfl ?_
  try simp only [tk0, tk1, tk2, tk3, tk4]
  refine take_dst 23 2 (.bool false) rfl (by kernel_rfl) (by kernel_rfl) (by kernel_rfl) (fun _ _ _ h => h) (Or.inl ⟨by rfl, by intro wv hSv; unfold OldS at hSv; go_simp⟩) hd rfl ?_
  try simp only [tk0, tk1, tk2, tk3, tk4]
  refine wpAnyH_done (by kernel_rfl) ?_ _
  clear hH hd r0 r2 r3 r4 i0 i1 i2 i3 i4
  go_wp2_with fail
  go_ret
  exact ⟨rfl, bw.drew⟩
theorem lc_a (w : World) (pb po B uo : Nat) (pc : Int) (n : Nat) (a b c s : Int) (p : PD) (a3 a4 a5 : Value) (hP : PtrP w pb po p a3 a4 a5) (z : Int) (hp : Prt z n a b c s) (hn2 : p.code.n ≤ 2000) (hn0 : 0 < p.code.n) (hS : Spans w) (h1 : 0 ≤ pc) (h2 : pc ≤ 2000) (s1 : -1000000 ≤ s) (s2 : s ≤ 1000000) (t : Nat) (hx : Hid (pc + s = (t : Int))) (ht : t < p.code.n) (z9 : Int) (hz9 : Hid (p.code.f t = z9)) (hz1 : 0 ≤ z9) (hz2 : z9 ≤ 4294967295) (q1 : (opW z9 == 28) = true) (q2 : (aW z9 == a) = false) :
    Calls Tryz.prog 93 #[plN pb po B uo pc n a b c s] w fun e w' => e = .returned (.bool false) ∧ Below w.heap.size w w' := by
  go_enter Tryz.func93, Tryz.ntmps93
  go_wp2_with fail
  have R0 := RowL.new w [.pointer (some ⟨pb, po, none⟩), .pointer (some ⟨B, uo + n * 10, none⟩), .int .i64 pc, .int .i64 (n : Int), .int .i64 a, .int .i64 b, .int .i64 c, .int .i64 s] 150
  have bw : Below w.heap.size w (w.alloc (.cells #[.pointer (some ⟨pb, po, none⟩), .pointer (some ⟨B, uo + n * 10, none⟩), .int .i64 pc, .int .i64 (n : Int), .int .i64 a, .int .i64 b, .int .i64 c, .int .i64 s] 150)) := (Below.refl _ _).alloc (Nat.le_refl _) _
  generalize w.alloc (.cells #[.pointer (some ⟨pb, po, none⟩), .pointer (some ⟨B, uo + n * 10, none⟩), .int .i64 pc, .int .i64 (n : Int), .int .i64 a, .int .i64 b, .int .i64 c, .int .i64 s] 150) = w0 at R0 bw ⊢
  refine (target_in pc (n : Int) a b c s _ h1 (by omega) s1 s2).mono ?_
  rintro e y ⟨rfl, b9⟩
  replace R0 := R0.call b9
  replace bw := bw.trans (b9.mono bw.size)
  clear b9
  have r0 := R0.cell 0 rfl
  have r1 := R0.cell 1 rfl
  have r2 := R0.cell 2 rfl
  have r3 := R0.cell 3 rfl
  have r4 := R0.cell 4 rfl
  have r5 := R0.cell 5 rfl
  have r6 := R0.cell 6 rfl
  have r7 := R0.cell 7 rfl
  go_wp2_with fail
  clear r0 r1 r2 r3 r4 r5 r6 r7
  refine (instrAt_yes _ pb po B uo pc n a b c s p a3 a4 a5 (hP.later bw) z hp hn2 hn0 (hS.below bw) (pc + 1 + s - 1) t (by have := hx.out; omega) ht z9 hz9.out hz1 hz2).mono ?_
  rintro e y1 ⟨rfl, b9⟩
  replace R0 := R0.call b9
  replace bw := bw.trans (b9.mono bw.size)
  clear b9
  go_wp2_with fail
  have I0 := RowL.new y1 [.int .i64 (opW z9), .int .i64 (aW z9), .int .i64 (bW z9), .int .i64 (cW z9), .int .i64 (sW z9)] 88
  have bx : Below y1.heap.size y1 (y1.alloc (.cells #[.int .i64 (opW z9), .int .i64 (aW z9), .int .i64 (bW z9), .int .i64 (cW z9), .int .i64 (sW z9)] 88)) := (Below.refl _ _).alloc (Nat.le_refl _) _
  replace R0 := R0.call bx
  replace bw := bw.trans (bx.mono bw.size)
  clear bx
  generalize y1.alloc (.cells #[.int .i64 (opW z9), .int .i64 (aW z9), .int .i64 (bW z9), .int .i64 (cW z9), .int .i64 (sW z9)] 88) = y2 at I0 R0 bw ⊢
  generalize hBI : y1.heap.size = BI at I0 ⊢
  replace hBI : Hid _ := hBI
  have r0 := R0.cell 0 rfl
  have r2 := R0.cell 2 rfl
  have r3 := R0.cell 3 rfl
  have r4 := R0.cell 4 rfl
  have i0 := I0.cell 0 rfl
  have i1 := I0.cell 1 rfl
  have i2 := I0.cell 2 rfl
  have i3 := I0.cell 3 rfl
  have i4 := I0.cell 4 rfl
  have hl := R0.lt
  have hli := I0.lt
  replace R0 : Hid _ := R0
  replace I0 : Hid _ := I0
  have hd : OldS y2 y2.drew := OldS.of (Below.refl _ _).drew
  refine wp_region_held_drew (S := OldS y2) (by kernel_rfl) hd (fun hH => ?_)
  refine take_dst 0 18 (.bool true) rfl (by kernel_rfl) (by kernel_rfl) (by kernel_rfl) (fun _ _ _ h => h) (Or.inl ⟨by rfl, by intro wv hSv; unfold OldS at hSv; go_simp⟩) hd rfl ?_
  try simp only [tk0, tk1, tk2, tk3, tk4]
  refine take_dst 1 19 (.bool true) rfl (by kernel_rfl) (by kernel_rfl) (by kernel_rfl) (fun _ _ _ h => h) (Or.inl ⟨by rfl, by intro wv hSv; unfold OldS at hSv; go_simp⟩) hd rfl ?_
  try simp only [tk0, tk1, tk2, tk3, tk4]
  refine take_dst 2 20 (.pointer (some ⟨BI, 0, none⟩)) rfl (by kernel_rfl) (by kernel_rfl) (by kernel_rfl) (fun _ _ _ h => h) (Or.inl ⟨by rfl, by intro wv hSv; unfold OldS at hSv; go_simp⟩) hd rfl ?_
  try simp only [tk0, tk1, tk2, tk3, tk4]
  refine take_dst 3 21 (.int .i64 (opW z9)) rfl (by kernel_rfl) (by kernel_rfl) (by kernel_rfl) (fun _ _ _ h => h) (Or.inl ⟨by rfl, by intro wv hSv; unfold OldS at hSv; go_simp⟩) hd rfl ?_
  try simp only [tk0, tk1, tk2, tk3, tk4]
  refine take_dst 4 22 (.bool true) rfl (by kernel_rfl) (by kernel_rfl) (by kernel_rfl) (fun _ _ _ h => h) (Or.inl ⟨by rfl, by intro wv hSv; unfold OldS at hSv; go_simp⟩) hd rfl ?_
  try simp only [tk0, tk1, tk2, tk3, tk4]
  refine take_dst 5 23 (.bool true) rfl (by kernel_rfl) (by kernel_rfl) (by kernel_rfl) (fun _ _ _ h => h) (Or.inl ⟨by rfl, by intro wv hSv; unfold OldS at hSv; go_simp⟩) hd rfl ?_
  try simp only [tk0, tk1, tk2, tk3, tk4]
  refine take_dst 6 24 (.bool true) rfl (by kernel_rfl) (by kernel_rfl) (by kernel_rfl) (fun _ _ _ h => h) (Or.inl ⟨by rfl, by intro wv hSv; unfold OldS at hSv; go_simp⟩) hd rfl ?_
  try simp only [tk0, tk1, tk2, tk3, tk4]
  refine take_dst 7 25 (.pointer (some ⟨BI, 1, none⟩)) rfl (by kernel_rfl) (by kernel_rfl) (by kernel_rfl) (fun _ _ _ h => h) (Or.inl ⟨by rfl, by intro wv hSv; unfold OldS at hSv; go_simp⟩) hd rfl ?_
  try simp only [tk0, tk1, tk2, tk3, tk4]
  refine take_dst 8 26 (.int .i64 (aW z9)) rfl (by kernel_rfl) (by kernel_rfl) (by kernel_rfl) (fun _ _ _ h => h) (Or.inl ⟨by rfl, by intro wv hSv; unfold OldS at hSv; go_simp⟩) hd rfl ?_
  try simp only [tk0, tk1, tk2, tk3, tk4]
  refine take_dst 9 27 (.pointer (some ⟨w.heap.size, 3, none⟩)) rfl (by kernel_rfl) (by kernel_rfl) (by kernel_rfl) (fun _ _ _ h => h) (Or.inl ⟨by rfl, by intro wv hSv; unfold OldS at hSv; go_simp⟩) hd rfl ?_
  try simp only [tk0, tk1, tk2, tk3, tk4]
  refine take_dst 10 28 (.pointer (some ⟨w.heap.size, 4, none⟩)) rfl (by kernel_rfl) (by kernel_rfl) (by kernel_rfl) (fun _ _ _ h => h) (Or.inl ⟨by rfl, by intro wv hSv; unfold OldS at hSv; go_simp⟩) hd rfl ?_
  try simp only [tk0, tk1, tk2, tk3, tk4]
  refine take_dst 11 29 (.int .i64 a) rfl (by kernel_rfl) (by kernel_rfl) (by kernel_rfl) (fun _ _ _ h => h) (Or.inl ⟨by rfl, by intro wv hSv; unfold OldS at hSv; go_simp⟩) hd rfl ?_
  try simp only [tk0, tk1, tk2, tk3, tk4]
  refine take_dst 12 30 (.bool false) rfl (by kernel_rfl) (by kernel_rfl) (by kernel_rfl) (fun _ _ _ h => h) (Or.inl ⟨by rfl, by intro wv hSv; unfold OldS at hSv; go_simp⟩) hd rfl ?_
  try simp only [tk0, tk1, tk2, tk3, tk4]
  refine take_dst 13 31 (.bool false) rfl (by kernel_rfl) (by kernel_rfl) (by kernel_rfl) (fun _ _ _ h => h) (Or.inl ⟨by rfl, by intro wv hSv; unfold OldS at hSv; go_simp⟩) hd rfl ?_
  try simp only [tk0, tk1, tk2, tk3, tk4]
  refine take_dst 14 32 (.bool false) rfl (by kernel_rfl) (by kernel_rfl) (by kernel_rfl) (fun _ _ _ h => h) (Or.inl ⟨by rfl, by intro wv hSv; unfold OldS at hSv; go_simp⟩) hd rfl ?_
  try simp only [tk0, tk1, tk2, tk3, tk4]
  refine take_dst 15 33 undef rfl (by kernel_rfl) (by kernel_rfl) (by kernel_rfl) (fun _ _ _ h => h) (Or.inr ⟨by rfl, rfl⟩) hd rfl ?_
  try simp only [tk0, tk1, tk2, tk3, tk4]
  refine take_dst 16 34 undef rfl (by kernel_rfl) (by kernel_rfl) (by kernel_rfl) (fun _ _ _ h => h) (Or.inr ⟨by rfl, rfl⟩) hd rfl ?_
  try simp only [tk0, tk1, tk2, tk3, tk4]
  refine take_dst 17 35 undef rfl (by kernel_rfl) (by kernel_rfl) (by kernel_rfl) (fun _ _ _ h => h) (Or.inr ⟨by rfl, rfl⟩) hd rfl ?_
  try simp only [tk0, tk1, tk2, tk3, tk4]
  refine take_dst 18 36 undef rfl (by kernel_rfl) (by kernel_rfl) (by kernel_rfl) (fun _ _ _ h => h) (Or.inr ⟨by rfl, rfl⟩) hd rfl ?_
  try simp only [tk0, tk1, tk2, tk3, tk4]
  refine take_dst 19 37 undef rfl (by kernel_rfl) (by kernel_rfl) (by kernel_rfl) (fun _ _ _ h => h) (Or.inr ⟨by rfl, rfl⟩) hd rfl ?_
  try simp only [tk0, tk1, tk2, tk3, tk4]
  refine take_dst 20 38 undef rfl (by kernel_rfl) (by kernel_rfl) (by kernel_rfl) (fun _ _ _ h => h) (Or.inr ⟨by rfl, rfl⟩) hd rfl ?_
  try simp only [tk0, tk1, tk2, tk3, tk4]
  refine take_dst 21 39 undef rfl (by kernel_rfl) (by kernel_rfl) (by kernel_rfl) (fun _ _ _ h => h) (Or.inr ⟨by rfl, rfl⟩) hd rfl ?_
  try simp only [tk0, tk1, tk2, tk3, tk4]
  refine take_dst 22 40 (.bool false) rfl (by kernel_rfl) (by kernel_rfl) (by kernel_rfl) (fun _ _ _ h => h) (Or.inl ⟨by rfl, by intro wv hSv; unfold OldS at hSv; go_simp⟩) hd rfl ?_
  try simp only [tk0, tk1, tk2, tk3, tk4]
  refine take_dst 23 2 (.bool false) rfl (by kernel_rfl) (by kernel_rfl) (by kernel_rfl) (fun _ _ _ h => h) (Or.inl ⟨by rfl, by intro wv hSv; unfold OldS at hSv; go_simp⟩) hd rfl ?_
  try simp only [tk0, tk1, tk2, tk3, tk4]
  refine wpAnyH_done (by kernel_rfl) ?_ _
  clear hH hd r0 r2 r3 r4 i0 i1 i2 i3 i4
  go_wp2_with fail
  go_ret
  exact ⟨rfl, bw.drew⟩
theorem lc_t (w : World) (pb po B uo : Nat) (pc : Int) (n : Nat) (a b c s : Int) (p : PD) (a3 a4 a5 : Value) (hP : PtrP w pb po p a3 a4 a5) (z : Int) (hp : Prt z n a b c s) (hn2 : p.code.n ≤ 2000) (hn0 : 0 < p.code.n) (hS : Spans w) (h1 : 0 ≤ pc) (h2 : pc ≤ 2000) (s1 : -1000000 ≤ s) (s2 : s ≤ 1000000) (t : Nat) (hx : Hid (pc + s = (t : Int))) (ht : t < p.code.n) (z9 : Int) (hz9 : Hid (p.code.f t = z9)) (hz1 : 0 ≤ z9) (hz2 : z9 ≤ 4294967295) (q1 : (opW z9 == 28) = true) (q2 : (aW z9 == a) = true) (q3 : (pc + 1 + s + sW z9 == pc + 1) = false) :
    Calls Tryz.prog 93 #[plN pb po B uo pc n a b c s] w fun e w' => e = .returned (.bool false) ∧ Below w.heap.size w w' := by
  go_enter Tryz.func93, Tryz.ntmps93
  go_wp2_with fail
  have R0 := RowL.new w [.pointer (some ⟨pb, po, none⟩), .pointer (some ⟨B, uo + n * 10, none⟩), .int .i64 pc, .int .i64 (n : Int), .int .i64 a, .int .i64 b, .int .i64 c, .int .i64 s] 150
  have bw : Below w.heap.size w (w.alloc (.cells #[.pointer (some ⟨pb, po, none⟩), .pointer (some ⟨B, uo + n * 10, none⟩), .int .i64 pc, .int .i64 (n : Int), .int .i64 a, .int .i64 b, .int .i64 c, .int .i64 s] 150)) := (Below.refl _ _).alloc (Nat.le_refl _) _
  generalize w.alloc (.cells #[.pointer (some ⟨pb, po, none⟩), .pointer (some ⟨B, uo + n * 10, none⟩), .int .i64 pc, .int .i64 (n : Int), .int .i64 a, .int .i64 b, .int .i64 c, .int .i64 s] 150) = w0 at R0 bw ⊢
  refine (target_in pc (n : Int) a b c s _ h1 (by omega) s1 s2).mono ?_
  rintro e y ⟨rfl, b9⟩
  replace R0 := R0.call b9
  replace bw := bw.trans (b9.mono bw.size)
  clear b9
  have r0 := R0.cell 0 rfl
  have r1 := R0.cell 1 rfl
  have r2 := R0.cell 2 rfl
  have r3 := R0.cell 3 rfl
  have r4 := R0.cell 4 rfl
  have r5 := R0.cell 5 rfl
  have r6 := R0.cell 6 rfl
  have r7 := R0.cell 7 rfl
  go_wp2_with fail
  clear r0 r1 r2 r3 r4 r5 r6 r7
  refine (instrAt_yes _ pb po B uo pc n a b c s p a3 a4 a5 (hP.later bw) z hp hn2 hn0 (hS.below bw) (pc + 1 + s - 1) t (by have := hx.out; omega) ht z9 hz9.out hz1 hz2).mono ?_
  rintro e y1 ⟨rfl, b9⟩
  replace R0 := R0.call b9
  replace bw := bw.trans (b9.mono bw.size)
  clear b9
  go_wp2_with fail
  have I0 := RowL.new y1 [.int .i64 (opW z9), .int .i64 (aW z9), .int .i64 (bW z9), .int .i64 (cW z9), .int .i64 (sW z9)] 88
  have bx : Below y1.heap.size y1 (y1.alloc (.cells #[.int .i64 (opW z9), .int .i64 (aW z9), .int .i64 (bW z9), .int .i64 (cW z9), .int .i64 (sW z9)] 88)) := (Below.refl _ _).alloc (Nat.le_refl _) _
  replace R0 := R0.call bx
  replace bw := bw.trans (bx.mono bw.size)
  clear bx
  generalize y1.alloc (.cells #[.int .i64 (opW z9), .int .i64 (aW z9), .int .i64 (bW z9), .int .i64 (cW z9), .int .i64 (sW z9)] 88) = y2 at I0 R0 bw ⊢
  generalize hBI : y1.heap.size = BI at I0 ⊢
  replace hBI : Hid _ := hBI
  have r0 := R0.cell 0 rfl
  have r2 := R0.cell 2 rfl
  have r3 := R0.cell 3 rfl
  have r4 := R0.cell 4 rfl
  have i0 := I0.cell 0 rfl
  have i1 := I0.cell 1 rfl
  have i2 := I0.cell 2 rfl
  have i3 := I0.cell 3 rfl
  have i4 := I0.cell 4 rfl
  have hl := R0.lt
  have hli := I0.lt
  replace R0 : Hid _ := R0
  replace I0 : Hid _ := I0
  have hd : OldS y2 y2.drew := OldS.of (Below.refl _ _).drew
  refine wp_region_held_drew (S := OldS y2) (by kernel_rfl) hd (fun hH => ?_)
  refine take_dst 0 18 (.bool true) rfl (by kernel_rfl) (by kernel_rfl) (by kernel_rfl) (fun _ _ _ h => h) (Or.inl ⟨by rfl, by intro wv hSv; unfold OldS at hSv; go_simp⟩) hd rfl ?_
  try simp only [tk0, tk1, tk2, tk3, tk4]
  refine take_dst 1 19 (.bool true) rfl (by kernel_rfl) (by kernel_rfl) (by kernel_rfl) (fun _ _ _ h => h) (Or.inl ⟨by rfl, by intro wv hSv; unfold OldS at hSv; go_simp⟩) hd rfl ?_
  try simp only [tk0, tk1, tk2, tk3, tk4]
  refine take_dst 2 20 (.pointer (some ⟨BI, 0, none⟩)) rfl (by kernel_rfl) (by kernel_rfl) (by kernel_rfl) (fun _ _ _ h => h) (Or.inl ⟨by rfl, by intro wv hSv; unfold OldS at hSv; go_simp⟩) hd rfl ?_
  try simp only [tk0, tk1, tk2, tk3, tk4]
  refine take_dst 3 21 (.int .i64 (opW z9)) rfl (by kernel_rfl) (by kernel_rfl) (by kernel_rfl) (fun _ _ _ h => h) (Or.inl ⟨by rfl, by intro wv hSv; unfold OldS at hSv; go_simp⟩) hd rfl ?_
  try simp only [tk0, tk1, tk2, tk3, tk4]
  refine take_dst 4 22 (.bool true) rfl (by kernel_rfl) (by kernel_rfl) (by kernel_rfl) (fun _ _ _ h => h) (Or.inl ⟨by rfl, by intro wv hSv; unfold OldS at hSv; go_simp⟩) hd rfl ?_
  try simp only [tk0, tk1, tk2, tk3, tk4]
  refine take_dst 5 23 (.bool true) rfl (by kernel_rfl) (by kernel_rfl) (by kernel_rfl) (fun _ _ _ h => h) (Or.inl ⟨by rfl, by intro wv hSv; unfold OldS at hSv; go_simp⟩) hd rfl ?_
  try simp only [tk0, tk1, tk2, tk3, tk4]
  refine take_dst 6 24 (.bool true) rfl (by kernel_rfl) (by kernel_rfl) (by kernel_rfl) (fun _ _ _ h => h) (Or.inl ⟨by rfl, by intro wv hSv; unfold OldS at hSv; go_simp⟩) hd rfl ?_
  try simp only [tk0, tk1, tk2, tk3, tk4]
  refine take_dst 7 25 (.pointer (some ⟨BI, 1, none⟩)) rfl (by kernel_rfl) (by kernel_rfl) (by kernel_rfl) (fun _ _ _ h => h) (Or.inl ⟨by rfl, by intro wv hSv; unfold OldS at hSv; go_simp⟩) hd rfl ?_
  try simp only [tk0, tk1, tk2, tk3, tk4]
  refine take_dst 8 26 (.int .i64 (aW z9)) rfl (by kernel_rfl) (by kernel_rfl) (by kernel_rfl) (fun _ _ _ h => h) (Or.inl ⟨by rfl, by intro wv hSv; unfold OldS at hSv; go_simp⟩) hd rfl ?_
  try simp only [tk0, tk1, tk2, tk3, tk4]
  refine take_dst 9 27 (.pointer (some ⟨w.heap.size, 3, none⟩)) rfl (by kernel_rfl) (by kernel_rfl) (by kernel_rfl) (fun _ _ _ h => h) (Or.inl ⟨by rfl, by intro wv hSv; unfold OldS at hSv; go_simp⟩) hd rfl ?_
  try simp only [tk0, tk1, tk2, tk3, tk4]
  refine take_dst 10 28 (.pointer (some ⟨w.heap.size, 4, none⟩)) rfl (by kernel_rfl) (by kernel_rfl) (by kernel_rfl) (fun _ _ _ h => h) (Or.inl ⟨by rfl, by intro wv hSv; unfold OldS at hSv; go_simp⟩) hd rfl ?_
  try simp only [tk0, tk1, tk2, tk3, tk4]
  refine take_dst 11 29 (.int .i64 a) rfl (by kernel_rfl) (by kernel_rfl) (by kernel_rfl) (fun _ _ _ h => h) (Or.inl ⟨by rfl, by intro wv hSv; unfold OldS at hSv; go_simp⟩) hd rfl ?_
  try simp only [tk0, tk1, tk2, tk3, tk4]
  refine take_dst 12 30 (.bool true) rfl (by kernel_rfl) (by kernel_rfl) (by kernel_rfl) (fun _ _ _ h => h) (Or.inl ⟨by rfl, by intro wv hSv; unfold OldS at hSv; go_simp⟩) hd rfl ?_
  try simp only [tk0, tk1, tk2, tk3, tk4]
  refine take_dst 13 31 (.bool true) rfl (by kernel_rfl) (by kernel_rfl) (by kernel_rfl) (fun _ _ _ h => h) (Or.inl ⟨by rfl, by intro wv hSv; unfold OldS at hSv; go_simp⟩) hd rfl ?_
  try simp only [tk0, tk1, tk2, tk3, tk4]
  refine take_dst 14 32 (.bool true) rfl (by kernel_rfl) (by kernel_rfl) (by kernel_rfl) (fun _ _ _ h => h) (Or.inl ⟨by rfl, by intro wv hSv; unfold OldS at hSv; go_simp⟩) hd rfl ?_
  try simp only [tk0, tk1, tk2, tk3, tk4]
  have hwp : IntKind.i64.wrap (pc + 1) = pc + 1 := by simp [IntKind.wrap, IntKind.bits, IntKind.signed]; omega
  refine take_dst 15 33 (.int .i64 (pc + 1 + s - 1)) rfl (by kernel_rfl) (by kernel_rfl) (by kernel_rfl) (fun _ _ _ h => h) (Or.inl ⟨by rfl, by intro wv hSv; unfold OldS at hSv; go_simp⟩) hd rfl ?_
  try simp only [tk0, tk1, tk2, tk3, tk4]
  refine take_dst 16 34 (.agg #[.int .i64 (opW z9), .int .i64 (aW z9), .int .i64 (bW z9), .int .i64 (cW z9), .int .i64 (sW z9)]) rfl (by kernel_rfl) (by kernel_rfl) (by kernel_rfl) (fun _ _ _ h => h) (Or.inl ⟨by rfl, by intro wv hSv; unfold OldS at hSv; go_simp⟩) hd rfl ?_
  try simp only [tk0, tk1, tk2, tk3, tk4]
  refine take_dst 18 36 (.pointer (some ⟨w.heap.size, 2, none⟩)) rfl (by kernel_rfl) (by kernel_rfl) (by kernel_rfl) (fun _ _ _ h => h) (Or.inl ⟨by rfl, by intro wv hSv; unfold OldS at hSv; go_simp⟩) hd rfl ?_
  try simp only [tk0, tk1, tk2, tk3, tk4]
  refine take_dst 19 37 (.int .i64 pc) rfl (by kernel_rfl) (by kernel_rfl) (by kernel_rfl) (fun _ _ _ h => h) (Or.inl ⟨by rfl, by intro wv hSv; unfold OldS at hSv; go_simp⟩) hd rfl ?_
  try simp only [tk0, tk1, tk2, tk3, tk4]
  refine take_dst 20 38 (.int .i64 (pc + 1)) rfl (by kernel_rfl) (by kernel_rfl) (by kernel_rfl) (fun _ _ _ h => h) (Or.inl ⟨by rfl, by intro wv hSv; unfold OldS at hSv; go_simp⟩) hd rfl ?_
  try simp only [tk0, tk1, tk2, tk3, tk4]
  refine wpAnyH_ready (rs := [17]) (by kernel_rfl) (by simp) ?_
  refine AllReadyH.cons rfl (fun KK hKK => ?_) AllReadyH.nil
  go_simp
  refine (target_in (pc + 1 + s - 1) (opW z9) (aW z9) (bW z9) (cW z9) (sW z9) _ (by have := hx.out; omega) (by have := hx.out; omega) (by unfold sW bW cW; omega) (by unfold sW bW cW; omega)).mono ?_
  rintro e y4 ⟨rfl, b4⟩
  replace b4 : Below y2.heap.size y2 y4 := ⟨b4.os, b4.tape, b4.output, b4.size, b4.block⟩
  have h4 : OldS y2 y4 := OldS.of b4
  go_wp2_with fail
  refine hKK.out _ _ h4 (fun _ => ?_)
  clear hKK KK
  try simp only [tk0, tk1, tk2, tk3, tk4]
  refine take_dst 21 39 (.bool false) rfl (by kernel_rfl) (by kernel_rfl) (by kernel_rfl) (fun _ _ _ h => h) (Or.inl ⟨by rfl, by intro wv hSv; unfold OldS at hSv; go_simp⟩) h4 rfl ?_
  try simp only [tk0, tk1, tk2, tk3, tk4]
  refine take_dst 22 40 (.bool false) rfl (by kernel_rfl) (by kernel_rfl) (by kernel_rfl) (fun _ _ _ h => h) (Or.inl ⟨by rfl, by intro wv hSv; unfold OldS at hSv; go_simp⟩) h4 rfl ?_
  try simp only [tk0, tk1, tk2, tk3, tk4]
  refine take_dst 23 2 (.bool false) rfl (by kernel_rfl) (by kernel_rfl) (by kernel_rfl) (fun _ _ _ h => h) (Or.inl ⟨by rfl, by intro wv hSv; unfold OldS at hSv; go_simp⟩) h4 rfl ?_
  try simp only [tk0, tk1, tk2, tk3, tk4]
  have bF := bw.trans (b4.mono bw.size)
  refine wpAnyH_done (by kernel_rfl) ?_ _
  clear hH hd h4 b4 r0 r2 r3 r4 i0 i1 i2 i3 i4
  go_wp2_with fail
  go_ret
  exact ⟨rfl, bF⟩
theorem lc_y (w : World) (pb po B uo : Nat) (pc : Int) (n : Nat) (a b c s : Int) (p : PD) (a3 a4 a5 : Value) (hP : PtrP w pb po p a3 a4 a5) (z : Int) (hp : Prt z n a b c s) (hn2 : p.code.n ≤ 2000) (hn0 : 0 < p.code.n) (hS : Spans w) (h1 : 0 ≤ pc) (h2 : pc ≤ 2000) (s1 : -1000000 ≤ s) (s2 : s ≤ 1000000) (t : Nat) (hx : Hid (pc + s = (t : Int))) (ht : t < p.code.n) (z9 : Int) (hz9 : Hid (p.code.f t = z9)) (hz1 : 0 ≤ z9) (hz2 : z9 ≤ 4294967295) (q1 : (opW z9 == 28) = true) (q2 : (aW z9 == a) = true) (q3 : (pc + 1 + s + sW z9 == pc + 1) = true) :
    Calls Tryz.prog 93 #[plN pb po B uo pc n a b c s] w fun e w' => e = .returned (.bool true) ∧ Below w.heap.size w w' := by
  go_enter Tryz.func93, Tryz.ntmps93
  go_wp2_with fail
  have R0 := RowL.new w [.pointer (some ⟨pb, po, none⟩), .pointer (some ⟨B, uo + n * 10, none⟩), .int .i64 pc, .int .i64 (n : Int), .int .i64 a, .int .i64 b, .int .i64 c, .int .i64 s] 150
  have bw : Below w.heap.size w (w.alloc (.cells #[.pointer (some ⟨pb, po, none⟩), .pointer (some ⟨B, uo + n * 10, none⟩), .int .i64 pc, .int .i64 (n : Int), .int .i64 a, .int .i64 b, .int .i64 c, .int .i64 s] 150)) := (Below.refl _ _).alloc (Nat.le_refl _) _
  generalize w.alloc (.cells #[.pointer (some ⟨pb, po, none⟩), .pointer (some ⟨B, uo + n * 10, none⟩), .int .i64 pc, .int .i64 (n : Int), .int .i64 a, .int .i64 b, .int .i64 c, .int .i64 s] 150) = w0 at R0 bw ⊢
  refine (target_in pc (n : Int) a b c s _ h1 (by omega) s1 s2).mono ?_
  rintro e y ⟨rfl, b9⟩
  replace R0 := R0.call b9
  replace bw := bw.trans (b9.mono bw.size)
  clear b9
  have r0 := R0.cell 0 rfl
  have r1 := R0.cell 1 rfl
  have r2 := R0.cell 2 rfl
  have r3 := R0.cell 3 rfl
  have r4 := R0.cell 4 rfl
  have r5 := R0.cell 5 rfl
  have r6 := R0.cell 6 rfl
  have r7 := R0.cell 7 rfl
  go_wp2_with fail
  clear r0 r1 r2 r3 r4 r5 r6 r7
  refine (instrAt_yes _ pb po B uo pc n a b c s p a3 a4 a5 (hP.later bw) z hp hn2 hn0 (hS.below bw) (pc + 1 + s - 1) t (by have := hx.out; omega) ht z9 hz9.out hz1 hz2).mono ?_
  rintro e y1 ⟨rfl, b9⟩
  replace R0 := R0.call b9
  replace bw := bw.trans (b9.mono bw.size)
  clear b9
  go_wp2_with fail
  have I0 := RowL.new y1 [.int .i64 (opW z9), .int .i64 (aW z9), .int .i64 (bW z9), .int .i64 (cW z9), .int .i64 (sW z9)] 88
  have bx : Below y1.heap.size y1 (y1.alloc (.cells #[.int .i64 (opW z9), .int .i64 (aW z9), .int .i64 (bW z9), .int .i64 (cW z9), .int .i64 (sW z9)] 88)) := (Below.refl _ _).alloc (Nat.le_refl _) _
  replace R0 := R0.call bx
  replace bw := bw.trans (bx.mono bw.size)
  clear bx
  generalize y1.alloc (.cells #[.int .i64 (opW z9), .int .i64 (aW z9), .int .i64 (bW z9), .int .i64 (cW z9), .int .i64 (sW z9)] 88) = y2 at I0 R0 bw ⊢
  generalize hBI : y1.heap.size = BI at I0 ⊢
  replace hBI : Hid _ := hBI
  have r0 := R0.cell 0 rfl
  have r2 := R0.cell 2 rfl
  have r3 := R0.cell 3 rfl
  have r4 := R0.cell 4 rfl
  have i0 := I0.cell 0 rfl
  have i1 := I0.cell 1 rfl
  have i2 := I0.cell 2 rfl
  have i3 := I0.cell 3 rfl
  have i4 := I0.cell 4 rfl
  have hl := R0.lt
  have hli := I0.lt
  replace R0 : Hid _ := R0
  replace I0 : Hid _ := I0
  have hd : OldS y2 y2.drew := OldS.of (Below.refl _ _).drew
  refine wp_region_held_drew (S := OldS y2) (by kernel_rfl) hd (fun hH => ?_)
  refine take_dst 0 18 (.bool true) rfl (by kernel_rfl) (by kernel_rfl) (by kernel_rfl) (fun _ _ _ h => h) (Or.inl ⟨by rfl, by intro wv hSv; unfold OldS at hSv; go_simp⟩) hd rfl ?_
  try simp only [tk0, tk1, tk2, tk3, tk4]
  refine take_dst 1 19 (.bool true) rfl (by kernel_rfl) (by kernel_rfl) (by kernel_rfl) (fun _ _ _ h => h) (Or.inl ⟨by rfl, by intro wv hSv; unfold OldS at hSv; go_simp⟩) hd rfl ?_
  try simp only [tk0, tk1, tk2, tk3, tk4]
  refine take_dst 2 20 (.pointer (some ⟨BI, 0, none⟩)) rfl (by kernel_rfl) (by kernel_rfl) (by kernel_rfl) (fun _ _ _ h => h) (Or.inl ⟨by rfl, by intro wv hSv; unfold OldS at hSv; go_simp⟩) hd rfl ?_
  try simp only [tk0, tk1, tk2, tk3, tk4]
  refine take_dst 3 21 (.int .i64 (opW z9)) rfl (by kernel_rfl) (by kernel_rfl) (by kernel_rfl) (fun _ _ _ h => h) (Or.inl ⟨by rfl, by intro wv hSv; unfold OldS at hSv; go_simp⟩) hd rfl ?_
  try simp only [tk0, tk1, tk2, tk3, tk4]
  refine take_dst 4 22 (.bool true) rfl (by kernel_rfl) (by kernel_rfl) (by kernel_rfl) (fun _ _ _ h => h) (Or.inl ⟨by rfl, by intro wv hSv; unfold OldS at hSv; go_simp⟩) hd rfl ?_
  try simp only [tk0, tk1, tk2, tk3, tk4]
  refine take_dst 5 23 (.bool true) rfl (by kernel_rfl) (by kernel_rfl) (by kernel_rfl) (fun _ _ _ h => h) (Or.inl ⟨by rfl, by intro wv hSv; unfold OldS at hSv; go_simp⟩) hd rfl ?_
  try simp only [tk0, tk1, tk2, tk3, tk4]
  refine take_dst 6 24 (.bool true) rfl (by kernel_rfl) (by kernel_rfl) (by kernel_rfl) (fun _ _ _ h => h) (Or.inl ⟨by rfl, by intro wv hSv; unfold OldS at hSv; go_simp⟩) hd rfl ?_
  try simp only [tk0, tk1, tk2, tk3, tk4]
  refine take_dst 7 25 (.pointer (some ⟨BI, 1, none⟩)) rfl (by kernel_rfl) (by kernel_rfl) (by kernel_rfl) (fun _ _ _ h => h) (Or.inl ⟨by rfl, by intro wv hSv; unfold OldS at hSv; go_simp⟩) hd rfl ?_
  try simp only [tk0, tk1, tk2, tk3, tk4]
  refine take_dst 8 26 (.int .i64 (aW z9)) rfl (by kernel_rfl) (by kernel_rfl) (by kernel_rfl) (fun _ _ _ h => h) (Or.inl ⟨by rfl, by intro wv hSv; unfold OldS at hSv; go_simp⟩) hd rfl ?_
  try simp only [tk0, tk1, tk2, tk3, tk4]
  refine take_dst 9 27 (.pointer (some ⟨w.heap.size, 3, none⟩)) rfl (by kernel_rfl) (by kernel_rfl) (by kernel_rfl) (fun _ _ _ h => h) (Or.inl ⟨by rfl, by intro wv hSv; unfold OldS at hSv; go_simp⟩) hd rfl ?_
  try simp only [tk0, tk1, tk2, tk3, tk4]
  refine take_dst 10 28 (.pointer (some ⟨w.heap.size, 4, none⟩)) rfl (by kernel_rfl) (by kernel_rfl) (by kernel_rfl) (fun _ _ _ h => h) (Or.inl ⟨by rfl, by intro wv hSv; unfold OldS at hSv; go_simp⟩) hd rfl ?_
  try simp only [tk0, tk1, tk2, tk3, tk4]
  refine take_dst 11 29 (.int .i64 a) rfl (by kernel_rfl) (by kernel_rfl) (by kernel_rfl) (fun _ _ _ h => h) (Or.inl ⟨by rfl, by intro wv hSv; unfold OldS at hSv; go_simp⟩) hd rfl ?_
  try simp only [tk0, tk1, tk2, tk3, tk4]
  refine take_dst 12 30 (.bool true) rfl (by kernel_rfl) (by kernel_rfl) (by kernel_rfl) (fun _ _ _ h => h) (Or.inl ⟨by rfl, by intro wv hSv; unfold OldS at hSv; go_simp⟩) hd rfl ?_
  try simp only [tk0, tk1, tk2, tk3, tk4]
  refine take_dst 13 31 (.bool true) rfl (by kernel_rfl) (by kernel_rfl) (by kernel_rfl) (fun _ _ _ h => h) (Or.inl ⟨by rfl, by intro wv hSv; unfold OldS at hSv; go_simp⟩) hd rfl ?_
  try simp only [tk0, tk1, tk2, tk3, tk4]
  refine take_dst 14 32 (.bool true) rfl (by kernel_rfl) (by kernel_rfl) (by kernel_rfl) (fun _ _ _ h => h) (Or.inl ⟨by rfl, by intro wv hSv; unfold OldS at hSv; go_simp⟩) hd rfl ?_
  try simp only [tk0, tk1, tk2, tk3, tk4]
  have hwp : IntKind.i64.wrap (pc + 1) = pc + 1 := by simp [IntKind.wrap, IntKind.bits, IntKind.signed]; omega
  refine take_dst 15 33 (.int .i64 (pc + 1 + s - 1)) rfl (by kernel_rfl) (by kernel_rfl) (by kernel_rfl) (fun _ _ _ h => h) (Or.inl ⟨by rfl, by intro wv hSv; unfold OldS at hSv; go_simp⟩) hd rfl ?_
  try simp only [tk0, tk1, tk2, tk3, tk4]
  refine take_dst 16 34 (.agg #[.int .i64 (opW z9), .int .i64 (aW z9), .int .i64 (bW z9), .int .i64 (cW z9), .int .i64 (sW z9)]) rfl (by kernel_rfl) (by kernel_rfl) (by kernel_rfl) (fun _ _ _ h => h) (Or.inl ⟨by rfl, by intro wv hSv; unfold OldS at hSv; go_simp⟩) hd rfl ?_
  try simp only [tk0, tk1, tk2, tk3, tk4]
  refine take_dst 18 36 (.pointer (some ⟨w.heap.size, 2, none⟩)) rfl (by kernel_rfl) (by kernel_rfl) (by kernel_rfl) (fun _ _ _ h => h) (Or.inl ⟨by rfl, by intro wv hSv; unfold OldS at hSv; go_simp⟩) hd rfl ?_
  try simp only [tk0, tk1, tk2, tk3, tk4]
  refine take_dst 19 37 (.int .i64 pc) rfl (by kernel_rfl) (by kernel_rfl) (by kernel_rfl) (fun _ _ _ h => h) (Or.inl ⟨by rfl, by intro wv hSv; unfold OldS at hSv; go_simp⟩) hd rfl ?_
  try simp only [tk0, tk1, tk2, tk3, tk4]
  refine take_dst 20 38 (.int .i64 (pc + 1)) rfl (by kernel_rfl) (by kernel_rfl) (by kernel_rfl) (fun _ _ _ h => h) (Or.inl ⟨by rfl, by intro wv hSv; unfold OldS at hSv; go_simp⟩) hd rfl ?_
  try simp only [tk0, tk1, tk2, tk3, tk4]
  refine wpAnyH_ready (rs := [17]) (by kernel_rfl) (by simp) ?_
  refine AllReadyH.cons rfl (fun KK hKK => ?_) AllReadyH.nil
  go_simp
  refine (target_in (pc + 1 + s - 1) (opW z9) (aW z9) (bW z9) (cW z9) (sW z9) _ (by have := hx.out; omega) (by have := hx.out; omega) (by unfold sW bW cW; omega) (by unfold sW bW cW; omega)).mono ?_
  rintro e y4 ⟨rfl, b4⟩
  replace b4 : Below y2.heap.size y2 y4 := ⟨b4.os, b4.tape, b4.output, b4.size, b4.block⟩
  have h4 : OldS y2 y4 := OldS.of b4
  go_wp2_with fail
  refine hKK.out _ _ h4 (fun _ => ?_)
  clear hKK KK
  try simp only [tk0, tk1, tk2, tk3, tk4]
  refine take_dst 21 39 (.bool true) rfl (by kernel_rfl) (by kernel_rfl) (by kernel_rfl) (fun _ _ _ h => h) (Or.inl ⟨by rfl, by intro wv hSv; unfold OldS at hSv; go_simp⟩) h4 rfl ?_
  try simp only [tk0, tk1, tk2, tk3, tk4]
  refine take_dst 22 40 (.bool true) rfl (by kernel_rfl) (by kernel_rfl) (by kernel_rfl) (fun _ _ _ h => h) (Or.inl ⟨by rfl, by intro wv hSv; unfold OldS at hSv; go_simp⟩) h4 rfl ?_
  try simp only [tk0, tk1, tk2, tk3, tk4]
  refine take_dst 23 2 (.bool true) rfl (by kernel_rfl) (by kernel_rfl) (by kernel_rfl) (fun _ _ _ h => h) (Or.inl ⟨by rfl, by intro wv hSv; unfold OldS at hSv; go_simp⟩) h4 rfl ?_
  try simp only [tk0, tk1, tk2, tk3, tk4]
  have bF := bw.trans (b4.mono bw.size)
  refine wpAnyH_done (by kernel_rfl) ?_ _
  clear hH hd h4 b4 r0 r2 r3 r4 i0 i1 i2 i3 i4
  go_wp2_with fail
  go_ret
  exact ⟨rfl, bF⟩
end
section
open Go.RowKit Go.Shelf
set_option linter.unusedVariables false
set_option linter.unusedSimpArgs false
set_option maxRecDepth 100000
set_option maxHeartbeats 2000000
attribute [local go_sem] Oper.semAt_some
theorem takesFromA_in (op a b c s : Int) (w : World) : Calls Tryz.prog 89 #[insV op a b c s] w fun e w' => e = .returned (.tuple #[.int .i64 a, .bool (b == 511)]) ∧ Below w.heap.size w w' := by
  go_enter Tryz.func89, Tryz.ntmps89
  go_wp2_with fail
  have R0 := RowL.new w [.int .i64 op, .int .i64 a, .int .i64 b, .int .i64 c, .int .i64 s] 88
  have bw : Below w.heap.size w (w.alloc (.cells #[.int .i64 op, .int .i64 a, .int .i64 b, .int .i64 c, .int .i64 s] 88)) := (Below.refl _ _).alloc (Nat.le_refl _) _
  generalize w.alloc (.cells #[.int .i64 op, .int .i64 a, .int .i64 b, .int .i64 c, .int .i64 s] 88) = w0 at R0 bw ⊢
  have r0 := R0.cell 0 rfl
  have r1 := R0.cell 1 rfl
  have r2 := R0.cell 2 rfl
  have r3 := R0.cell 3 rfl
  have hl := R0.lt
  clear R0
  have hd : OldS w0 w0.drew := OldS.of (Below.refl _ _).drew
  refine wp_region_held_drew (S := OldS w0) (by kernel_rfl) hd (fun hH => ?_)
  refine take_dst 0 4 (.pointer (some ⟨w.heap.size, 1, none⟩)) rfl (by kernel_rfl) (by kernel_rfl) (by kernel_rfl) (fun _ _ _ h => h) (Or.inl ⟨by rfl, by intro wv hSv; unfold OldS at hSv; go_simp⟩) hd rfl ?_
  try simp only [tk0, tk1, tk2, tk3, tk4]
  refine take_dst 1 5 (.int .i64 a) rfl (by kernel_rfl) (by kernel_rfl) (by kernel_rfl) (fun _ _ _ h => h) (Or.inl ⟨by rfl, by intro wv hSv; unfold OldS at hSv; go_simp⟩) hd rfl ?_
  try simp only [tk0, tk1, tk2, tk3, tk4]
  refine take_dst 2 6 (.pointer (some ⟨w.heap.size, 2, none⟩)) rfl (by kernel_rfl) (by kernel_rfl) (by kernel_rfl) (fun _ _ _ h => h) (Or.inl ⟨by rfl, by intro wv hSv; unfold OldS at hSv; go_simp⟩) hd rfl ?_
  try simp only [tk0, tk1, tk2, tk3, tk4]
  refine take_dst 3 7 (.int .i64 b) rfl (by kernel_rfl) (by kernel_rfl) (by kernel_rfl) (fun _ _ _ h => h) (Or.inl ⟨by rfl, by intro wv hSv; unfold OldS at hSv; go_simp⟩) hd rfl ?_
  try simp only [tk0, tk1, tk2, tk3, tk4]
  refine take_dst 4 8 (.bool (b == 511)) rfl (by kernel_rfl) (by kernel_rfl) (by kernel_rfl) (fun _ _ _ h => h) (Or.inl ⟨by rfl, by intro wv hSv; unfold OldS at hSv; go_simp⟩) hd rfl ?_
  try simp only [tk0, tk1, tk2, tk3, tk4]
  refine take_dst 5 2 (.int .i64 a) rfl (by kernel_rfl) (by kernel_rfl) (by kernel_rfl) (fun _ _ _ h => h) (Or.inl ⟨by rfl, by intro wv hSv; unfold OldS at hSv; go_simp⟩) hd rfl ?_
  try simp only [tk0, tk1, tk2, tk3, tk4]
  refine take_dst 6 3 (.bool (b == 511)) rfl (by kernel_rfl) (by kernel_rfl) (by kernel_rfl) (fun _ _ _ h => h) (Or.inl ⟨by rfl, by intro wv hSv; unfold OldS at hSv; go_simp⟩) hd rfl ?_
  try simp only [tk0, tk1, tk2, tk3, tk4]
  refine wpAnyH_done (by kernel_rfl) ?_ _
  clear hH hd r0 r1 r2 r3
  go_wp2_with fail
  go_ret2
  exact ⟨rfl, bw.drew⟩
theorem takesBehindA_in (op a b c s : Int) (w : World) (a1 : 0 ≤ a) (a2 : a ≤ 255) : Calls Tryz.prog 83 #[insV op a b c s] w fun e w' => e = .returned (.tuple #[.int .i64 (a + 1), .bool (b == 511)]) ∧ Below w.heap.size w w' := by
  have hwa : IntKind.i64.wrap (a + 1) = a + 1 := by simp [IntKind.wrap, IntKind.bits, IntKind.signed]; omega
  go_enter Tryz.func83, Tryz.ntmps83
  go_wp2_with fail
  have R0 := RowL.new w [.int .i64 op, .int .i64 a, .int .i64 b, .int .i64 c, .int .i64 s] 88
  have bw : Below w.heap.size w (w.alloc (.cells #[.int .i64 op, .int .i64 a, .int .i64 b, .int .i64 c, .int .i64 s] 88)) := (Below.refl _ _).alloc (Nat.le_refl _) _
  generalize w.alloc (.cells #[.int .i64 op, .int .i64 a, .int .i64 b, .int .i64 c, .int .i64 s] 88) = w0 at R0 bw ⊢
  have r0 := R0.cell 0 rfl
  have r1 := R0.cell 1 rfl
  have r2 := R0.cell 2 rfl
  have r3 := R0.cell 3 rfl
  have hl := R0.lt
  clear R0
  have hd : OldS w0 w0.drew := OldS.of (Below.refl _ _).drew
  refine wp_region_held_drew (S := OldS w0) (by kernel_rfl) hd (fun hH => ?_)
  refine take_dst 0 4 (.pointer (some ⟨w.heap.size, 1, none⟩)) rfl (by kernel_rfl) (by kernel_rfl) (by kernel_rfl) (fun _ _ _ h => h) (Or.inl ⟨by rfl, by intro wv hSv; unfold OldS at hSv; go_simp⟩) hd rfl ?_
  try simp only [tk0, tk1, tk2, tk3, tk4]
  refine take_dst 1 5 (.int .i64 a) rfl (by kernel_rfl) (by kernel_rfl) (by kernel_rfl) (fun _ _ _ h => h) (Or.inl ⟨by rfl, by intro wv hSv; unfold OldS at hSv; go_simp⟩) hd rfl ?_
  try simp only [tk0, tk1, tk2, tk3, tk4]
  refine take_dst 2 6 (.int .i64 (a + 1)) rfl (by kernel_rfl) (by kernel_rfl) (by kernel_rfl) (fun _ _ _ h => h) (Or.inl ⟨by rfl, by intro wv hSv; unfold OldS at hSv; go_simp⟩) hd rfl ?_
  try simp only [tk0, tk1, tk2, tk3, tk4]
  refine take_dst 3 7 (.pointer (some ⟨w.heap.size, 2, none⟩)) rfl (by kernel_rfl) (by kernel_rfl) (by kernel_rfl) (fun _ _ _ h => h) (Or.inl ⟨by rfl, by intro wv hSv; unfold OldS at hSv; go_simp⟩) hd rfl ?_
  try simp only [tk0, tk1, tk2, tk3, tk4]
  refine take_dst 4 8 (.int .i64 b) rfl (by kernel_rfl) (by kernel_rfl) (by kernel_rfl) (fun _ _ _ h => h) (Or.inl ⟨by rfl, by intro wv hSv; unfold OldS at hSv; go_simp⟩) hd rfl ?_
  try simp only [tk0, tk1, tk2, tk3, tk4]
  refine take_dst 5 9 (.bool (b == 511)) rfl (by kernel_rfl) (by kernel_rfl) (by kernel_rfl) (fun _ _ _ h => h) (Or.inl ⟨by rfl, by intro wv hSv; unfold OldS at hSv; go_simp⟩) hd rfl ?_
  try simp only [tk0, tk1, tk2, tk3, tk4]
  refine take_dst 6 2 (.int .i64 (a + 1)) rfl (by kernel_rfl) (by kernel_rfl) (by kernel_rfl) (fun _ _ _ h => h) (Or.inl ⟨by rfl, by intro wv hSv; unfold OldS at hSv; go_simp⟩) hd rfl ?_
  try simp only [tk0, tk1, tk2, tk3, tk4]
  refine take_dst 7 3 (.bool (b == 511)) rfl (by kernel_rfl) (by kernel_rfl) (by kernel_rfl) (fun _ _ _ h => h) (Or.inl ⟨by rfl, by intro wv hSv; unfold OldS at hSv; go_simp⟩) hd rfl ?_
  try simp only [tk0, tk1, tk2, tk3, tk4]
  refine wpAnyH_done (by kernel_rfl) ?_ _
  clear hH hd r0 r1 r2 r3
  go_wp2_with fail
  go_ret2
  exact ⟨rfl, bw.drew⟩
theorem qn56 (w : World) : (binOp .eql 74 .nilFunc .nilFunc).run Tryz.prog w = .ok (.bool true) w := by kernel_rfl
theorem qf56 (w : World) (k : Nat) : (binOp .eql 74 (.func (.func k) #[] #[]) .nilFunc).run Tryz.prog w = .ok (.bool false) w := by kernel_rfl
attribute [local go_sem] qn56 qf56
theorem takes_nil (w : World) (pb po B uo : Nat) (pc : Int) (n : Nat) (a b c s : Int) (hU : UsO w B uo) (hB : B < w.heap.size) (hn : n < 64) (hf : usC n 7 = .nilFunc) :
    Calls Tryz.prog 166 #[plN pb po B uo pc n a b c s] w fun e w' => e = .returned (.tuple #[.int .i64 0, .bool false]) ∧ Below w.heap.size w w' := by
  have t7 : w.cell? ⟨B, uo + n * 10 + 7, none⟩ = some .nilFunc := by rw [← hf]; exact hU n 7 hn (by omega)
  replace hU : Hid _ := hU
  clear hf
  go_enter Tryz.func166, Tryz.ntmps166
  go_wp2
  go_ret2
  exact ⟨rfl, by go_grown⟩
theorem takes_takesFromA (w : World) (pb po B uo : Nat) (pc : Int) (n : Nat) (a b c s : Int) (hU : UsO w B uo) (hB : B < w.heap.size) (hn : n < 64) (hf : usC n 7 = .func (.func 89) #[] #[]) :
    Calls Tryz.prog 166 #[plN pb po B uo pc n a b c s] w fun e w' => e = .returned (.tuple #[.int .i64 (a), .bool (b == 511)]) ∧ Below w.heap.size w w' := by
  have t7 : w.cell? ⟨B, uo + n * 10 + 7, none⟩ = some (.func (.func 89) #[] #[]) := by rw [← hf]; exact hU n 7 hn (by omega)
  replace hU : Hid _ := hU
  clear hf
  go_enter Tryz.func166, Tryz.ntmps166
  go_wp2_with fail
  have R0 := RowL.new w [.pointer (some ⟨pb, po, none⟩), .pointer (some ⟨B, uo + n * 10, none⟩), .int .i64 pc, .int .i64 (n : Int), .int .i64 a, .int .i64 b, .int .i64 c, .int .i64 s] 150
  have bw : Below w.heap.size w (w.alloc (.cells #[.pointer (some ⟨pb, po, none⟩), .pointer (some ⟨B, uo + n * 10, none⟩), .int .i64 pc, .int .i64 (n : Int), .int .i64 a, .int .i64 b, .int .i64 c, .int .i64 s] 150)) := (Below.refl _ _).alloc (Nat.le_refl _) _
  generalize w.alloc (.cells #[.pointer (some ⟨pb, po, none⟩), .pointer (some ⟨B, uo + n * 10, none⟩), .int .i64 pc, .int .i64 (n : Int), .int .i64 a, .int .i64 b, .int .i64 c, .int .i64 s] 150) = w0 at R0 bw ⊢
  have r0 := R0.cell 0 rfl
  have r1 := R0.cell 1 rfl
  have r2 := R0.cell 2 rfl
  have r3 := R0.cell 3 rfl
  have r4 := R0.cell 4 rfl
  have r5 := R0.cell 5 rfl
  have r6 := R0.cell 6 rfl
  have r7 := R0.cell 7 rfl
  have hl := R0.lt
  clear R0
  have hB0 : B < w0.heap.size := Nat.lt_of_lt_of_le hB bw.size
  replace t7 := (bw.cell (p := ⟨B, uo + n * 10 + 7, none⟩) hB).trans t7
  have hd : OldS w0 w0.drew := OldS.of (Below.refl _ _).drew
  refine wp_region_held_drew (S := OldS w0) (by kernel_rfl) hd (fun hH => ?_)
  refine take_dst 0 10 (.pointer (some ⟨w.heap.size, 1, none⟩)) rfl (by kernel_rfl) (by kernel_rfl) (by kernel_rfl) (fun _ _ _ h => h) (Or.inl ⟨by rfl, by intro wv hSv; unfold OldS at hSv; go_simp⟩) hd rfl ?_
  try simp only [tk0, tk1, tk2, tk3, tk4]
  refine take_dst 1 11 (.pointer (some ⟨B, uo + n * 10, none⟩)) rfl (by kernel_rfl) (by kernel_rfl) (by kernel_rfl) (fun _ _ _ h => h) (Or.inl ⟨by rfl, by intro wv hSv; unfold OldS at hSv; go_simp⟩) hd rfl ?_
  try simp only [tk0, tk1, tk2, tk3, tk4]
  refine take_dst 2 12 (.pointer (some ⟨B, uo + n * 10, none⟩)) rfl (by kernel_rfl) (by kernel_rfl) (by kernel_rfl) (fun _ _ _ h => h) (Or.inl ⟨by rfl, by intro wv hSv; unfold OldS at hSv; go_simp⟩) hd rfl ?_
  try simp only [tk0, tk1, tk2, tk3, tk4]
  refine take_dst 3 13 (.pointer (some ⟨B, uo + n * 10 + 7, none⟩)) rfl (by kernel_rfl) (by kernel_rfl) (by kernel_rfl) (fun _ _ _ h => h) (Or.inl ⟨by rfl, by intro wv hSv; unfold OldS at hSv; go_simp⟩) hd rfl ?_
  try simp only [tk0, tk1, tk2, tk3, tk4]
  refine take_dst 4 14 (.func (.func 89) #[] #[]) rfl (by kernel_rfl) (by kernel_rfl) (by kernel_rfl) (fun _ _ _ h => h) (Or.inl ⟨by rfl, by intro wv hSv; unfold OldS at hSv; go_simp⟩) hd rfl ?_
  try simp only [tk0, tk1, tk2, tk3, tk4]
  refine take_dst 5 15 (.pointer (some ⟨w.heap.size, 3, none⟩)) rfl (by kernel_rfl) (by kernel_rfl) (by kernel_rfl) (fun _ _ _ h => h) (Or.inl ⟨by rfl, by intro wv hSv; unfold OldS at hSv; go_simp⟩) hd rfl ?_
  try simp only [tk0, tk1, tk2, tk3, tk4]
  refine take_dst 6 16 (.agg #[.int .i64 (n : Int), .int .i64 a, .int .i64 b, .int .i64 c, .int .i64 s]) rfl (by kernel_rfl) (by kernel_rfl) (by kernel_rfl) (fun _ _ _ h => h) (Or.inl ⟨by rfl, by intro wv hSv; unfold OldS at hSv; go_simp⟩) hd rfl ?_
  try simp only [tk0, tk1, tk2, tk3, tk4]
  refine wpAnyH_ready (rs := [7]) (by kernel_rfl) (by simp) ?_
  refine AllReadyH.cons rfl (fun KK hKK => ?_) AllReadyH.nil
  go_simp
  refine (takesFromA_in (n : Int) a b c s _).mono ?_
  rintro e y2 ⟨rfl, b2⟩
  replace b2 : Below w0.heap.size w0 y2 := ⟨b2.os, b2.tape, b2.output, b2.size, b2.block⟩
  have h2o : OldS w0 y2 := OldS.of b2
  go_wp2_with fail
  refine hKK.out _ _ h2o (fun _ => ?_)
  clear hKK KK
  try simp only [tk0, tk1, tk2, tk3, tk4]
  refine take_dst 8 18 (.int .i64 (a)) rfl (by kernel_rfl) (by kernel_rfl) (by kernel_rfl) (fun _ _ _ h => h) (Or.inl ⟨by rfl, by intro wv hSv; unfold OldS at hSv; go_simp⟩) h2o rfl ?_
  try simp only [tk0, tk1, tk2, tk3, tk4]
  refine take_dst 9 19 (.bool (b == 511)) rfl (by kernel_rfl) (by kernel_rfl) (by kernel_rfl) (fun _ _ _ h => h) (Or.inl ⟨by rfl, by intro wv hSv; unfold OldS at hSv; go_simp⟩) h2o rfl ?_
  try simp only [tk0, tk1, tk2, tk3, tk4]
  refine take_dst 10 2 (.int .i64 (a)) rfl (by kernel_rfl) (by kernel_rfl) (by kernel_rfl) (fun _ _ _ h => h) (Or.inl ⟨by rfl, by intro wv hSv; unfold OldS at hSv; go_simp⟩) h2o rfl ?_
  try simp only [tk0, tk1, tk2, tk3, tk4]
  refine take_dst 11 3 (.bool (b == 511)) rfl (by kernel_rfl) (by kernel_rfl) (by kernel_rfl) (fun _ _ _ h => h) (Or.inl ⟨by rfl, by intro wv hSv; unfold OldS at hSv; go_simp⟩) h2o rfl ?_
  try simp only [tk0, tk1, tk2, tk3, tk4]
  have bF := bw.trans (b2.mono bw.size)
  refine wpAnyH_done (by kernel_rfl) ?_ _
  clear hH hd h2o b2 r0 r1 r2 r3 r4 r5 r6 r7 t7
  go_wp2_with fail
  go_ret2
  exact ⟨rfl, bF⟩
theorem takes_takesBehindA (w : World) (pb po B uo : Nat) (pc : Int) (n : Nat) (a b c s : Int) (hU : UsO w B uo) (hB : B < w.heap.size) (hn : n < 64) (hf : usC n 7 = .func (.func 83) #[] #[]) (a1 : 0 ≤ a) (a2 : a ≤ 255) :
    Calls Tryz.prog 166 #[plN pb po B uo pc n a b c s] w fun e w' => e = .returned (.tuple #[.int .i64 (a + 1), .bool (b == 511)]) ∧ Below w.heap.size w w' := by
  have t7 : w.cell? ⟨B, uo + n * 10 + 7, none⟩ = some (.func (.func 83) #[] #[]) := by rw [← hf]; exact hU n 7 hn (by omega)
  replace hU : Hid _ := hU
  clear hf
  go_enter Tryz.func166, Tryz.ntmps166
  go_wp2_with fail
  have R0 := RowL.new w [.pointer (some ⟨pb, po, none⟩), .pointer (some ⟨B, uo + n * 10, none⟩), .int .i64 pc, .int .i64 (n : Int), .int .i64 a, .int .i64 b, .int .i64 c, .int .i64 s] 150
  have bw : Below w.heap.size w (w.alloc (.cells #[.pointer (some ⟨pb, po, none⟩), .pointer (some ⟨B, uo + n * 10, none⟩), .int .i64 pc, .int .i64 (n : Int), .int .i64 a, .int .i64 b, .int .i64 c, .int .i64 s] 150)) := (Below.refl _ _).alloc (Nat.le_refl _) _
  generalize w.alloc (.cells #[.pointer (some ⟨pb, po, none⟩), .pointer (some ⟨B, uo + n * 10, none⟩), .int .i64 pc, .int .i64 (n : Int), .int .i64 a, .int .i64 b, .int .i64 c, .int .i64 s] 150) = w0 at R0 bw ⊢
  have r0 := R0.cell 0 rfl
  have r1 := R0.cell 1 rfl
  have r2 := R0.cell 2 rfl
  have r3 := R0.cell 3 rfl
  have r4 := R0.cell 4 rfl
  have r5 := R0.cell 5 rfl
  have r6 := R0.cell 6 rfl
  have r7 := R0.cell 7 rfl
  have hl := R0.lt
  clear R0
  have hB0 : B < w0.heap.size := Nat.lt_of_lt_of_le hB bw.size
  replace t7 := (bw.cell (p := ⟨B, uo + n * 10 + 7, none⟩) hB).trans t7
  have hd : OldS w0 w0.drew := OldS.of (Below.refl _ _).drew
  refine wp_region_held_drew (S := OldS w0) (by kernel_rfl) hd (fun hH => ?_)
  refine take_dst 0 10 (.pointer (some ⟨w.heap.size, 1, none⟩)) rfl (by kernel_rfl) (by kernel_rfl) (by kernel_rfl) (fun _ _ _ h => h) (Or.inl ⟨by rfl, by intro wv hSv; unfold OldS at hSv; go_simp⟩) hd rfl ?_
  try simp only [tk0, tk1, tk2, tk3, tk4]
  refine take_dst 1 11 (.pointer (some ⟨B, uo + n * 10, none⟩)) rfl (by kernel_rfl) (by kernel_rfl) (by kernel_rfl) (fun _ _ _ h => h) (Or.inl ⟨by rfl, by intro wv hSv; unfold OldS at hSv; go_simp⟩) hd rfl ?_
  try simp only [tk0, tk1, tk2, tk3, tk4]
  refine take_dst 2 12 (.pointer (some ⟨B, uo + n * 10, none⟩)) rfl (by kernel_rfl) (by kernel_rfl) (by kernel_rfl) (fun _ _ _ h => h) (Or.inl ⟨by rfl, by intro wv hSv; unfold OldS at hSv; go_simp⟩) hd rfl ?_
  try simp only [tk0, tk1, tk2, tk3, tk4]
  refine take_dst 3 13 (.pointer (some ⟨B, uo + n * 10 + 7, none⟩)) rfl (by kernel_rfl) (by kernel_rfl) (by kernel_rfl) (fun _ _ _ h => h) (Or.inl ⟨by rfl, by intro wv hSv; unfold OldS at hSv; go_simp⟩) hd rfl ?_
  try simp only [tk0, tk1, tk2, tk3, tk4]
  refine take_dst 4 14 (.func (.func 83) #[] #[]) rfl (by kernel_rfl) (by kernel_rfl) (by kernel_rfl) (fun _ _ _ h => h) (Or.inl ⟨by rfl, by intro wv hSv; unfold OldS at hSv; go_simp⟩) hd rfl ?_
  try simp only [tk0, tk1, tk2, tk3, tk4]
  refine take_dst 5 15 (.pointer (some ⟨w.heap.size, 3, none⟩)) rfl (by kernel_rfl) (by kernel_rfl) (by kernel_rfl) (fun _ _ _ h => h) (Or.inl ⟨by rfl, by intro wv hSv; unfold OldS at hSv; go_simp⟩) hd rfl ?_
  try simp only [tk0, tk1, tk2, tk3, tk4]
  refine take_dst 6 16 (.agg #[.int .i64 (n : Int), .int .i64 a, .int .i64 b, .int .i64 c, .int .i64 s]) rfl (by kernel_rfl) (by kernel_rfl) (by kernel_rfl) (fun _ _ _ h => h) (Or.inl ⟨by rfl, by intro wv hSv; unfold OldS at hSv; go_simp⟩) hd rfl ?_
  try simp only [tk0, tk1, tk2, tk3, tk4]
  refine wpAnyH_ready (rs := [7]) (by kernel_rfl) (by simp) ?_
  refine AllReadyH.cons rfl (fun KK hKK => ?_) AllReadyH.nil
  go_simp
  refine (takesBehindA_in (n : Int) a b c s _ a1 a2).mono ?_
  rintro e y2 ⟨rfl, b2⟩
  replace b2 : Below w0.heap.size w0 y2 := ⟨b2.os, b2.tape, b2.output, b2.size, b2.block⟩
  have h2o : OldS w0 y2 := OldS.of b2
  go_wp2_with fail
  refine hKK.out _ _ h2o (fun _ => ?_)
  clear hKK KK
  try simp only [tk0, tk1, tk2, tk3, tk4]
  refine take_dst 8 18 (.int .i64 (a + 1)) rfl (by kernel_rfl) (by kernel_rfl) (by kernel_rfl) (fun _ _ _ h => h) (Or.inl ⟨by rfl, by intro wv hSv; unfold OldS at hSv; go_simp⟩) h2o rfl ?_
  try simp only [tk0, tk1, tk2, tk3, tk4]
  refine take_dst 9 19 (.bool (b == 511)) rfl (by kernel_rfl) (by kernel_rfl) (by kernel_rfl) (fun _ _ _ h => h) (Or.inl ⟨by rfl, by intro wv hSv; unfold OldS at hSv; go_simp⟩) h2o rfl ?_
  try simp only [tk0, tk1, tk2, tk3, tk4]
  refine take_dst 10 2 (.int .i64 (a + 1)) rfl (by kernel_rfl) (by kernel_rfl) (by kernel_rfl) (fun _ _ _ h => h) (Or.inl ⟨by rfl, by intro wv hSv; unfold OldS at hSv; go_simp⟩) h2o rfl ?_
  try simp only [tk0, tk1, tk2, tk3, tk4]
  refine take_dst 11 3 (.bool (b == 511)) rfl (by kernel_rfl) (by kernel_rfl) (by kernel_rfl) (fun _ _ _ h => h) (Or.inl ⟨by rfl, by intro wv hSv; unfold OldS at hSv; go_simp⟩) h2o rfl ?_
  try simp only [tk0, tk1, tk2, tk3, tk4]
  have bF := bw.trans (b2.mono bw.size)
  refine wpAnyH_done (by kernel_rfl) ?_ _
  clear hH hd h2o b2 r0 r1 r2 r3 r4 r5 r6 r7 t7
  go_wp2_with fail
  go_ret2
  exact ⟨rfl, bF⟩
theorem takes_in (w : World) (pb po B uo : Nat) (pc : Int) (n : Nat) (a b c s : Int) (hU : UsO w B uo) (hB : B < w.heap.size) (hn : n < 64) (a1 : 0 ≤ a) (a2 : a ≤ 255) (z : Int) (hp : Prt z n a b c s) :
    Calls Tryz.prog 166 #[plN pb po B uo pc n a b c s] w fun e w' => (∃ (f : Int) (q : Bool), e = .returned (.tuple #[.int .i64 f, .bool q]) ∧ (q = true ↔ takesW z) ∧ (q = true → f = fromW z)) ∧ Below w.heap.size w w' := by
  by_cases k1 : n = 22 ∨ n = 30
  · refine (takes_takesBehindA w pb po B uo pc n a b c s hU hB hn (us7a n hn k1) a1 a2).mono fun e w' ⟨he, hb⟩ => ⟨⟨_, _, he, ?_, fun _ => ?_⟩, hb⟩
    · unfold takesW; rw [hp.n, hp.b]; simp; intro _; omega
    · unfold fromW; rw [hp.n, hp.a, if_pos (by omega)]
  by_cases k2 : n = 23 ∨ n = 31
  · refine (takes_takesFromA w pb po B uo pc n a b c s hU hB hn (us7b n hn k2)).mono fun e w' ⟨he, hb⟩ => ⟨⟨_, _, he, ?_, fun _ => ?_⟩, hb⟩
    · unfold takesW; rw [hp.n, hp.b]; simp; intro _; omega
    · unfold fromW; rw [hp.n, hp.a, if_neg (by omega)]
  refine (takes_nil w pb po B uo pc n a b c s hU hB hn (us7n n hn (by omega))).mono fun e w' ⟨he, hb⟩ => ⟨⟨_, _, he, ?_, fun h => by simp at h⟩, hb⟩
  unfold takesW; rw [hp.n]; simp; omega
theorem topFits_in (w : World) (pb po B uo : Nat) (pc : Int) (n : Nat) (a b c s : Int) (hU : UsO w B uo) (hB : B < w.heap.size) (hn : n < 64) (a1 : 0 ≤ a) (a2 : a ≤ 255) (z : Int) (hp : Prt z n a b c s) (x : Int) :
    Calls Tryz.prog 119 #[plN pb po B uo pc n a b c s, .int .i64 x] w fun e w' => Says e (x = -2 ∨ ((takesW z → fromW z ≤ x) ∧ (¬ takesW z → x = -1))) ∧ Below w.heap.size w w' := by
  by_cases x2 : x = -2
  · have d2 : (x == -2) = true := by simp [x2]
    have hy : Hid (x = -2 ∨ ((takesW z → fromW z ≤ x) ∧ (¬ takesW z → x = -1))) := .inl x2
    replace x2 : Hid _ := x2
    clear hp hU
    go_enter Tryz.func119, Tryz.ntmps119
    go_wp2_with fail
    go_ret
    exact ⟨says_yes hy.out, by go_grown⟩
  · have d2 : (x == -2) = false := by simp [x2]
    replace hp : Hid (Prt z n a b c s) := hp
    replace hU : Hid (UsO w B uo) := hU
    go_enter Tryz.func119, Tryz.ntmps119
    go_wp2_with fail
    have bw : Below w.heap.size w (w.alloc (.cells #[.pointer (some ⟨pb, po, none⟩), .pointer (some ⟨B, uo + n * 10, none⟩), .int .i64 pc, .int .i64 (n : Int), .int .i64 a, .int .i64 b, .int .i64 c, .int .i64 s] 150)) := (Below.refl _ _).alloc (Nat.le_refl _) _
    generalize w.alloc (.cells #[.pointer (some ⟨pb, po, none⟩), .pointer (some ⟨B, uo + n * 10, none⟩), .int .i64 pc, .int .i64 (n : Int), .int .i64 a, .int .i64 b, .int .i64 c, .int .i64 s] 150) = w0 at bw ⊢
    refine (takes_in w0 pb po B uo pc n a b c s (hU.out.later hB bw) (Nat.lt_of_lt_of_le hB bw.size) hn a1 a2 z hp.out).mono ?_
    rintro e y ⟨⟨f, q, rfl, hq, hf⟩, b9⟩
    replace bw := bw.trans (b9.mono bw.size)
    clear b9
    cases q with
    | true =>
      have hy := hq.1 rfl
      have hff := hf rfl
      have hI : Hid ((fromW z ≤ x) ↔ (x = -2 ∨ ((takesW z → fromW z ≤ x) ∧ (¬ takesW z → x = -1)))) := ⟨fun h => .inr ⟨fun _ => h, fun h' => absurd hy h'⟩, fun h => h.elim (fun h => absurd h x2) fun h => h.1 hy⟩
      subst hff
      clear hq hf hy
      go_wp2_with fail
      go_ret
      exact ⟨⟨_, rfl, by rw [decide_eq_true_iff]; exact hI.out⟩, bw⟩
    | false =>
      have hy : ¬ takesW z := fun h => by simpa using hq.2 h
      have hI : Hid ((x = -1) ↔ (x = -2 ∨ ((takesW z → fromW z ≤ x) ∧ (¬ takesW z → x = -1)))) := ⟨fun h => .inr ⟨fun h' => absurd h' hy, fun _ => h⟩, fun h => h.elim (fun h => absurd h x2) fun h => h.2 hy⟩
      clear hq hf hy
      go_wp2_with fail
      go_ret
      exact ⟨⟨_, rfl, by rw [beq_iff_eq]; exact hI.out⟩, bw⟩
set_option maxHeartbeats 4000000 in
theorem every_in (w : World) (pb po B uo : Nat) (pc : Int) (n : Nat) (a b c s : Int) (p : PD) (a3 a4 a5 : Value) (hP : PtrP w pb po p a3 a4 a5) (z : Int) (hp : Prt z n a b c s) (hn2 : p.code.n ≤ 2000) (hn0 : 0 < p.code.n) (L : List Int) (au : Option Addr) (cu : Nat) (hI : IsInts .i64 (· < w.heap.size) w (.slice au L.length cu) (slI L)) (hL : L.length ≤ 1000) :
    Calls Tryz.prog 156 #[.slice au L.length cu, .func (.func 97) #[.agg #[.pointer (some ⟨pb, po, none⟩), .pointer (some ⟨B, uo + n * 10, none⟩), .int .i64 pc, .int .i64 (n : Int), .int .i64 a, .int .i64 b, .int .i64 c, .int .i64 s]] #[]] w fun e w' => Says e (∀ (j : Nat) (x : Int), L[j]? = some x → 0 ≤ x ∧ x < (p.code.n : Int)) ∧ Below w.heap.size w w' := by
  have hP9 : Hid (PtrP w pb po p a3 a4 a5) := hP
  have hI9 : Hid (IsInts .i64 (· < w.heap.size) w (.slice au L.length cu) (slI L)) := hI
  replace hp : Hid (Prt z n a b c s) := hp
  clear hP hI
  go_enter Tryz.func156, Tryz.ntmps156
  go_wp2_with fail
  go_loopw [6, 9] (fun _ kv wr => ∃ k : Nat, kv = .int .i64 (k : Int) ∧ k ≤ L.length ∧ Hid (Below w.heap.size w wr ∧ ∀ (j : Nat) (x : Int), j < k → L[j]? = some x → 0 ≤ x ∧ x < (p.code.n : Int))) (fun _ kv _ => L.length - (intOf kv).toNat)
  case atStart => exact ⟨0, rfl, by omega, Below.refl _ _, fun j x h => absurd h (by omega)⟩
  case round =>
    obtain ⟨k, rfl, hk, hT⟩ := hrel
    obtain ⟨wA, hwA⟩ : ∃ x, x = wr := ⟨_, rfl⟩
    subst hwA
    obtain ⟨hB, hz⟩ := hT.out
    by_cases hkL : k < L.length
    · have hkI : (k : Int) < (L.length : Int) := by omega
      obtain ⟨x, hx⟩ : ∃ x, L[k]? = some x := ⟨L[k], List.getElem?_eq_getElem hkL⟩
      obtain ⟨bl, ol, rfl, hbl, hcl⟩ : ∃ bl ol, au = some ⟨bl, ol, none⟩ ∧ bl < wA.heap.size ∧ wA.cell? ⟨bl, ol + k, none⟩ = some (.int .i64 x) := by
        obtain ⟨_, _, e, _, h⟩ := IsArr.later hI9.out hB
        obtain ⟨bl, ol, e', hb', hc'⟩ := h (by show 0 < L.length; omega)
        simp only [Value.slice.injEq] at e
        obtain ⟨rfl, -, -⟩ := e
        have h1 := hc' k hkL 0 (by omega)
        have hxd : L.getD k 0 = x := by simp [List.getD, hx]
        exact ⟨bl, ol, e', hb', by simpa [iC, slI, hxd, hx] using h1⟩
      obtain ⟨q, hq⟩ : ∃ q : Bool, q = decide (0 ≤ x ∧ x < (p.code.n : Int)) := ⟨_, rfl⟩
      have hic := inCode_in wA pb po B uo pc z p a3 a4 a5 (hP9.out.later hB) x hn2 hn0 q hq
      rw [plV_eq hp.out] at hic
      have hq2 : q = true ↔ (0 ≤ x ∧ x < (p.code.n : Int)) := by rw [hq, decide_eq_true_iff]
      clear hq
      go_wp2_with fail
      refine hic.mono ?_
      rintro e y ⟨rfl, b9⟩
      have bF := hB.trans (b9.mono hB.size)
      clear b9 hic
      cases q with
      | true =>
        have T1 : Hid (Below w.heap.size w y ∧ ∀ (j : Nat) (x : Int), j < k + 1 → L[j]? = some x → 0 ≤ x ∧ x < (p.code.n : Int)) := ⟨bF, fun j x' hj hx' => by by_cases e : j = k; (subst e; rw [hx] at hx'; obtain rfl := Option.some.inj hx'; exact hq2.1 rfl); exact hz j x' (by omega) hx'⟩
        clear hq2 hz hT hB bF
        go_wp2_with fail
        go_roundw
        case rel => exact ⟨k + 1, by go_num, by omega, T1.out⟩
        case measure => simp [intOf]; omega
      | false =>
        have hno : Hid (¬ (∀ (j : Nat) (x : Int), L[j]? = some x → 0 ≤ x ∧ x < (p.code.n : Int))) := fun h => by simpa using hq2.2 (h k x hx)
        clear hq2 hz hT hB
        go_wp2_with fail
        go_ret
        exact ⟨says_no hno.out, bF⟩
    · have hkI : ¬ ((k : Int) < (L.length : Int)) := by omega
      have hyes : Hid (∀ (j : Nat) (x : Int), L[j]? = some x → 0 ≤ x ∧ x < (p.code.n : Int)) := fun j x hx => hz j x (by have := (List.getElem?_eq_some_iff.1 hx).1; omega) hx
      clear hz hT
      go_wp2_with fail
      go_ret
      exact ⟨says_yes hyes.out, hB⟩
end
section
open Go.RowKit Go.Shelf
set_option linter.unusedVariables false
set_option linter.unusedSimpArgs false
set_option maxRecDepth 100000
set_option maxHeartbeats 2000000
theorem stays_in (w : World) (pb po B uo : Nat) (pc : Int) (n : Nat) (a b c s : Int) (p : PD) (a3 a4 a5 : Value) (hP : PtrP w pb po p a3 a4 a5) (hU : UsO w B uo) (hB : B < w.heap.size) (z : Int) (hp : Prt z n a b c s) (h1 : 0 ≤ pc) (h2 : pc ≤ 100000) (hn2 : p.code.n ≤ 2000) (hn0 : 0 < p.code.n) (hz1 : 0 ≤ z) (hz2 : z ≤ 4294967295) :
    Calls Tryz.prog 117 #[plN pb po B uo pc n a b c s] w fun e w' => Says e (∀ (j : Nat) (x : Int), (folW pc z)[j]? = some x → 0 ≤ x ∧ x < (p.code.n : Int)) ∧ Below w.heap.size w w' := by
  have hL2 : (folW pc z).length ≤ 1000 := Nat.le_trans (folO_len9 pc (opW z) (sW z)) (by decide)
  have hnx : Hid (∀ y, Below w.heap.size w y → Calls Tryz.prog 96 #[.agg #[.pointer (some ⟨pb, po, none⟩), .pointer (some ⟨B, uo + n * 10, none⟩), .int .i64 pc, .int .i64 (n : Int), .int .i64 a, .int .i64 b, .int .i64 c, .int .i64 s]] y fun e w' => ∃ u, e = .returned u ∧ Below y.heap.size y w' ∧ IsInts .i64 (fun b => y.heap.size ≤ b ∧ b < w'.heap.size) w' u (slI (folW pc z))) := fun y hy => by have h := next_in y pb po B uo pc z (hU.later hB hy) (Nat.lt_of_lt_of_le hB hy.size) h1 h2 hz1 hz2; rw [plV_eq hp] at h; exact h
  have hev : Hid (∀ y au cu, Below w.heap.size w y → IsInts .i64 (· < y.heap.size) y (.slice au (folW pc z).length cu) (slI (folW pc z)) → Calls Tryz.prog 156 #[.slice au (folW pc z).length cu, .func (.func 97) #[.agg #[.pointer (some ⟨pb, po, none⟩), .pointer (some ⟨B, uo + n * 10, none⟩), .int .i64 pc, .int .i64 (n : Int), .int .i64 a, .int .i64 b, .int .i64 c, .int .i64 s]] #[]] y fun e w' => Says e (∀ (j : Nat) (x : Int), (folW pc z)[j]? = some x → 0 ≤ x ∧ x < (p.code.n : Int)) ∧ Below y.heap.size y w') := fun y au cu hy hI => every_in y pb po B uo pc n a b c s p a3 a4 a5 (hP.later hy) z hp hn2 hn0 _ au cu hI hL2
  clear hL2 hp hU hP
  generalize folW pc z = L at hnx hev ⊢
  go_enter Tryz.func117, Tryz.ntmps117
  go_wp2_with fail
  have R0 := RowL.new w [.pointer (some ⟨pb, po, none⟩), .pointer (some ⟨B, uo + n * 10, none⟩), .int .i64 pc, .int .i64 (n : Int), .int .i64 a, .int .i64 b, .int .i64 c, .int .i64 s] 150
  have bw : Below w.heap.size w (w.alloc (.cells #[.pointer (some ⟨pb, po, none⟩), .pointer (some ⟨B, uo + n * 10, none⟩), .int .i64 pc, .int .i64 (n : Int), .int .i64 a, .int .i64 b, .int .i64 c, .int .i64 s] 150)) := (Below.refl _ _).alloc (Nat.le_refl _) _
  generalize w.alloc (.cells #[.pointer (some ⟨pb, po, none⟩), .pointer (some ⟨B, uo + n * 10, none⟩), .int .i64 pc, .int .i64 (n : Int), .int .i64 a, .int .i64 b, .int .i64 c, .int .i64 s] 150) = w0 at R0 bw ⊢
  have r0 := R0.cell 0 rfl
  have r1 := R0.cell 1 rfl
  have r2 := R0.cell 2 rfl
  have r3 := R0.cell 3 rfl
  have r4 := R0.cell 4 rfl
  have r5 := R0.cell 5 rfl
  have r6 := R0.cell 6 rfl
  have r7 := R0.cell 7 rfl
  have hl := R0.lt
  clear R0
  have hd : OldS w0 w0.drew := OldS.of (Below.refl _ _).drew
  refine wp_region_held_drew (S := OldS w0) (by kernel_rfl) hd (fun hH => ?_)
  refine take_dst 0 3 (.agg #[.pointer (some ⟨pb, po, none⟩), .pointer (some ⟨B, uo + n * 10, none⟩), .int .i64 pc, .int .i64 (n : Int), .int .i64 a, .int .i64 b, .int .i64 c, .int .i64 s]) rfl (by kernel_rfl) (by kernel_rfl) (by kernel_rfl) (fun _ _ _ h => h) (Or.inl ⟨by rfl, by intro wv hSv; unfold OldS at hSv; go_simp⟩) hd rfl ?_
  try simp only [tk0, tk1, tk2, tk3, tk4]
  refine take_dst 2 5 (.agg #[.pointer (some ⟨pb, po, none⟩), .pointer (some ⟨B, uo + n * 10, none⟩), .int .i64 pc, .int .i64 (n : Int), .int .i64 a, .int .i64 b, .int .i64 c, .int .i64 s]) rfl (by kernel_rfl) (by kernel_rfl) (by kernel_rfl) (fun _ _ _ h => h) (Or.inl ⟨by rfl, by intro wv hSv; unfold OldS at hSv; go_simp⟩) hd rfl ?_
  try simp only [tk0, tk1, tk2, tk3, tk4]
  refine take_dst 3 6 (.func (.func 97) #[.agg #[.pointer (some ⟨pb, po, none⟩), .pointer (some ⟨B, uo + n * 10, none⟩), .int .i64 pc, .int .i64 (n : Int), .int .i64 a, .int .i64 b, .int .i64 c, .int .i64 s]] #[]) rfl (by kernel_rfl) (by kernel_rfl) (by kernel_rfl) (fun _ _ _ h => h) (Or.inl ⟨by rfl, by intro wv hSv; unfold OldS at hSv; go_simp⟩) hd rfl ?_
  try simp only [tk0, tk1, tk2, tk3, tk4]
  refine wpAnyH_ready (rs := [1]) (by kernel_rfl) (by simp) ?_
  refine AllReadyH.cons rfl (fun KK hKK => ?_) AllReadyH.nil
  go_simp
  refine (hnx.out _ (bw.trans ((Below.refl _ _).drew.mono bw.size))).mono ?_
  rintro e y2 ⟨u, rfl, b2, hI⟩
  replace b2 : Below w0.heap.size w0 y2 := ⟨b2.os, b2.tape, b2.output, b2.size, b2.block⟩
  have h2o : OldS w0 y2 := OldS.of b2
  obtain ⟨au, cu, rfl, hI9⟩ : ∃ au cu, u = .slice au L.length cu ∧ Hid (IsInts .i64 (· < y2.heap.size) y2 (.slice au L.length cu) (slI L)) := by
      obtain ⟨ao, cp, rfl, hle, h⟩ := hI
      exact ⟨ao, cp, rfl, ao, cp, rfl, hle, fun hn => by obtain ⟨b, o, e, hb, hc⟩ := h hn; exact ⟨b, o, e, hb.2, hc⟩⟩
  clear hI
  go_wp2_with fail
  refine hKK.out _ _ h2o (fun _ => ?_)
  clear hKK KK
  try simp only [tk0, tk1, tk2, tk3, tk4]
  refine wpAnyH_ready (rs := [4]) (by kernel_rfl) (by simp) ?_
  refine AllReadyH.cons rfl (fun KK hKK => ?_) AllReadyH.nil
  go_simp
  refine (hev.out _ au cu (bw.trans (b2.mono bw.size)) hI9.out).mono ?_
  rintro e y3 ⟨⟨r, rfl, hr⟩, b3⟩
  have b4 := b2.trans (b3.mono b2.size)
  have h3o : OldS w0 y3 := OldS.of b4
  go_wp2_with fail
  refine hKK.out _ _ h3o (fun _ => ?_)
  clear hKK KK
  try simp only [tk0, tk1, tk2, tk3, tk4]
  refine take_dst 5 2 (.bool r) rfl (by kernel_rfl) (by kernel_rfl) (by kernel_rfl) (fun _ _ _ h => h) (Or.inl ⟨by rfl, by intro wv hSv; unfold OldS at hSv; go_simp⟩) h3o rfl ?_
  try simp only [tk0, tk1, tk2, tk3, tk4]
  have bF := bw.trans (b4.mono bw.size)
  refine wpAnyH_done (by kernel_rfl) ?_ _
  clear hH hd h2o h3o b2 b3 b4 r0 r1 r2 r3 r4 r5 r6 r7
  replace hr : Hid _ := hr
  go_wp2_with fail
  go_ret
  exact ⟨⟨_, rfl, hr.out⟩, bF⟩
/-- the list of what may come next is inside, given that jumps are. -/
theorem end_iff9 {p : PD} {pc : Nat} {z : Int} (hj : JumpOk p pc z) (hpc : pc < p.code.n) : (∀ (j : Nat) (x : Int), (folW (pc : Int) z)[j]? = some x → 0 ≤ x ∧ x < (p.code.n : Int)) ↔ EndOk p pc z := by
  rw [endOk_iff hj hpc]
  unfold JumpOk tgt at hj
  constructor
  · intro h j x hx
    have := h j x hx
    omega
  · intro h j x hx
    have h9 := h j x hx
    have hm := List.mem_of_getElem? hx
    unfold folW at hm
    split at hm
    · simp at hm
    · split at hm
      · simp at hm; have := hj (by omega); omega
      · split at hm
        · simp at hm; have := hj (by omega); omega
        · split at hm
          · simp at hm; omega
          · simp at hm; omega
end
end Go.Proofs.YtckapapejfnojaaGreatDoor

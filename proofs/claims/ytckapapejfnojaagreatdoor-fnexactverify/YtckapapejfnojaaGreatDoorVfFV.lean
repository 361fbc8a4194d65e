import Derived.Deep.QuietTactic
import Derived.BigQuiet
import Derived.Deep.Cut
import Derived.Deep.RegionHeld3
import Derived.Test.YtckapapejfnojaaGreatDoorGAV
import Derived.Test.YtckapapejfnojaaGreatDoorTpAV
import Derived.Test.YtckapapejfnojaaGreatDoorVfEV
namespace Go.Proofs.YtckapapejfnojaaGreatDoor
open Go.RowKit
set_option linter.unusedVariables false
set_option linter.unusedSimpArgs false
set_option maxRecDepth 100000
set_option maxHeartbeats 1000000
theorem fld0 (op a b c s : Int) (w : World) : (Instr.field 88 (insV op a b c s) 0).run Tryz.prog w = .ok (.int .i64 op) w := by kernel_rfl
attribute [local go_sem] fld0
theorem l4Op_at (p : PD) (ac : Option Addr) (cc : Nat) (o4 : Option Addr) (c4 : Nat) (o5 : Option Addr) (c5 : Nat) (o8 : Option Addr) (c8 : Nat) (o9 : Option Addr) (c9 : Nat) (x : Int) (t : Nat) (w : World) (hcode : IsInts .u32 (· < w.heap.size) w (.slice ac p.code.n cc) p.code) (hcb : ∀ i, i < p.code.n → 0 ≤ p.code.f i ∧ p.code.f i ≤ 4294967295) (hn0 : 0 < p.code.n) (hn2 : p.code.n ≤ 2000) (hx : x = (t : Int)) (ht : t < p.code.n) (z : Int) (hz : p.code.f t = z) :
    Calls Tryz.prog 163 #[prV p ac cc o4 c4 o5 c5 o8 c8 o9 c9, .int .i64 x] w fun e w' => e = .returned (insV (opW z) (aW z) (bW z) (cW z) (sW z)) ∧ Below w.heap.size w w' := by
  subst hx
  exact l4Op_yes p ac cc o4 c4 o5 c5 o8 c8 o9 c9 t w hcode hcb hn0 hn2 ht z hz
/-- a test is followed by a jump, a head has its loop. -/
structure PairN (p : PD) (pc n : Nat) (a s : Int) : Prop where
  jump : n = 19 ∨ n = 20 ∨ n = 21 → opAt p ((pc : Int) + 1) 18
  loop : n = 27 → ∃ t : Nat, (pc : Int) + s = (t : Int) ∧ t < p.code.n ∧ opW (p.code.f t) = 28 ∧ aW (p.code.f t) = a ∧ tgt t (p.code.f t) = (pc : Int) + 1
theorem cells_p {w y : World} {b : Nat} {ty : TypeId} (p : PD) (ac : Option Addr) (cc : Nat) (o4 : Option Addr) (c4 : Nat) (o5 : Option Addr) (c5 : Nat) (o8 : Option Addr) (c8 : Nat) (o9 : Option Addr) (c9 : Nat) (R : RowL y b ty [.int .i64 p.params, .bool p.vararg, .int .i64 p.regs, .slice ac p.code.n cc, .slice o4 p.consts.n c4, .slice o5 p.ups.n c5, .int .i64 p.kids, .string p.name, .slice o8 p.lines.n c8, .slice o9 p.upNames.n c9]) : y.cell? ⟨b, 0, none⟩ = some (.int .i64 p.params) ∧ y.cell? ⟨b, 1, none⟩ = some (.bool p.vararg) ∧ y.cell? ⟨b, 2, none⟩ = some (.int .i64 p.regs) ∧ y.cell? ⟨b, 3, none⟩ = some (.slice ac p.code.n cc) ∧ y.cell? ⟨b, 4, none⟩ = some (.slice o4 p.consts.n c4) ∧ y.cell? ⟨b, 5, none⟩ = some (.slice o5 p.ups.n c5) ∧ y.cell? ⟨b, 6, none⟩ = some (.int .i64 p.kids) ∧ y.cell? ⟨b, 7, none⟩ = some (.string p.name) ∧ y.cell? ⟨b, 8, none⟩ = some (.slice o8 p.lines.n c8) ∧ y.cell? ⟨b, 9, none⟩ = some (.slice o9 p.upNames.n c9) :=
  ⟨R.cell 0 rfl, R.cell 1 rfl, R.cell 2 rfl, R.cell 3 rfl, R.cell 4 rfl, R.cell 5 rfl, R.cell 6 rfl, R.cell 7 rfl, R.cell 8 rfl, R.cell 9 rfl⟩
theorem paired_o (n : Nat) (hn : n ≤ 63) (p : PD) (ac : Option Addr) (cc : Nat) (o4 : Option Addr) (c4 : Nat) (o5 : Option Addr) (c5 : Nat) (o8 : Option Addr) (c8 : Nat) (o9 : Option Addr) (c9 : Nat) (pc : Nat) (a b c s : Int) (w : World) (hcode : IsInts .u32 (· < w.heap.size) w (.slice ac p.code.n cc) p.code) (hcb : ∀ i, i < p.code.n → 0 ≤ p.code.f i ∧ p.code.f i ≤ 4294967295) (hn0 : 0 < p.code.n) (hn2 : p.code.n ≤ 2000) (hpc : pc < p.code.n) (s1 : -1000000 ≤ s) (s2 : s ≤ 1000000) (l112 : hasC (useS n) 112 = false) (l104 : hasC (useS n) 104 = false) :
    Calls Tryz.prog 106 #[prV p ac cc o4 c4 o5 c5 o8 c8 o9 c9, .int .i64 (pc : Int), insV n a b c s] w fun e w' => e = .returned (.bool true) ∧ Below w.heap.size w w' := by
  have hz := useS_size n (by omega)
  go_enter Tryz.func106, Tryz.ntmps106
  go_wp2_with fail
  have P0 := (RowL.new w [.int .i64 p.params, .bool p.vararg, .int .i64 p.regs, .slice ac p.code.n cc, .slice o4 p.consts.n c4, .slice o5 p.ups.n c5, .int .i64 p.kids, .string p.name, .slice o8 p.lines.n c8, .slice o9 p.upNames.n c9] 52).alloc (.cells #[.int .i64 (n : Int), .int .i64 a, .int .i64 b, .int .i64 c, .int .i64 s] 88)
  have I0 := RowL.new (w.alloc (.cells #[.int .i64 p.params, .bool p.vararg, .int .i64 p.regs, .slice ac p.code.n cc, .slice o4 p.consts.n c4, .slice o5 p.ups.n c5, .int .i64 p.kids, .string p.name, .slice o8 p.lines.n c8, .slice o9 p.upNames.n c9] 52)) [.int .i64 (n : Int), .int .i64 a, .int .i64 b, .int .i64 c, .int .i64 s] 88
  rw [World.size_alloc] at I0
  have bw : Below w.heap.size w ((w.alloc (.cells #[.int .i64 p.params, .bool p.vararg, .int .i64 p.regs, .slice ac p.code.n cc, .slice o4 p.consts.n c4, .slice o5 p.ups.n c5, .int .i64 p.kids, .string p.name, .slice o8 p.lines.n c8, .slice o9 p.upNames.n c9] 52)).alloc (.cells #[.int .i64 (n : Int), .int .i64 a, .int .i64 b, .int .i64 c, .int .i64 s] 88)) := ((Below.refl _ _).alloc (Nat.le_refl _) _).alloc (by rw [World.size_alloc]; omega) _
  generalize (w.alloc (.cells #[.int .i64 p.params, .bool p.vararg, .int .i64 p.regs, .slice ac p.code.n cc, .slice o4 p.consts.n c4, .slice o5 p.ups.n c5, .int .i64 p.kids, .string p.name, .slice o8 p.lines.n c8, .slice o9 p.upNames.n c9] 52)).alloc (.cells #[.int .i64 (n : Int), .int .i64 a, .int .i64 b, .int .i64 c, .int .i64 s] 88) = w2 at P0 I0 bw ⊢
  refine (l4Use_in n _ hn).mono ?_
  rintro e y ⟨rfl, b1⟩
  replace P0 := P0.call b1
  replace I0 := I0.call b1
  replace bw := bw.trans (b1.mono bw.size)
  clear b1
  go_wp2_with fail
  refine (l4Has_I _ _ _ hz (by omega)).mono ?_
  rintro e y2 ⟨rfl, rfl⟩
  rw [l112]
  go_wp2_with fail
  refine (l4Has_I _ _ _ hz (by omega)).mono ?_
  rintro e y2 ⟨rfl, rfl⟩
  rw [l104]
  go_wp2_with fail
  go_ret
  exact ⟨rfl, bw⟩
theorem paired_p0 (n : Nat) (hn : n ≤ 63) (p : PD) (ac : Option Addr) (cc : Nat) (o4 : Option Addr) (c4 : Nat) (o5 : Option Addr) (c5 : Nat) (o8 : Option Addr) (c8 : Nat) (o9 : Option Addr) (c9 : Nat) (pc : Nat) (a b c s : Int) (w : World) (hcode : IsInts .u32 (· < w.heap.size) w (.slice ac p.code.n cc) p.code) (hcb : ∀ i, i < p.code.n → 0 ≤ p.code.f i ∧ p.code.f i ≤ 4294967295) (hn0 : 0 < p.code.n) (hn2 : p.code.n ≤ 2000) (hpc : pc < p.code.n) (s1 : -1000000 ≤ s) (s2 : s ≤ 1000000) (l112 : hasC (useS n) 112 = true) (l104 : hasC (useS n) 104 = false) (hx : ¬ (0 ≤ (pc : Int) + 1 ∧ (pc : Int) + 1 < (p.code.n : Int))) :
    Calls Tryz.prog 106 #[prV p ac cc o4 c4 o5 c5 o8 c8 o9 c9, .int .i64 (pc : Int), insV n a b c s] w fun e w' => e = .returned (.bool false) ∧ Below w.heap.size w w' := by
  have hz := useS_size n (by omega)
  go_enter Tryz.func106, Tryz.ntmps106
  go_wp2_with fail
  have P0 := (RowL.new w [.int .i64 p.params, .bool p.vararg, .int .i64 p.regs, .slice ac p.code.n cc, .slice o4 p.consts.n c4, .slice o5 p.ups.n c5, .int .i64 p.kids, .string p.name, .slice o8 p.lines.n c8, .slice o9 p.upNames.n c9] 52).alloc (.cells #[.int .i64 (n : Int), .int .i64 a, .int .i64 b, .int .i64 c, .int .i64 s] 88)
  have I0 := RowL.new (w.alloc (.cells #[.int .i64 p.params, .bool p.vararg, .int .i64 p.regs, .slice ac p.code.n cc, .slice o4 p.consts.n c4, .slice o5 p.ups.n c5, .int .i64 p.kids, .string p.name, .slice o8 p.lines.n c8, .slice o9 p.upNames.n c9] 52)) [.int .i64 (n : Int), .int .i64 a, .int .i64 b, .int .i64 c, .int .i64 s] 88
  rw [World.size_alloc] at I0
  have bw : Below w.heap.size w ((w.alloc (.cells #[.int .i64 p.params, .bool p.vararg, .int .i64 p.regs, .slice ac p.code.n cc, .slice o4 p.consts.n c4, .slice o5 p.ups.n c5, .int .i64 p.kids, .string p.name, .slice o8 p.lines.n c8, .slice o9 p.upNames.n c9] 52)).alloc (.cells #[.int .i64 (n : Int), .int .i64 a, .int .i64 b, .int .i64 c, .int .i64 s] 88)) := ((Below.refl _ _).alloc (Nat.le_refl _) _).alloc (by rw [World.size_alloc]; omega) _
  generalize (w.alloc (.cells #[.int .i64 p.params, .bool p.vararg, .int .i64 p.regs, .slice ac p.code.n cc, .slice o4 p.consts.n c4, .slice o5 p.ups.n c5, .int .i64 p.kids, .string p.name, .slice o8 p.lines.n c8, .slice o9 p.upNames.n c9] 52)).alloc (.cells #[.int .i64 (n : Int), .int .i64 a, .int .i64 b, .int .i64 c, .int .i64 s] 88) = w2 at P0 I0 bw ⊢
  refine (l4Use_in n _ hn).mono ?_
  rintro e y ⟨rfl, b1⟩
  replace P0 := P0.call b1
  replace I0 := I0.call b1
  replace bw := bw.trans (b1.mono bw.size)
  clear b1
  go_wp2_with fail
  refine (l4Has_I _ _ _ hz (by omega)).mono ?_
  rintro e y2 ⟨rfl, rfl⟩
  rw [l112]
  have hpI : (pc : Int) ≤ 2000 := by omega
  obtain ⟨p0, p1, p2, p3, p4, p5, p6, p7, p8, p9⟩ := cells_p (w := w) p ac cc o4 c4 o5 c5 o8 c8 o9 c9 P0
  go_wp2_with fail
  clear p0 p1 p2 p3 p4 p5 p6 p7 p8 p9
  refine (l4Op_no p ac cc o4 c4 o5 c5 o8 c8 o9 c9 ((pc : Int) + 1) _ hn2 hx).mono ?_
  rintro e y3 ⟨rfl, b3⟩
  replace bw := bw.trans (b3.mono bw.size)
  clear b3
  go_wp2_with fail
  go_ret
  exact ⟨rfl, bw⟩
theorem paired_p1 (n : Nat) (hn : n ≤ 63) (p : PD) (ac : Option Addr) (cc : Nat) (o4 : Option Addr) (c4 : Nat) (o5 : Option Addr) (c5 : Nat) (o8 : Option Addr) (c8 : Nat) (o9 : Option Addr) (c9 : Nat) (pc : Nat) (a b c s : Int) (w : World) (hcode : IsInts .u32 (· < w.heap.size) w (.slice ac p.code.n cc) p.code) (hcb : ∀ i, i < p.code.n → 0 ≤ p.code.f i ∧ p.code.f i ≤ 4294967295) (hn0 : 0 < p.code.n) (hn2 : p.code.n ≤ 2000) (hpc : pc < p.code.n) (s1 : -1000000 ≤ s) (s2 : s ≤ 1000000) (l112 : hasC (useS n) 112 = true) (l104 : hasC (useS n) 104 = false) (z : Int) (ht : pc + 1 < p.code.n) (hz9 : p.code.f (pc + 1) = z) (ho : opW z ≠ 18) :
    Calls Tryz.prog 106 #[prV p ac cc o4 c4 o5 c5 o8 c8 o9 c9, .int .i64 (pc : Int), insV n a b c s] w fun e w' => e = .returned (.bool false) ∧ Below w.heap.size w w' := by
  have hz := useS_size n (by omega)
  go_enter Tryz.func106, Tryz.ntmps106
  go_wp2_with fail
  have P0 := (RowL.new w [.int .i64 p.params, .bool p.vararg, .int .i64 p.regs, .slice ac p.code.n cc, .slice o4 p.consts.n c4, .slice o5 p.ups.n c5, .int .i64 p.kids, .string p.name, .slice o8 p.lines.n c8, .slice o9 p.upNames.n c9] 52).alloc (.cells #[.int .i64 (n : Int), .int .i64 a, .int .i64 b, .int .i64 c, .int .i64 s] 88)
  have I0 := RowL.new (w.alloc (.cells #[.int .i64 p.params, .bool p.vararg, .int .i64 p.regs, .slice ac p.code.n cc, .slice o4 p.consts.n c4, .slice o5 p.ups.n c5, .int .i64 p.kids, .string p.name, .slice o8 p.lines.n c8, .slice o9 p.upNames.n c9] 52)) [.int .i64 (n : Int), .int .i64 a, .int .i64 b, .int .i64 c, .int .i64 s] 88
  rw [World.size_alloc] at I0
  have bw : Below w.heap.size w ((w.alloc (.cells #[.int .i64 p.params, .bool p.vararg, .int .i64 p.regs, .slice ac p.code.n cc, .slice o4 p.consts.n c4, .slice o5 p.ups.n c5, .int .i64 p.kids, .string p.name, .slice o8 p.lines.n c8, .slice o9 p.upNames.n c9] 52)).alloc (.cells #[.int .i64 (n : Int), .int .i64 a, .int .i64 b, .int .i64 c, .int .i64 s] 88)) := ((Below.refl _ _).alloc (Nat.le_refl _) _).alloc (by rw [World.size_alloc]; omega) _
  generalize (w.alloc (.cells #[.int .i64 p.params, .bool p.vararg, .int .i64 p.regs, .slice ac p.code.n cc, .slice o4 p.consts.n c4, .slice o5 p.ups.n c5, .int .i64 p.kids, .string p.name, .slice o8 p.lines.n c8, .slice o9 p.upNames.n c9] 52)).alloc (.cells #[.int .i64 (n : Int), .int .i64 a, .int .i64 b, .int .i64 c, .int .i64 s] 88) = w2 at P0 I0 bw ⊢
  refine (l4Use_in n _ hn).mono ?_
  rintro e y ⟨rfl, b1⟩
  replace P0 := P0.call b1
  replace I0 := I0.call b1
  replace bw := bw.trans (b1.mono bw.size)
  clear b1
  go_wp2_with fail
  refine (l4Has_I _ _ _ hz (by omega)).mono ?_
  rintro e y2 ⟨rfl, rfl⟩
  rw [l112]
  have hpI : (pc : Int) ≤ 2000 := by omega
  obtain ⟨p0, p1, p2, p3, p4, p5, p6, p7, p8, p9⟩ := cells_p (w := w) p ac cc o4 c4 o5 c5 o8 c8 o9 c9 P0
  go_wp2_with fail
  clear p0 p1 p2 p3 p4 p5 p6 p7 p8 p9
  refine (l4Op_at p ac cc o4 c4 o5 c5 o8 c8 o9 c9 ((pc : Int) + 1) (pc + 1) _ (IsArr.later hcode bw) hcb hn0 hn2 (by omega) ht z hz9).mono ?_
  rintro e y3 ⟨rfl, b3⟩
  replace bw := bw.trans (b3.mono bw.size)
  clear b3
  have q18 : (opW z != 18) = true := by simp [ho]
  go_wp2_with fail
  go_ret
  exact ⟨rfl, bw⟩
theorem paired_p2 (n : Nat) (hn : n ≤ 63) (p : PD) (ac : Option Addr) (cc : Nat) (o4 : Option Addr) (c4 : Nat) (o5 : Option Addr) (c5 : Nat) (o8 : Option Addr) (c8 : Nat) (o9 : Option Addr) (c9 : Nat) (pc : Nat) (a b c s : Int) (w : World) (hcode : IsInts .u32 (· < w.heap.size) w (.slice ac p.code.n cc) p.code) (hcb : ∀ i, i < p.code.n → 0 ≤ p.code.f i ∧ p.code.f i ≤ 4294967295) (hn0 : 0 < p.code.n) (hn2 : p.code.n ≤ 2000) (hpc : pc < p.code.n) (s1 : -1000000 ≤ s) (s2 : s ≤ 1000000) (l112 : hasC (useS n) 112 = true) (l104 : hasC (useS n) 104 = false) (z : Int) (ht : pc + 1 < p.code.n) (hz9 : p.code.f (pc + 1) = z) (ho : opW z = 18) :
    Calls Tryz.prog 106 #[prV p ac cc o4 c4 o5 c5 o8 c8 o9 c9, .int .i64 (pc : Int), insV n a b c s] w fun e w' => e = .returned (.bool true) ∧ Below w.heap.size w w' := by
  have hz := useS_size n (by omega)
  go_enter Tryz.func106, Tryz.ntmps106
  go_wp2_with fail
  have P0 := (RowL.new w [.int .i64 p.params, .bool p.vararg, .int .i64 p.regs, .slice ac p.code.n cc, .slice o4 p.consts.n c4, .slice o5 p.ups.n c5, .int .i64 p.kids, .string p.name, .slice o8 p.lines.n c8, .slice o9 p.upNames.n c9] 52).alloc (.cells #[.int .i64 (n : Int), .int .i64 a, .int .i64 b, .int .i64 c, .int .i64 s] 88)
  have I0 := RowL.new (w.alloc (.cells #[.int .i64 p.params, .bool p.vararg, .int .i64 p.regs, .slice ac p.code.n cc, .slice o4 p.consts.n c4, .slice o5 p.ups.n c5, .int .i64 p.kids, .string p.name, .slice o8 p.lines.n c8, .slice o9 p.upNames.n c9] 52)) [.int .i64 (n : Int), .int .i64 a, .int .i64 b, .int .i64 c, .int .i64 s] 88
  rw [World.size_alloc] at I0
  have bw : Below w.heap.size w ((w.alloc (.cells #[.int .i64 p.params, .bool p.vararg, .int .i64 p.regs, .slice ac p.code.n cc, .slice o4 p.consts.n c4, .slice o5 p.ups.n c5, .int .i64 p.kids, .string p.name, .slice o8 p.lines.n c8, .slice o9 p.upNames.n c9] 52)).alloc (.cells #[.int .i64 (n : Int), .int .i64 a, .int .i64 b, .int .i64 c, .int .i64 s] 88)) := ((Below.refl _ _).alloc (Nat.le_refl _) _).alloc (by rw [World.size_alloc]; omega) _
  generalize (w.alloc (.cells #[.int .i64 p.params, .bool p.vararg, .int .i64 p.regs, .slice ac p.code.n cc, .slice o4 p.consts.n c4, .slice o5 p.ups.n c5, .int .i64 p.kids, .string p.name, .slice o8 p.lines.n c8, .slice o9 p.upNames.n c9] 52)).alloc (.cells #[.int .i64 (n : Int), .int .i64 a, .int .i64 b, .int .i64 c, .int .i64 s] 88) = w2 at P0 I0 bw ⊢
  refine (l4Use_in n _ hn).mono ?_
  rintro e y ⟨rfl, b1⟩
  replace P0 := P0.call b1
  replace I0 := I0.call b1
  replace bw := bw.trans (b1.mono bw.size)
  clear b1
  go_wp2_with fail
  refine (l4Has_I _ _ _ hz (by omega)).mono ?_
  rintro e y2 ⟨rfl, rfl⟩
  rw [l112]
  have hpI : (pc : Int) ≤ 2000 := by omega
  obtain ⟨p0, p1, p2, p3, p4, p5, p6, p7, p8, p9⟩ := cells_p (w := w) p ac cc o4 c4 o5 c5 o8 c8 o9 c9 P0
  go_wp2_with fail
  clear p0 p1 p2 p3 p4 p5 p6 p7 p8 p9
  refine (l4Op_at p ac cc o4 c4 o5 c5 o8 c8 o9 c9 ((pc : Int) + 1) (pc + 1) _ (IsArr.later hcode bw) hcb hn0 hn2 (by omega) ht z hz9).mono ?_
  rintro e y3 ⟨rfl, b3⟩
  replace bw := bw.trans (b3.mono bw.size)
  clear b3
  have q18 : (opW z != 18) = false := by simp [ho]
  go_wp2_with fail
  refine (l4Has_I _ _ _ hz (by omega)).mono ?_
  rintro e y2 ⟨rfl, rfl⟩
  rw [l104]
  go_wp2_with fail
  go_ret
  exact ⟨rfl, bw⟩
theorem paired_h0 (n : Nat) (hn : n ≤ 63) (p : PD) (ac : Option Addr) (cc : Nat) (o4 : Option Addr) (c4 : Nat) (o5 : Option Addr) (c5 : Nat) (o8 : Option Addr) (c8 : Nat) (o9 : Option Addr) (c9 : Nat) (pc : Nat) (a b c s : Int) (w : World) (hcode : IsInts .u32 (· < w.heap.size) w (.slice ac p.code.n cc) p.code) (hcb : ∀ i, i < p.code.n → 0 ≤ p.code.f i ∧ p.code.f i ≤ 4294967295) (hn0 : 0 < p.code.n) (hn2 : p.code.n ≤ 2000) (hpc : pc < p.code.n) (s1 : -1000000 ≤ s) (s2 : s ≤ 1000000) (l112 : hasC (useS n) 112 = false) (l104 : hasC (useS n) 104 = true) (hx : ¬ (0 ≤ (pc : Int) + s ∧ (pc : Int) + s < (p.code.n : Int))) :
    Calls Tryz.prog 106 #[prV p ac cc o4 c4 o5 c5 o8 c8 o9 c9, .int .i64 (pc : Int), insV n a b c s] w fun e w' => e = .returned (.bool false) ∧ Below w.heap.size w w' := by
  have hz := useS_size n (by omega)
  go_enter Tryz.func106, Tryz.ntmps106
  go_wp2_with fail
  have P0 := (RowL.new w [.int .i64 p.params, .bool p.vararg, .int .i64 p.regs, .slice ac p.code.n cc, .slice o4 p.consts.n c4, .slice o5 p.ups.n c5, .int .i64 p.kids, .string p.name, .slice o8 p.lines.n c8, .slice o9 p.upNames.n c9] 52).alloc (.cells #[.int .i64 (n : Int), .int .i64 a, .int .i64 b, .int .i64 c, .int .i64 s] 88)
  have I0 := RowL.new (w.alloc (.cells #[.int .i64 p.params, .bool p.vararg, .int .i64 p.regs, .slice ac p.code.n cc, .slice o4 p.consts.n c4, .slice o5 p.ups.n c5, .int .i64 p.kids, .string p.name, .slice o8 p.lines.n c8, .slice o9 p.upNames.n c9] 52)) [.int .i64 (n : Int), .int .i64 a, .int .i64 b, .int .i64 c, .int .i64 s] 88
  rw [World.size_alloc] at I0
  have bw : Below w.heap.size w ((w.alloc (.cells #[.int .i64 p.params, .bool p.vararg, .int .i64 p.regs, .slice ac p.code.n cc, .slice o4 p.consts.n c4, .slice o5 p.ups.n c5, .int .i64 p.kids, .string p.name, .slice o8 p.lines.n c8, .slice o9 p.upNames.n c9] 52)).alloc (.cells #[.int .i64 (n : Int), .int .i64 a, .int .i64 b, .int .i64 c, .int .i64 s] 88)) := ((Below.refl _ _).alloc (Nat.le_refl _) _).alloc (by rw [World.size_alloc]; omega) _
  generalize (w.alloc (.cells #[.int .i64 p.params, .bool p.vararg, .int .i64 p.regs, .slice ac p.code.n cc, .slice o4 p.consts.n c4, .slice o5 p.ups.n c5, .int .i64 p.kids, .string p.name, .slice o8 p.lines.n c8, .slice o9 p.upNames.n c9] 52)).alloc (.cells #[.int .i64 (n : Int), .int .i64 a, .int .i64 b, .int .i64 c, .int .i64 s] 88) = w2 at P0 I0 bw ⊢
  refine (l4Use_in n _ hn).mono ?_
  rintro e y ⟨rfl, b1⟩
  replace P0 := P0.call b1
  replace I0 := I0.call b1
  replace bw := bw.trans (b1.mono bw.size)
  clear b1
  go_wp2_with fail
  refine (l4Has_I _ _ _ hz (by omega)).mono ?_
  rintro e y2 ⟨rfl, rfl⟩
  rw [l112]
  go_wp2_with fail
  refine (l4Has_I _ _ _ hz (by omega)).mono ?_
  rintro e y2 ⟨rfl, rfl⟩
  rw [l104]
  have hpI : (pc : Int) ≤ 2000 := by omega
  have i0 := I0.cell 0 rfl
  have i1 := I0.cell 1 rfl
  have i2 := I0.cell 2 rfl
  have i3 := I0.cell 3 rfl
  have i4 := I0.cell 4 rfl
  go_wp2_with fail
  clear i0 i1 i2 i3 i4
  refine (l4Target_in (pc : Int) (n : Int) a b c s _ (by omega) (by omega) s1 s2).mono ?_
  rintro e y3 ⟨rfl, b3⟩
  replace P0 := P0.call b3
  replace I0 := I0.call b3
  replace bw := bw.trans (b3.mono bw.size)
  clear b3
  obtain ⟨p0, p1, p2, p3, p4, p5, p6, p7, p8, p9⟩ := cells_p (w := w) p ac cc o4 c4 o5 c5 o8 c8 o9 c9 P0
  go_wp2_with fail
  clear p0 p1 p2 p3 p4 p5 p6 p7 p8 p9
  refine (l4Op_no p ac cc o4 c4 o5 c5 o8 c8 o9 c9 _ _ hn2 (by omega)).mono ?_
  rintro e y4 ⟨rfl, b4⟩
  replace I0 := I0.call b4
  replace bw := bw.trans (b4.mono bw.size)
  clear b4
  have i1 := I0.cell 1 rfl
  have il := I0.lt
  go_wp2_with fail
  go_ret
  exact ⟨rfl, bw.alloc bw.size _⟩
theorem paired_h1 (n : Nat) (hn : n ≤ 63) (p : PD) (ac : Option Addr) (cc : Nat) (o4 : Option Addr) (c4 : Nat) (o5 : Option Addr) (c5 : Nat) (o8 : Option Addr) (c8 : Nat) (o9 : Option Addr) (c9 : Nat) (pc : Nat) (a b c s : Int) (w : World) (hcode : IsInts .u32 (· < w.heap.size) w (.slice ac p.code.n cc) p.code) (hcb : ∀ i, i < p.code.n → 0 ≤ p.code.f i ∧ p.code.f i ≤ 4294967295) (hn0 : 0 < p.code.n) (hn2 : p.code.n ≤ 2000) (hpc : pc < p.code.n) (s1 : -1000000 ≤ s) (s2 : s ≤ 1000000) (l112 : hasC (useS n) 112 = false) (l104 : hasC (useS n) 104 = true) (t : Nat) (z : Int) (hx : (pc : Int) + s = (t : Int)) (ht : t < p.code.n) (hz9 : p.code.f t = z) (ho : opW z ≠ 28) :
    Calls Tryz.prog 106 #[prV p ac cc o4 c4 o5 c5 o8 c8 o9 c9, .int .i64 (pc : Int), insV n a b c s] w fun e w' => e = .returned (.bool false) ∧ Below w.heap.size w w' := by
  have hz := useS_size n (by omega)
  go_enter Tryz.func106, Tryz.ntmps106
  go_wp2_with fail
  have P0 := (RowL.new w [.int .i64 p.params, .bool p.vararg, .int .i64 p.regs, .slice ac p.code.n cc, .slice o4 p.consts.n c4, .slice o5 p.ups.n c5, .int .i64 p.kids, .string p.name, .slice o8 p.lines.n c8, .slice o9 p.upNames.n c9] 52).alloc (.cells #[.int .i64 (n : Int), .int .i64 a, .int .i64 b, .int .i64 c, .int .i64 s] 88)
  have I0 := RowL.new (w.alloc (.cells #[.int .i64 p.params, .bool p.vararg, .int .i64 p.regs, .slice ac p.code.n cc, .slice o4 p.consts.n c4, .slice o5 p.ups.n c5, .int .i64 p.kids, .string p.name, .slice o8 p.lines.n c8, .slice o9 p.upNames.n c9] 52)) [.int .i64 (n : Int), .int .i64 a, .int .i64 b, .int .i64 c, .int .i64 s] 88
  rw [World.size_alloc] at I0
  have bw : Below w.heap.size w ((w.alloc (.cells #[.int .i64 p.params, .bool p.vararg, .int .i64 p.regs, .slice ac p.code.n cc, .slice o4 p.consts.n c4, .slice o5 p.ups.n c5, .int .i64 p.kids, .string p.name, .slice o8 p.lines.n c8, .slice o9 p.upNames.n c9] 52)).alloc (.cells #[.int .i64 (n : Int), .int .i64 a, .int .i64 b, .int .i64 c, .int .i64 s] 88)) := ((Below.refl _ _).alloc (Nat.le_refl _) _).alloc (by rw [World.size_alloc]; omega) _
  generalize (w.alloc (.cells #[.int .i64 p.params, .bool p.vararg, .int .i64 p.regs, .slice ac p.code.n cc, .slice o4 p.consts.n c4, .slice o5 p.ups.n c5, .int .i64 p.kids, .string p.name, .slice o8 p.lines.n c8, .slice o9 p.upNames.n c9] 52)).alloc (.cells #[.int .i64 (n : Int), .int .i64 a, .int .i64 b, .int .i64 c, .int .i64 s] 88) = w2 at P0 I0 bw ⊢
  refine (l4Use_in n _ hn).mono ?_
  rintro e y ⟨rfl, b1⟩
  replace P0 := P0.call b1
  replace I0 := I0.call b1
  replace bw := bw.trans (b1.mono bw.size)
  clear b1
  go_wp2_with fail
  refine (l4Has_I _ _ _ hz (by omega)).mono ?_
  rintro e y2 ⟨rfl, rfl⟩
  rw [l112]
  go_wp2_with fail
  refine (l4Has_I _ _ _ hz (by omega)).mono ?_
  rintro e y2 ⟨rfl, rfl⟩
  rw [l104]
  have hpI : (pc : Int) ≤ 2000 := by omega
  have i0 := I0.cell 0 rfl
  have i1 := I0.cell 1 rfl
  have i2 := I0.cell 2 rfl
  have i3 := I0.cell 3 rfl
  have i4 := I0.cell 4 rfl
  go_wp2_with fail
  clear i0 i1 i2 i3 i4
  refine (l4Target_in (pc : Int) (n : Int) a b c s _ (by omega) (by omega) s1 s2).mono ?_
  rintro e y3 ⟨rfl, b3⟩
  replace P0 := P0.call b3
  replace I0 := I0.call b3
  replace bw := bw.trans (b3.mono bw.size)
  clear b3
  obtain ⟨p0, p1, p2, p3, p4, p5, p6, p7, p8, p9⟩ := cells_p (w := w) p ac cc o4 c4 o5 c5 o8 c8 o9 c9 P0
  go_wp2_with fail
  clear p0 p1 p2 p3 p4 p5 p6 p7 p8 p9
  refine (l4Op_at p ac cc o4 c4 o5 c5 o8 c8 o9 c9 _ t _ (IsArr.later hcode bw) hcb hn0 hn2 (by omega) ht z hz9).mono ?_
  rintro e y4 ⟨rfl, b4⟩
  replace I0 := I0.call b4
  replace bw := bw.trans (b4.mono bw.size)
  clear b4
  have i1 := I0.cell 1 rfl
  have il := I0.lt
  have q28 : (opW z == 28) = false := by simp [ho]
  go_wp2_with fail
  go_ret
  exact ⟨rfl, bw.alloc bw.size _⟩
theorem paired_h2 (n : Nat) (hn : n ≤ 63) (p : PD) (ac : Option Addr) (cc : Nat) (o4 : Option Addr) (c4 : Nat) (o5 : Option Addr) (c5 : Nat) (o8 : Option Addr) (c8 : Nat) (o9 : Option Addr) (c9 : Nat) (pc : Nat) (a b c s : Int) (w : World) (hcode : IsInts .u32 (· < w.heap.size) w (.slice ac p.code.n cc) p.code) (hcb : ∀ i, i < p.code.n → 0 ≤ p.code.f i ∧ p.code.f i ≤ 4294967295) (hn0 : 0 < p.code.n) (hn2 : p.code.n ≤ 2000) (hpc : pc < p.code.n) (s1 : -1000000 ≤ s) (s2 : s ≤ 1000000) (l112 : hasC (useS n) 112 = false) (l104 : hasC (useS n) 104 = true) (t : Nat) (z : Int) (hx : (pc : Int) + s = (t : Int)) (ht : t < p.code.n) (hz9 : p.code.f t = z) (ho : opW z = 28) (ha : aW z ≠ a) :
    Calls Tryz.prog 106 #[prV p ac cc o4 c4 o5 c5 o8 c8 o9 c9, .int .i64 (pc : Int), insV n a b c s] w fun e w' => e = .returned (.bool false) ∧ Below w.heap.size w w' := by
  have hz := useS_size n (by omega)
  go_enter Tryz.func106, Tryz.ntmps106
  go_wp2_with fail
  have P0 := (RowL.new w [.int .i64 p.params, .bool p.vararg, .int .i64 p.regs, .slice ac p.code.n cc, .slice o4 p.consts.n c4, .slice o5 p.ups.n c5, .int .i64 p.kids, .string p.name, .slice o8 p.lines.n c8, .slice o9 p.upNames.n c9] 52).alloc (.cells #[.int .i64 (n : Int), .int .i64 a, .int .i64 b, .int .i64 c, .int .i64 s] 88)
  have I0 := RowL.new (w.alloc (.cells #[.int .i64 p.params, .bool p.vararg, .int .i64 p.regs, .slice ac p.code.n cc, .slice o4 p.consts.n c4, .slice o5 p.ups.n c5, .int .i64 p.kids, .string p.name, .slice o8 p.lines.n c8, .slice o9 p.upNames.n c9] 52)) [.int .i64 (n : Int), .int .i64 a, .int .i64 b, .int .i64 c, .int .i64 s] 88
  rw [World.size_alloc] at I0
  have bw : Below w.heap.size w ((w.alloc (.cells #[.int .i64 p.params, .bool p.vararg, .int .i64 p.regs, .slice ac p.code.n cc, .slice o4 p.consts.n c4, .slice o5 p.ups.n c5, .int .i64 p.kids, .string p.name, .slice o8 p.lines.n c8, .slice o9 p.upNames.n c9] 52)).alloc (.cells #[.int .i64 (n : Int), .int .i64 a, .int .i64 b, .int .i64 c, .int .i64 s] 88)) := ((Below.refl _ _).alloc (Nat.le_refl _) _).alloc (by rw [World.size_alloc]; omega) _
  generalize (w.alloc (.cells #[.int .i64 p.params, .bool p.vararg, .int .i64 p.regs, .slice ac p.code.n cc, .slice o4 p.consts.n c4, .slice o5 p.ups.n c5, .int .i64 p.kids, .string p.name, .slice o8 p.lines.n c8, .slice o9 p.upNames.n c9] 52)).alloc (.cells #[.int .i64 (n : Int), .int .i64 a, .int .i64 b, .int .i64 c, .int .i64 s] 88) = w2 at P0 I0 bw ⊢
  refine (l4Use_in n _ hn).mono ?_
  rintro e y ⟨rfl, b1⟩
  replace P0 := P0.call b1
  replace I0 := I0.call b1
  replace bw := bw.trans (b1.mono bw.size)
  clear b1
  go_wp2_with fail
  refine (l4Has_I _ _ _ hz (by omega)).mono ?_
  rintro e y2 ⟨rfl, rfl⟩
  rw [l112]
  go_wp2_with fail
  refine (l4Has_I _ _ _ hz (by omega)).mono ?_
  rintro e y2 ⟨rfl, rfl⟩
  rw [l104]
  have hpI : (pc : Int) ≤ 2000 := by omega
  have i0 := I0.cell 0 rfl
  have i1 := I0.cell 1 rfl
  have i2 := I0.cell 2 rfl
  have i3 := I0.cell 3 rfl
  have i4 := I0.cell 4 rfl
  go_wp2_with fail
  clear i0 i1 i2 i3 i4
  refine (l4Target_in (pc : Int) (n : Int) a b c s _ (by omega) (by omega) s1 s2).mono ?_
  rintro e y3 ⟨rfl, b3⟩
  replace P0 := P0.call b3
  replace I0 := I0.call b3
  replace bw := bw.trans (b3.mono bw.size)
  clear b3
  obtain ⟨p0, p1, p2, p3, p4, p5, p6, p7, p8, p9⟩ := cells_p (w := w) p ac cc o4 c4 o5 c5 o8 c8 o9 c9 P0
  go_wp2_with fail
  clear p0 p1 p2 p3 p4 p5 p6 p7 p8 p9
  refine (l4Op_at p ac cc o4 c4 o5 c5 o8 c8 o9 c9 _ t _ (IsArr.later hcode bw) hcb hn0 hn2 (by omega) ht z hz9).mono ?_
  rintro e y4 ⟨rfl, b4⟩
  replace I0 := I0.call b4
  replace bw := bw.trans (b4.mono bw.size)
  clear b4
  have i1 := I0.cell 1 rfl
  have il := I0.lt
  have q28 : (opW z == 28) = true := by simp [ho]
  have qa : (aW z == a) = false := by simp [ha]
  replace ho : Hid _ := ho
  go_wp2_with fail
  go_ret
  exact ⟨rfl, bw.alloc bw.size _⟩
theorem paired_h3 (n : Nat) (hn : n ≤ 63) (p : PD) (ac : Option Addr) (cc : Nat) (o4 : Option Addr) (c4 : Nat) (o5 : Option Addr) (c5 : Nat) (o8 : Option Addr) (c8 : Nat) (o9 : Option Addr) (c9 : Nat) (pc : Nat) (a b c s : Int) (w : World) (hcode : IsInts .u32 (· < w.heap.size) w (.slice ac p.code.n cc) p.code) (hcb : ∀ i, i < p.code.n → 0 ≤ p.code.f i ∧ p.code.f i ≤ 4294967295) (hn0 : 0 < p.code.n) (hn2 : p.code.n ≤ 2000) (hpc : pc < p.code.n) (s1 : -1000000 ≤ s) (s2 : s ≤ 1000000) (l112 : hasC (useS n) 112 = false) (l104 : hasC (useS n) 104 = true) (t : Nat) (z : Int) (hx : (pc : Int) + s = (t : Int)) (ht : t < p.code.n) (hz9 : p.code.f t = z) (ho : opW z = 28) (ha : aW z = a) (hz1 : 0 ≤ z) (hz2 : z ≤ 4294967295) (hg : (t : Int) + 1 + sW z ≠ (pc : Int) + 1) :
    Calls Tryz.prog 106 #[prV p ac cc o4 c4 o5 c5 o8 c8 o9 c9, .int .i64 (pc : Int), insV n a b c s] w fun e w' => e = .returned (.bool false) ∧ Below w.heap.size w w' := by
  have hz := useS_size n (by omega)
  go_enter Tryz.func106, Tryz.ntmps106
  go_wp2_with fail
  have P0 := (RowL.new w [.int .i64 p.params, .bool p.vararg, .int .i64 p.regs, .slice ac p.code.n cc, .slice o4 p.consts.n c4, .slice o5 p.ups.n c5, .int .i64 p.kids, .string p.name, .slice o8 p.lines.n c8, .slice o9 p.upNames.n c9] 52).alloc (.cells #[.int .i64 (n : Int), .int .i64 a, .int .i64 b, .int .i64 c, .int .i64 s] 88)
  have I0 := RowL.new (w.alloc (.cells #[.int .i64 p.params, .bool p.vararg, .int .i64 p.regs, .slice ac p.code.n cc, .slice o4 p.consts.n c4, .slice o5 p.ups.n c5, .int .i64 p.kids, .string p.name, .slice o8 p.lines.n c8, .slice o9 p.upNames.n c9] 52)) [.int .i64 (n : Int), .int .i64 a, .int .i64 b, .int .i64 c, .int .i64 s] 88
  rw [World.size_alloc] at I0
  have bw : Below w.heap.size w ((w.alloc (.cells #[.int .i64 p.params, .bool p.vararg, .int .i64 p.regs, .slice ac p.code.n cc, .slice o4 p.consts.n c4, .slice o5 p.ups.n c5, .int .i64 p.kids, .string p.name, .slice o8 p.lines.n c8, .slice o9 p.upNames.n c9] 52)).alloc (.cells #[.int .i64 (n : Int), .int .i64 a, .int .i64 b, .int .i64 c, .int .i64 s] 88)) := ((Below.refl _ _).alloc (Nat.le_refl _) _).alloc (by rw [World.size_alloc]; omega) _
  generalize (w.alloc (.cells #[.int .i64 p.params, .bool p.vararg, .int .i64 p.regs, .slice ac p.code.n cc, .slice o4 p.consts.n c4, .slice o5 p.ups.n c5, .int .i64 p.kids, .string p.name, .slice o8 p.lines.n c8, .slice o9 p.upNames.n c9] 52)).alloc (.cells #[.int .i64 (n : Int), .int .i64 a, .int .i64 b, .int .i64 c, .int .i64 s] 88) = w2 at P0 I0 bw ⊢
  refine (l4Use_in n _ hn).mono ?_
  rintro e y ⟨rfl, b1⟩
  replace P0 := P0.call b1
  replace I0 := I0.call b1
  replace bw := bw.trans (b1.mono bw.size)
  clear b1
  go_wp2_with fail
  refine (l4Has_I _ _ _ hz (by omega)).mono ?_
  rintro e y2 ⟨rfl, rfl⟩
  rw [l112]
  go_wp2_with fail
  refine (l4Has_I _ _ _ hz (by omega)).mono ?_
  rintro e y2 ⟨rfl, rfl⟩
  rw [l104]
  have hpI : (pc : Int) ≤ 2000 := by omega
  have i0 := I0.cell 0 rfl
  have i1 := I0.cell 1 rfl
  have i2 := I0.cell 2 rfl
  have i3 := I0.cell 3 rfl
  have i4 := I0.cell 4 rfl
  go_wp2_with fail
  clear i0 i1 i2 i3 i4
  refine (l4Target_in (pc : Int) (n : Int) a b c s _ (by omega) (by omega) s1 s2).mono ?_
  rintro e y3 ⟨rfl, b3⟩
  replace P0 := P0.call b3
  replace I0 := I0.call b3
  replace bw := bw.trans (b3.mono bw.size)
  clear b3
  obtain ⟨p0, p1, p2, p3, p4, p5, p6, p7, p8, p9⟩ := cells_p (w := w) p ac cc o4 c4 o5 c5 o8 c8 o9 c9 P0
  go_wp2_with fail
  clear p0 p1 p2 p3 p4 p5 p6 p7 p8 p9
  refine (l4Op_at p ac cc o4 c4 o5 c5 o8 c8 o9 c9 _ t _ (IsArr.later hcode bw) hcb hn0 hn2 (by omega) ht z hz9).mono ?_
  rintro e y4 ⟨rfl, b4⟩
  replace I0 := I0.call b4
  replace bw := bw.trans (b4.mono bw.size)
  clear b4
  have i1 := I0.cell 1 rfl
  have il := I0.lt
  have q28 : (opW z == 28) = true := by simp [ho]
  have qa : (aW z == a) = true := by simp [ha]
  have qg : ((pc : Int) + 1 + s + sW z == (pc : Int) + 1) = false := by simp; omega
  replace ho : Hid _ := ho
  replace ha : Hid _ := ha
  go_wp2_with fail
  have bx : Below w.heap.size w (y4.alloc (.cells #[.int .i64 (opW z), .int .i64 (aW z), .int .i64 (bW z), .int .i64 (cW z), .int .i64 (sW z)] 88)) := bw.alloc bw.size _
  refine (l4Target_in _ (opW z) (aW z) (bW z) (cW z) (sW z) _ (by omega) (by omega) (by unfold sW bW cW; omega) (by unfold sW bW cW; omega)).mono ?_
  rintro e y5 ⟨rfl, b5⟩
  have bf : Below w.heap.size w y5 := bx.trans (b5.mono bx.size)
  clear b5 bx i1
  go_wp2_with fail
  go_ret
  exact ⟨rfl, bf⟩
theorem paired_h4 (n : Nat) (hn : n ≤ 63) (p : PD) (ac : Option Addr) (cc : Nat) (o4 : Option Addr) (c4 : Nat) (o5 : Option Addr) (c5 : Nat) (o8 : Option Addr) (c8 : Nat) (o9 : Option Addr) (c9 : Nat) (pc : Nat) (a b c s : Int) (w : World) (hcode : IsInts .u32 (· < w.heap.size) w (.slice ac p.code.n cc) p.code) (hcb : ∀ i, i < p.code.n → 0 ≤ p.code.f i ∧ p.code.f i ≤ 4294967295) (hn0 : 0 < p.code.n) (hn2 : p.code.n ≤ 2000) (hpc : pc < p.code.n) (s1 : -1000000 ≤ s) (s2 : s ≤ 1000000) (l112 : hasC (useS n) 112 = false) (l104 : hasC (useS n) 104 = true) (t : Nat) (z : Int) (hx : (pc : Int) + s = (t : Int)) (ht : t < p.code.n) (hz9 : p.code.f t = z) (ho : opW z = 28) (ha : aW z = a) (hz1 : 0 ≤ z) (hz2 : z ≤ 4294967295) (hg : (t : Int) + 1 + sW z = (pc : Int) + 1) :
    Calls Tryz.prog 106 #[prV p ac cc o4 c4 o5 c5 o8 c8 o9 c9, .int .i64 (pc : Int), insV n a b c s] w fun e w' => e = .returned (.bool true) ∧ Below w.heap.size w w' := by
  have hz := useS_size n (by omega)
  go_enter Tryz.func106, Tryz.ntmps106
  go_wp2_with fail
  have P0 := (RowL.new w [.int .i64 p.params, .bool p.vararg, .int .i64 p.regs, .slice ac p.code.n cc, .slice o4 p.consts.n c4, .slice o5 p.ups.n c5, .int .i64 p.kids, .string p.name, .slice o8 p.lines.n c8, .slice o9 p.upNames.n c9] 52).alloc (.cells #[.int .i64 (n : Int), .int .i64 a, .int .i64 b, .int .i64 c, .int .i64 s] 88)
  have I0 := RowL.new (w.alloc (.cells #[.int .i64 p.params, .bool p.vararg, .int .i64 p.regs, .slice ac p.code.n cc, .slice o4 p.consts.n c4, .slice o5 p.ups.n c5, .int .i64 p.kids, .string p.name, .slice o8 p.lines.n c8, .slice o9 p.upNames.n c9] 52)) [.int .i64 (n : Int), .int .i64 a, .int .i64 b, .int .i64 c, .int .i64 s] 88
  rw [World.size_alloc] at I0
  have bw : Below w.heap.size w ((w.alloc (.cells #[.int .i64 p.params, .bool p.vararg, .int .i64 p.regs, .slice ac p.code.n cc, .slice o4 p.consts.n c4, .slice o5 p.ups.n c5, .int .i64 p.kids, .string p.name, .slice o8 p.lines.n c8, .slice o9 p.upNames.n c9] 52)).alloc (.cells #[.int .i64 (n : Int), .int .i64 a, .int .i64 b, .int .i64 c, .int .i64 s] 88)) := ((Below.refl _ _).alloc (Nat.le_refl _) _).alloc (by rw [World.size_alloc]; omega) _
  generalize (w.alloc (.cells #[.int .i64 p.params, .bool p.vararg, .int .i64 p.regs, .slice ac p.code.n cc, .slice o4 p.consts.n c4, .slice o5 p.ups.n c5, .int .i64 p.kids, .string p.name, .slice o8 p.lines.n c8, .slice o9 p.upNames.n c9] 52)).alloc (.cells #[.int .i64 (n : Int), .int .i64 a, .int .i64 b, .int .i64 c, .int .i64 s] 88) = w2 at P0 I0 bw ⊢
  refine (l4Use_in n _ hn).mono ?_
  rintro e y ⟨rfl, b1⟩
  replace P0 := P0.call b1
  replace I0 := I0.call b1
  replace bw := bw.trans (b1.mono bw.size)
  clear b1
  go_wp2_with fail
  refine (l4Has_I _ _ _ hz (by omega)).mono ?_
  rintro e y2 ⟨rfl, rfl⟩
  rw [l112]
  go_wp2_with fail
  refine (l4Has_I _ _ _ hz (by omega)).mono ?_
  rintro e y2 ⟨rfl, rfl⟩
  rw [l104]
  have hpI : (pc : Int) ≤ 2000 := by omega
  have i0 := I0.cell 0 rfl
  have i1 := I0.cell 1 rfl
  have i2 := I0.cell 2 rfl
  have i3 := I0.cell 3 rfl
  have i4 := I0.cell 4 rfl
  go_wp2_with fail
  clear i0 i1 i2 i3 i4
  refine (l4Target_in (pc : Int) (n : Int) a b c s _ (by omega) (by omega) s1 s2).mono ?_
  rintro e y3 ⟨rfl, b3⟩
  replace P0 := P0.call b3
  replace I0 := I0.call b3
  replace bw := bw.trans (b3.mono bw.size)
  clear b3
  obtain ⟨p0, p1, p2, p3, p4, p5, p6, p7, p8, p9⟩ := cells_p (w := w) p ac cc o4 c4 o5 c5 o8 c8 o9 c9 P0
  go_wp2_with fail
  clear p0 p1 p2 p3 p4 p5 p6 p7 p8 p9
  refine (l4Op_at p ac cc o4 c4 o5 c5 o8 c8 o9 c9 _ t _ (IsArr.later hcode bw) hcb hn0 hn2 (by omega) ht z hz9).mono ?_
  rintro e y4 ⟨rfl, b4⟩
  replace I0 := I0.call b4
  replace bw := bw.trans (b4.mono bw.size)
  clear b4
  have i1 := I0.cell 1 rfl
  have il := I0.lt
  have q28 : (opW z == 28) = true := by simp [ho]
  have qa : (aW z == a) = true := by simp [ha]
  have qg : ((pc : Int) + 1 + s + sW z == (pc : Int) + 1) = true := by simp; omega
  replace ho : Hid _ := ho
  replace ha : Hid _ := ha
  replace hg : Hid _ := hg
  go_wp2_with fail
  have bx : Below w.heap.size w (y4.alloc (.cells #[.int .i64 (opW z), .int .i64 (aW z), .int .i64 (bW z), .int .i64 (cW z), .int .i64 (sW z)] 88)) := bw.alloc bw.size _
  refine (l4Target_in _ (opW z) (aW z) (bW z) (cW z) (sW z) _ (by omega) (by omega) (by unfold sW bW cW; omega) (by unfold sW bW cW; omega)).mono ?_
  rintro e y5 ⟨rfl, b5⟩
  have bf : Below w.heap.size w y5 := bx.trans (b5.mono bx.size)
  clear b5 bx i1
  go_wp2_with fail
  go_ret
  exact ⟨rfl, bf⟩
theorem l4Paired_in (n : Nat) (hn : n ≤ 33) (p : PD) (ac : Option Addr) (cc : Nat) (o4 : Option Addr) (c4 : Nat) (o5 : Option Addr) (c5 : Nat) (o8 : Option Addr) (c8 : Nat) (o9 : Option Addr) (c9 : Nat) (pc : Nat) (a b c s : Int) (w : World) (hcode : IsInts .u32 (· < w.heap.size) w (.slice ac p.code.n cc) p.code) (hcb : ∀ i, i < p.code.n → 0 ≤ p.code.f i ∧ p.code.f i ≤ 4294967295) (hn0 : 0 < p.code.n) (hn2 : p.code.n ≤ 2000) (hpc : pc < p.code.n) (s1 : -1000000 ≤ s) (s2 : s ≤ 1000000) :
    Calls Tryz.prog 106 #[prV p ac cc o4 c4 o5 c5 o8 c8 o9 c9, .int .i64 (pc : Int), insV n a b c s] w fun e w' => Says e (PairN p pc n a s) ∧ Below w.heap.size w w' := by
  by_cases k1 : n = 19 ∨ n = 20 ∨ n = 21
  · have hl : hasC (useS n) 112 = true ∧ hasC (useS n) 104 = false := by rcases k1 with rfl | rfl | rfl <;> decide
    by_cases ht : pc + 1 < p.code.n
    · by_cases ho : opW (p.code.f (pc + 1)) = 18
      · exact (paired_p2 n (by omega) p ac cc o4 c4 o5 c5 o8 c8 o9 c9 pc a b c s w hcode hcb hn0 hn2 hpc s1 s2 hl.1 hl.2 _ ht rfl ho).mono fun e w' ⟨he, hb⟩ => ⟨by rw [he]; exact says_yes ⟨fun _ => ⟨pc + 1, by omega, ht, ho⟩, fun h => absurd h (by omega)⟩, hb⟩
      · exact (paired_p1 n (by omega) p ac cc o4 c4 o5 c5 o8 c8 o9 c9 pc a b c s w hcode hcb hn0 hn2 hpc s1 s2 hl.1 hl.2 _ ht rfl ho).mono fun e w' ⟨he, hb⟩ => ⟨by rw [he]; exact says_no fun h => by obtain ⟨t, h1, h2, h3⟩ := h.jump k1; obtain rfl : t = pc + 1 := (by omega); exact ho h3, hb⟩
    · exact (paired_p0 n (by omega) p ac cc o4 c4 o5 c5 o8 c8 o9 c9 pc a b c s w hcode hcb hn0 hn2 hpc s1 s2 hl.1 hl.2 (by omega)).mono fun e w' ⟨he, hb⟩ => ⟨by rw [he]; exact says_no fun h => by obtain ⟨t, h1, h2, h3⟩ := h.jump k1; omega, hb⟩
  by_cases k2 : n = 27
  · subst k2
    have hl : hasC (useS 27) 112 = false ∧ hasC (useS 27) 104 = true := by decide
    by_cases hx : 0 ≤ (pc : Int) + s ∧ (pc : Int) + s < (p.code.n : Int)
    · obtain ⟨t, ht⟩ := Int.eq_ofNat_of_zero_le hx.1
      have htn : t < p.code.n := by omega
      have hz := hcb t htn
      by_cases ho : opW (p.code.f t) = 28
      · by_cases ha : aW (p.code.f t) = a
        · by_cases hg : (t : Int) + 1 + sW (p.code.f t) = (pc : Int) + 1
          · exact (paired_h4 27 (by omega) p ac cc o4 c4 o5 c5 o8 c8 o9 c9 pc a b c s w hcode hcb hn0 hn2 hpc s1 s2 hl.1 hl.2 t _ ht htn rfl ho ha hz.1 hz.2 hg).mono fun e w' ⟨he, hb⟩ => ⟨by rw [he]; exact says_yes ⟨fun h => absurd h k1, fun _ => ⟨t, ht, htn, ho, ha, hg⟩⟩, hb⟩
          · exact (paired_h3 27 (by omega) p ac cc o4 c4 o5 c5 o8 c8 o9 c9 pc a b c s w hcode hcb hn0 hn2 hpc s1 s2 hl.1 hl.2 t _ ht htn rfl ho ha hz.1 hz.2 hg).mono fun e w' ⟨he, hb⟩ => ⟨by rw [he]; exact says_no fun h => by obtain ⟨t', h1, h2, h3, h4, h5⟩ := h.loop rfl; obtain rfl : t = t' := (by omega); exact hg h5, hb⟩
        · exact (paired_h2 27 (by omega) p ac cc o4 c4 o5 c5 o8 c8 o9 c9 pc a b c s w hcode hcb hn0 hn2 hpc s1 s2 hl.1 hl.2 t _ ht htn rfl ho ha).mono fun e w' ⟨he, hb⟩ => ⟨by rw [he]; exact says_no fun h => by obtain ⟨t', h1, h2, h3, h4, h5⟩ := h.loop rfl; obtain rfl : t = t' := (by omega); exact ha h4, hb⟩
      · exact (paired_h1 27 (by omega) p ac cc o4 c4 o5 c5 o8 c8 o9 c9 pc a b c s w hcode hcb hn0 hn2 hpc s1 s2 hl.1 hl.2 t _ ht htn rfl ho).mono fun e w' ⟨he, hb⟩ => ⟨by rw [he]; exact says_no fun h => by obtain ⟨t', h1, h2, h3, h4, h5⟩ := h.loop rfl; obtain rfl : t = t' := (by omega); exact ho h3, hb⟩
    · exact (paired_h0 27 (by omega) p ac cc o4 c4 o5 c5 o8 c8 o9 c9 pc a b c s w hcode hcb hn0 hn2 hpc s1 s2 hl.1 hl.2 hx).mono fun e w' ⟨he, hb⟩ => ⟨by rw [he]; exact says_no fun h => by obtain ⟨t', h1, h2, h3, h4, h5⟩ := h.loop rfl; omega, hb⟩
  have hl : ∀ n, n < 34 → (n = 19 ∨ n = 20 ∨ n = 21 ∨ n = 27 ∨ (hasC (useS n) 112 = false ∧ hasC (useS n) 104 = false)) := by decide
  obtain ⟨l1, l2⟩ : hasC (useS n) 112 = false ∧ hasC (useS n) 104 = false := by
    rcases hl n (by omega) with h | h | h | h | h
    · exact absurd h (by omega)
    · exact absurd h (by omega)
    · exact absurd h (by omega)
    · exact absurd h k2
    · exact h
  exact (paired_o n (by omega) p ac cc o4 c4 o5 c5 o8 c8 o9 c9 pc a b c s w hcode hcb hn0 hn2 hpc s1 s2 l1 l2).mono fun e w' ⟨he, hb⟩ => ⟨by rw [he]; exact says_yes ⟨fun h => absurd h k1, fun h => absurd h k2⟩, hb⟩
end Go.Proofs.YtckapapejfnojaaGreatDoor

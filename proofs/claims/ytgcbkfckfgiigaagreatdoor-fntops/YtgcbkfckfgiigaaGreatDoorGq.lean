import Derived.Test.YtgcbkfckfgiigaaGreatDoorGj
import Derived.Test.YtgcbkfckfgiigaaGreatDoorGp
import Derived.Test.YtgcbkfckfgiigaaGreatDoorGa
namespace Go.Proofs.YtgcbkfckfgiigaaGreatDoor
open Go.RowKit
set_option linter.unusedVariables false
set_option linter.unusedSimpArgs false
set_option maxRecDepth 100000
set_option maxHeartbeats 9000000
def isI (v : Value) (x : Int) : Bool := match v with
 | .int .i64 y => y == x
 | _ => false
theorem isI_eq {v : Value} {x : Int} (h : isI v x = true) : v = .int .i64 x := by
 unfold isI at h;split at h
 ·simp at h; rw [h]
 ·simp at h
def isF (v : Value) (k : Nat) : Bool := match v with
 | .func (.func y) a b => y == k && a.size == 0 && b.size == 0
 | _ => false
theorem isF_eq {v : Value} {k : Nat} (h : isF v k = true) : v = .func (.func k) #[] #[] := by
 unfold isF at h;split at h
 ·next y a b =>
  simp at h;obtain ⟨⟨h1, h2⟩, h3⟩ := h;subst h1 h2 h3;rfl
 ·simp at h
def aU (n : Nat) : Int := if n = 18 ∨ 34 ≤ n then 0 else if n = 19 ∨ n = 20 then 2 else 1
def bU (n : Nat) : Int := if n = 3 then 2 else if n = 4 ∨ n = 5 then 4 else if n = 1 ∨ n = 6 ∨ n = 18 ∨ n = 21 ∨ n = 25 ∨ n = 26 ∨ n = 27 ∨ n = 28 ∨ 33 ≤ n then 0 else 1
def cU (n : Nat) : Int := if n = 21 then 2 else if (7 ≤ n ∧ n ≤ 14) ∨ n = 19 ∨ n = 20 ∨ n = 22 ∨ n = 30 ∨ n = 31 then 1 else 0
def sU (n : Nat) : Int := if n = 1 then 3 else if n = 25 then 5 else if n = 18 ∨ n = 27 ∨ n = 28 then 6 else 0
theorem us0 : ∀ n, n < 64 → usC n 0 = .int .i64 (aU n) := fun n h => isI_eq ((by decide : ∀ n, n < 64 → isI (usC n 0) (aU n) = true) n h)
theorem us1 : ∀ n, n < 64 → usC n 1 = .int .i64 (bU n) := fun n h => isI_eq ((by decide : ∀ n, n < 64 → isI (usC n 1) (bU n) = true) n h)
theorem us2 : ∀ n, n < 64 → usC n 2 = .int .i64 (cU n) := fun n h => isI_eq ((by decide : ∀ n, n < 64 → isI (usC n 2) (cU n) = true) n h)
theorem us3 : ∀ n, n < 64 → usC n 3 = .int .i64 (sU n) := fun n h => isI_eq ((by decide : ∀ n, n < 64 → isI (usC n 3) (sU n) = true) n h)
def isB (v : Value) (x : Bool) : Bool := match v with
 | .bool y => y == x
 | _ => false
theorem isB_eq {v : Value} {x : Bool} (h : isB v x = true) : v = .bool x := by
 unfold isB at h;split at h
 ·simp at h; rw [h]
 ·simp at h
theorem us4 : ∀ n, n < 64 → usC n 4 = .bool (decide (n = 24)) := fun n h => isB_eq ((by decide : ∀ n, n < 64 → isB (usC n 4) (decide (n = 24)) = true) n h)
def rF (n : Nat) : Nat :=
 if n = 19 ∨ n = 20 then 40 else if n = 2 then 46 else if n = 27 ∨ n = 28 then 52 else if n = 0 ∨ n = 15 ∨ n = 16 ∨ n = 17 ∨ n = 29 ∨ n = 32 then 38 else if 7 ≤ n ∧ n ≤ 14 then 39
 else if n = 22 ∨ n = 30 then 43 else if n = 31 then 55 else if n = 23 ∨ n = 24 then 48 else 37
theorem us5 : ∀ n, n < 34 → n ≠ 18 → usC n 5 = .func (.func (rF n)) #[] #[] := fun n h h' => isF_eq (((by decide : ∀ n, n < 34 → (n = 18 ∨ isF (usC n 5) (rF n) = true)) n h).resolve_left h')
theorem us5n : usC 18 5 = .nilFunc := rfl
theorem us9a : ∀ n, n < 34 → (n = 19 ∨ n = 20 ∨ n = 21) → usC n 9 = .func (.func 42) #[] #[] := by
 rintro n - (rfl | rfl | rfl) <;> rfl
theorem us9b : usC 27 9 = .func (.func 54) #[] #[] := rfl
theorem us9n : ∀ n, n < 34 → ¬ (n = 19 ∨ n = 20 ∨ n = 21) → n ≠ 27 → usC n 9 = .nilFunc := fun n h h1 h2 => isNilF_eq (by
 have := (by decide : ∀ n, n < 34 → ((n = 19 ∨ n = 20 ∨ n = 21) ∨ n = 27 ∨ isNilF (usC n 9) = true)) n h;rcases this with h' | h' | h'
 ·exact absurd h' h1
 ·exact absurd h' h2
 ·exact h')
theorem us7a : ∀ n, n < 64 → (n = 22 ∨ n = 30) → usC n 7 = .func (.func 44) #[] #[] := by
 rintro n - (rfl | rfl) <;> rfl
theorem us7b : ∀ n, n < 64 → (n = 23 ∨ n = 31) → usC n 7 = .func (.func 50) #[] #[] := by
 rintro n - (rfl | rfl) <;> rfl
theorem us7n : ∀ n, n < 64 → ¬ (n = 22 ∨ n = 30 ∨ n = 23 ∨ n = 31) → usC n 7 = .nilFunc := fun n h h1 => isNilF_eq (by
 have := (by decide : ∀ n, n < 64 → ((n = 22 ∨ n = 30 ∨ n = 23 ∨ n = 31) ∨ isNilF (usC n 7) = true)) n h;rcases this with h' | h'
 ·exact absurd h' h1
 ·exact h')
def Allow (u x : Int) : Prop := (u = 0 → x = 0) ∧ (u = 2 → x ≤ 1)
theorem field_iff (n : Nat) (hn : n ≤ 33) (a b c : Int) (va : Bool) : FieldOk n a b c va ↔ ((n = 24 → va = true) ∧ Allow (aU n) a ∧ (sU n ≠ 0 ∨ (Allow (bU n) b ∧ Allow (cU n) c))) := by
 unfold Allow aU bU cU sU;constructor
 ·intro h;have h0 := h.c0;have h1 := h.b0;have h2 := h.a0;have h3 := h.a1;have h4 := h.b1;have h5 := h.c1;have h6 := h.va;refine ⟨fun h' => h6 (by omega), ?_, ?_⟩
  ·constructor
   ·intro h'; split at h'
    ·exact h2 (by omega)
    ·split at h' <;> omega
   ·intro h'; split at h'
    ·omega
    ·split at h'
     ·exact h3 (by omega)
     ·omega
  ·by_cases k : n = 1 ∨ n = 25 ∨ n = 18 ∨ n = 27 ∨ n = 28
   ·left; repeat' split;all_goals omega
   ·right;refine ⟨⟨fun h' => ?_, fun h' => ?_⟩, ⟨fun h' => ?_, fun h' => ?_⟩⟩
    ·repeat' split at h'
     all_goals first | omega | exact h1 (by omega)
    ·repeat' split at h'
     all_goals first | omega | exact h4 (by omega)
    ·repeat' split at h'
     all_goals first | omega | exact h0 (by omega)
    ·repeat' split at h'
     all_goals first | omega | exact h5 (by omega)
 ·rintro ⟨h1, h2, h3⟩;have hs : ∀ k, ¬ (n = 1 ∨ n = 25 ∨ n = 18 ∨ n = 27 ∨ n = 28) → k = k → ((((if n = 3 then (2 : Int) else if n = 4 ∨ n = 5 then 4 else if n = 1 ∨ n = 6 ∨ n = 18 ∨ n = 21 ∨ n = 25 ∨ n = 26 ∨ n = 27 ∨ n = 28 ∨ 33 ≤ n then 0 else 1) = 0 → b = 0) ∧ ((if n = 3 then (2 : Int) else if n = 4 ∨ n = 5 then 4 else if n = 1 ∨ n = 6 ∨ n = 18 ∨ n = 21 ∨ n = 25 ∨ n = 26 ∨ n = 27 ∨ n = 28 ∨ 33 ≤ n then 0 else 1) = 2 → b ≤ 1)) ∧ (((if n = 21 then (2 : Int) else if (7 ≤ n ∧ n ≤ 14) ∨ n = 19 ∨ n = 20 ∨ n = 22 ∨ n = 30 ∨ n = 31 then 1 else 0) = 0 → c = 0) ∧ ((if n = 21 then (2 : Int) else if (7 ≤ n ∧ n ≤ 14) ∨ n = 19 ∨ n = 20 ∨ n = 22 ∨ n = 30 ∨ n = 31 then 1 else 0) = 2 → c ≤ 1))) := fun (_ : Nat) k _ => h3.resolve_left (by rw [if_neg (by omega), if_neg (by omega), if_neg (by omega)]; omega);refine ⟨fun h => ?_, fun h => ?_, fun h => ?_, fun h => ?_, fun h => ?_, fun h => ?_, fun h => h1 (by omega)⟩
  ·exact (hs 0 (by omega) rfl).2.1 (by rw [if_neg (by omega), if_neg (by omega)])
  ·refine (hs 0 (by omega) rfl).1.1 ?_;rw [if_neg (by omega), if_neg (by omega), if_pos (by omega)]
  ·exact h2.1 (by rw [if_pos (by omega)])
  ·exact h2.2 (by rw [if_neg (by omega), if_pos (by omega)])
  ·exact (hs 0 (by omega) rfl).1.2 (by rw [if_pos (by omega)])
  ·exact (hs 0 (by omega) rfl).2.2 (by rw [if_pos (by omega)])
theorem allows_in (u x : Int) (w : World) (hu : 0 ≤ u) (hu2 : u ≤ 6) : Calls Tryz.prog 103 #[.int .i64 u, .int .i64 x] w fun e w' => Says e (Allow u x) ∧ w = w' := by
 by_cases h0 : u = 0
 ·subst h0;go_enter Tryz.func103, Tryz.ntmps103
  go_wp2
  go_ret;exact ⟨⟨_, rfl, by unfold Allow; simp⟩, rfl⟩
 ·have n0 : (u == 0) = false := by simp [h0]
  by_cases h2 : u = 2
  ·subst h2;go_enter Tryz.func103, Tryz.ntmps103
   go_wp2
   go_ret;exact ⟨⟨_, rfl, by unfold Allow; simp⟩, rfl⟩
  ·have n2 : (u == 2) = false := by simp [h2]
   have hy : Hid (Allow u x) := ⟨fun h => absurd h h0, fun h => absurd h h2⟩;go_enter Tryz.func103, Tryz.ntmps103
   go_wp2
   go_ret;exact ⟨says_yes hy.out, rfl⟩
end Go.Proofs.YtgcbkfckfgiigaaGreatDoor
namespace Go.Proofs.YtgcbkfckfgiigaaGreatDoor
open Go.RowKit Go.Shelf
set_option linter.unusedVariables false
set_option linter.unusedSimpArgs false
set_option maxRecDepth 100000
set_option maxHeartbeats 9000000
theorem ret_int9 {a b : Int} (h : a = b) : Ending.returned (.int .i64 a) = .returned (.int .i64 b) := by rw [h]
theorem rsz_low (v : Int) (h : 0 ≤ v) : 0 ≤ rsz v := by unfold rsz; split <;> omega
theorem rsz_high (v : Int) (h : 0 ≤ v) (h' : v ≤ 511) : rsz v ≤ 511 := by unfold rsz; split <;> omega
section
variable (op a b c s : Int) (w : World) (a1 : 0 ≤ a) (a2 : a ≤ 255) (b1 : 0 ≤ b) (b2 : b ≤ 511) (c1 : 0 ≤ c) (c2 : c ≤ 511)
theorem rangeSize_in (v : Int) : Calls Tryz.prog 100 #[.int .i64 v] w fun e w' => e = .returned (.int .i64 (rsz v)) ∧ w = w' := by
 by_cases h : v = 511
 ·subst h;go_enter Tryz.func100, Tryz.ntmps100
  go_wp2
  go_ret;exact ⟨rfl, rfl⟩
 ·have hr : rsz v = v := if_neg h;have q : (v == 511) = false := by simp [h]
  rw [hr];go_enter Tryz.func100, Tryz.ntmps100
  go_wp2
  go_ret;exact ⟨rfl, rfl⟩
include a1 a2
theorem regsA_in : Calls Tryz.prog 37 #[insV op a b c s] w fun e w' => e = .returned (.int .i64 (a + 1)) ∧ Below w.heap.size w w' := by
 go_enter Tryz.func37, Tryz.ntmps37
 go_wp2
 go_ret;exact ⟨rfl, by go_grown⟩
theorem regsOfLoop_in : Calls Tryz.prog 52 #[insV op a b c s] w fun e w' => e = .returned (.int .i64 (a + 4)) ∧ Below w.heap.size w w' := by
 go_enter Tryz.func52, Tryz.ntmps52
 go_wp2
 go_ret;exact ⟨rfl, by go_grown⟩
include b1 b2
theorem regsUpToB_in : Calls Tryz.prog 46 #[insV op a b c s] w fun e w' => e = .returned (.int .i64 (a + b + 1)) ∧ Below w.heap.size w w' := by
 go_enter Tryz.func46, Tryz.ntmps46
 go_wp2
 go_ret;exact ⟨rfl, by go_grown⟩
theorem regsAB_in : Calls Tryz.prog 38 #[insV op a b c s] w fun e w' => e = .returned (.int .i64 (max a b + 1)) ∧ Below w.heap.size w w' := by
 go_enter Tryz.func38, Tryz.ntmps38;go_wp2_with fail;all_goals go_ret
 all_goals exact ⟨ret_int9 (by omega), by go_grown⟩
theorem regsOfRow_in : Calls Tryz.prog 48 #[insV op a b c s] w fun e w' => e = .returned (.int .i64 (a + max 1 (rsz b))) ∧ Below w.heap.size w w' := by
 have q1 := rsz_low b b1;have q2 := rsz_high b b1 b2;go_enter Tryz.func48, Tryz.ntmps48;go_wp2_with fail;have R0 := RowL.new w [.int .i64 op, .int .i64 a, .int .i64 b, .int .i64 c, .int .i64 s] 73;have bw : Below w.heap.size w (w.alloc (.cells #[.int .i64 op, .int .i64 a, .int .i64 b, .int .i64 c, .int .i64 s] 73)) := (Below.refl _ _).alloc (Nat.le_refl _) _;generalize w.alloc (.cells #[.int .i64 op, .int .i64 a, .int .i64 b, .int .i64 c, .int .i64 s] 73) = w0 at R0 bw ⊢;have r0 := R0.cell 0 rfl;have r1 := R0.cell 1 rfl;have r2 := R0.cell 2 rfl;have r3 := R0.cell 3 rfl;have hl := R0.lt;clear R0;have hd : OldS w0 w0.drew := OldS.of (Below.refl _ _).drew;refine wp_region_held_drew (S := OldS w0) (by kernel_rfl) hd (fun hH => ?_);refine tkd 0 3 (.pointer (some ⟨w.heap.size, 1, none⟩)) hd ?_;refine tkd 1 4 (.int .i64 a) hd ?_;refine tkd 2 5 (.pointer (some ⟨w.heap.size, 2, none⟩)) hd ?_;refine tkd 3 6 (.int .i64 b) hd ?_;refine rdy1 4 (fun KK hKK => ?_);go_simp;refine (rangeSize_in _ b).mono ?_;rintro e y2 ⟨rfl, rfl⟩;go_wp2_with fail;refine hKK.out _ _ hd (fun _ => ?_);clear hKK KK;try simp only [tK]
 by_cases m : 1 < rsz b
 ·have hw968 : IntKind.i64.wrap (a + rsz b) = a + rsz b := by simp [IntKind.wrap, IntKind.bits, IntKind.signed]; omega
  refine tkd 5 8 (.int .i64 (rsz b)) hd ?_;refine tkd 6 9 (.int .i64 (a + rsz b)) hd ?_;refine tkd 7 2 (.int .i64 (a + rsz b)) hd ?_;refine wpAnyH_done (by kernel_rfl) ?_ _;clear hH hd r0 r1 r2 r3;go_wp2_with fail;go_ret;exact ⟨ret_int9 (by omega), bw.drew⟩
 ·have hw7088 : IntKind.i64.wrap (a + 1) = a + 1 := by simp [IntKind.wrap, IntKind.bits, IntKind.signed]; omega
  refine tkd 5 8 (.int .i64 1) hd ?_;refine tkd 6 9 (.int .i64 (a + 1)) hd ?_;refine tkd 7 2 (.int .i64 (a + 1)) hd ?_;refine wpAnyH_done (by kernel_rfl) ?_ _;clear hH hd r0 r1 r2 r3;go_wp2_with fail;go_ret;exact ⟨ret_int9 (by omega), bw.drew⟩
include c1 c2
omit a1 a2 in
theorem regsBC_in : Calls Tryz.prog 40 #[insV op a b c s] w fun e w' => e = .returned (.int .i64 (max b c + 1)) ∧ Below w.heap.size w w' := by
 go_enter Tryz.func40, Tryz.ntmps40;go_wp2_with fail;all_goals go_ret
 all_goals exact ⟨ret_int9 (by omega), by go_grown⟩
theorem regsABC_in : Calls Tryz.prog 39 #[insV op a b c s] w fun e w' => e = .returned (.int .i64 (max a (max b c) + 1)) ∧ Below w.heap.size w w' := by
 go_enter Tryz.func39, Tryz.ntmps39;go_wp2_with fail;all_goals go_ret
 all_goals exact ⟨ret_int9 (by omega), by go_grown⟩
theorem regsOfYield_in : Calls Tryz.prog 55 #[insV op a b c s] w fun e w' => e = .returned (.int .i64 (a + max 1 (max (rsz b) (rsz c)))) ∧ Below w.heap.size w w' := by
 have q1 := rsz_low b b1;have q2 := rsz_high b b1 b2;have q3 := rsz_low c c1;have q4 := rsz_high c c1 c2;go_enter Tryz.func55, Tryz.ntmps55;go_wp2_with fail;have R0 := RowL.new w [.int .i64 op, .int .i64 a, .int .i64 b, .int .i64 c, .int .i64 s] 73;have bw : Below w.heap.size w (w.alloc (.cells #[.int .i64 op, .int .i64 a, .int .i64 b, .int .i64 c, .int .i64 s] 73)) := (Below.refl _ _).alloc (Nat.le_refl _) _;generalize w.alloc (.cells #[.int .i64 op, .int .i64 a, .int .i64 b, .int .i64 c, .int .i64 s] 73) = w0 at R0 bw ⊢;have r0 := R0.cell 0 rfl;have r1 := R0.cell 1 rfl;have r2 := R0.cell 2 rfl;have r3 := R0.cell 3 rfl;have hl := R0.lt;clear R0;have hd : OldS w0 w0.drew := OldS.of (Below.refl _ _).drew;refine wp_region_held_drew (S := OldS w0) (by kernel_rfl) hd (fun hH => ?_);refine tkd 0 3 (.pointer (some ⟨w.heap.size, 1, none⟩)) hd ?_;refine tkd 1 4 (.int .i64 a) hd ?_;refine tkd 2 5 (.pointer (some ⟨w.heap.size, 2, none⟩)) hd ?_;refine tkd 3 6 (.int .i64 b) hd ?_;refine tkd 5 8 (.pointer (some ⟨w.heap.size, 3, none⟩)) hd ?_;refine tkd 6 9 (.int .i64 c) hd ?_;refine rdy1 4 (fun KK hKK => ?_);go_simp;refine (rangeSize_in _ b).mono ?_;rintro e y2 ⟨rfl, rfl⟩;go_wp2_with fail;refine hKK.out _ _ hd (fun _ => ?_);clear hKK KK;try simp only [tK]
 refine rdy1 7 (fun KK hKK => ?_);go_simp;refine (rangeSize_in _ c).mono ?_;rintro e y2 ⟨rfl, rfl⟩;go_wp2_with fail;refine hKK.out _ _ hd (fun _ => ?_);clear hKK KK;try simp only [tK]
 by_cases m : 1 < rsz b
 ·by_cases m2 : rsz b < rsz c
  ·have hw5088 : IntKind.i64.wrap (a + rsz c) = a + rsz c := by simp [IntKind.wrap, IntKind.bits, IntKind.signed]; omega
   refine tkd 8 11 (.int .i64 (rsz c)) hd ?_;refine tkd 9 12 (.int .i64 (a + rsz c)) hd ?_;refine tkd 10 2 (.int .i64 (a + rsz c)) hd ?_;refine wpAnyH_done (by kernel_rfl) ?_ _;clear hH hd r0 r1 r2 r3;go_wp2_with fail;go_ret;exact ⟨ret_int9 (by omega), bw.drew⟩
  ·have hw968 : IntKind.i64.wrap (a + rsz b) = a + rsz b := by simp [IntKind.wrap, IntKind.bits, IntKind.signed]; omega
   refine tkd 8 11 (.int .i64 (rsz b)) hd ?_;refine tkd 9 12 (.int .i64 (a + rsz b)) hd ?_;refine tkd 10 2 (.int .i64 (a + rsz b)) hd ?_;refine wpAnyH_done (by kernel_rfl) ?_ _;clear hH hd r0 r1 r2 r3;go_wp2_with fail;go_ret;exact ⟨ret_int9 (by omega), bw.drew⟩
 ·by_cases m2 : 1 < rsz c
  ·have hw5088 : IntKind.i64.wrap (a + rsz c) = a + rsz c := by simp [IntKind.wrap, IntKind.bits, IntKind.signed]; omega
   refine tkd 8 11 (.int .i64 (rsz c)) hd ?_;refine tkd 9 12 (.int .i64 (a + rsz c)) hd ?_;refine tkd 10 2 (.int .i64 (a + rsz c)) hd ?_;refine wpAnyH_done (by kernel_rfl) ?_ _;clear hH hd r0 r1 r2 r3;go_wp2_with fail;go_ret;exact ⟨ret_int9 (by omega), bw.drew⟩
  ·have hw7088 : IntKind.i64.wrap (a + 1) = a + 1 := by simp [IntKind.wrap, IntKind.bits, IntKind.signed]; omega
   refine tkd 8 11 (.int .i64 1) hd ?_;refine tkd 9 12 (.int .i64 (a + 1)) hd ?_;refine tkd 10 2 (.int .i64 (a + 1)) hd ?_;refine wpAnyH_done (by kernel_rfl) ?_ _;clear hH hd r0 r1 r2 r3;go_wp2_with fail;go_ret;exact ⟨ret_int9 (by omega), bw.drew⟩
theorem regsOfCall_in : Calls Tryz.prog 43 #[insV op a b c s] w fun e w' => e = .returned (.int .i64 (a + max (1 + rsz b) (rsz c))) ∧ Below w.heap.size w w' := by
 have q1 := rsz_low b b1;have q2 := rsz_high b b1 b2;have q3 := rsz_low c c1;have q4 := rsz_high c c1 c2;go_enter Tryz.func43, Tryz.ntmps43;go_wp2_with fail;have R0 := RowL.new w [.int .i64 op, .int .i64 a, .int .i64 b, .int .i64 c, .int .i64 s] 73;have bw : Below w.heap.size w (w.alloc (.cells #[.int .i64 op, .int .i64 a, .int .i64 b, .int .i64 c, .int .i64 s] 73)) := (Below.refl _ _).alloc (Nat.le_refl _) _;generalize w.alloc (.cells #[.int .i64 op, .int .i64 a, .int .i64 b, .int .i64 c, .int .i64 s] 73) = w0 at R0 bw ⊢;have r0 := R0.cell 0 rfl;have r1 := R0.cell 1 rfl;have r2 := R0.cell 2 rfl;have r3 := R0.cell 3 rfl;have hl := R0.lt;clear R0;have hd : OldS w0 w0.drew := OldS.of (Below.refl _ _).drew;refine wp_region_held_drew (S := OldS w0) (by kernel_rfl) hd (fun hH => ?_);refine tkd 0 3 (.pointer (some ⟨w.heap.size, 1, none⟩)) hd ?_;refine tkd 1 4 (.int .i64 a) hd ?_;refine tkd 2 5 (.pointer (some ⟨w.heap.size, 2, none⟩)) hd ?_;refine tkd 3 6 (.int .i64 b) hd ?_;refine tkd 6 9 (.pointer (some ⟨w.heap.size, 3, none⟩)) hd ?_;refine tkd 7 10 (.int .i64 c) hd ?_;refine rdy1 4 (fun KK hKK => ?_);go_simp;refine (rangeSize_in _ b).mono ?_;rintro e y2 ⟨rfl, rfl⟩;go_wp2_with fail;refine hKK.out _ _ hd (fun _ => ?_);clear hKK KK;try simp only [tK]
 have hw2901 : IntKind.i64.wrap (1 + rsz b) = 1 + rsz b := by simp [IntKind.wrap, IntKind.bits, IntKind.signed]; omega
 refine tkd 5 8 (.int .i64 (1 + rsz b)) hd ?_;refine rdy1 8 (fun KK hKK => ?_);go_simp;refine (rangeSize_in _ c).mono ?_;rintro e y2 ⟨rfl, rfl⟩;go_wp2_with fail;refine hKK.out _ _ hd (fun _ => ?_);clear hKK KK;try simp only [tK]
 by_cases m : 1 + rsz b < rsz c
 ·have hw5088 : IntKind.i64.wrap (a + rsz c) = a + rsz c := by simp [IntKind.wrap, IntKind.bits, IntKind.signed]; omega
  refine tkd 9 12 (.int .i64 (rsz c)) hd ?_;refine tkd 10 13 (.int .i64 (a + rsz c)) hd ?_;refine tkd 11 2 (.int .i64 (a + rsz c)) hd ?_;refine wpAnyH_done (by kernel_rfl) ?_ _;clear hH hd r0 r1 r2 r3;go_wp2_with fail;go_ret;exact ⟨ret_int9 (by omega), bw.drew⟩
 ·have hw8983 : IntKind.i64.wrap (a + (1 + rsz b)) = a + (1 + rsz b) := by simp [IntKind.wrap, IntKind.bits, IntKind.signed]; omega
  refine tkd 9 12 (.int .i64 (1 + rsz b)) hd ?_;refine tkd 10 13 (.int .i64 (a + (1 + rsz b))) hd ?_;refine tkd 11 2 (.int .i64 (a + (1 + rsz b))) hd ?_;refine wpAnyH_done (by kernel_rfl) ?_ _;clear hH hd r0 r1 r2 r3;go_wp2_with fail;go_ret;exact ⟨ret_int9 (by omega), bw.drew⟩
end
end Go.Proofs.YtgcbkfckfgiigaaGreatDoor

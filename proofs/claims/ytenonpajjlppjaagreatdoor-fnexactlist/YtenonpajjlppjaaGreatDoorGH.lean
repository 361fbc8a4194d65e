import Derived.Test.YtenonpajjlppjaaGreatDoorRows
import Derived.Lib.ItoaMem
import Derived.Lib.ItoaLen
import Derived.Laws.Concat
import Derived.Below
import Derived.WalkSmall
import Derived.WalkKit
import Derived.ProofKit
import Derived.Handy
import Derived.Tactics2
import Derived.Deep.RegionHeld3
import Derived.Laws.Strings2
namespace Go.Proofs.YtenonpajjlppjaaGreatDoor
section
open Go.RowKit
set_option linter.unusedVariables false
set_option linter.unusedSimpArgs false
set_option maxRecDepth 100000
set_option maxHeartbeats 1000000
/-- the ten digits. -/
def tenDigits : ByteArray := ⟨#[48, 49, 50, 51, 52, 53, 54, 55, 56, 57]⟩
theorem digits_step {u : Nat} (h : ¬ u < 10) : Lib.decDigits u = Lib.decDigits (u / 10) ++ [UInt8.ofNat (48 + u % 10)] := by
  rw [Lib.decDigits, dif_neg h]
theorem digit_fin : ∀ i : Fin 10, (⟨#[48, 49, 50, 51, 52, 53, 54, 55, 56, 57]⟩ : ByteArray).extract i.val (i.val + 1) = ⟨#[UInt8.ofNat (48 + i.val)]⟩ := by decide +kernel
/-- one digit. -/
def dgt (u : Nat) : ByteArray := ⟨#[UInt8.ofNat (48 + u % 10)]⟩
theorem digit_piece (u : Nat) (W : World) : (Instr.slice 9 (.string ⟨#[48, 49, 50, 51, 52, 53, 54, 55, 56, 57]⟩) (some (.int .i64 ((u : Int) % 10))) (some (.int .i64 ((u : Int) % 10 + 1))) none).run Tryz.prog W = .ok (.string (dgt u)) W := by
  rw [run_slice_string W 9 _ .i64 .i64 _ _ Tryz.underlying9 (by omega) (by omega) (by simp [ByteArray.size]; omega)]
  have e1 : ((u : Int) % 10).toNat = u % 10 := by omega
  have e2 : ((u : Int) % 10 + 1).toNat = u % 10 + 1 := by omega
  rw [e1, e2, digit_fin ⟨u % 10, Nat.mod_lt _ (by decide)⟩, dgt]
theorem ba_append (l : List UInt8) (b : UInt8) : (⟨l.toArray⟩ : ByteArray) ++ ⟨#[b]⟩ = ⟨(l ++ [b]).toArray⟩ := by
  apply ByteArray.ext
  simp
/-- the model's digits. -/
theorem showDown (u : Nat) : ∀ (n : Int) (hn : n = -(u : Int)) (h0 : -9223372036854775808 ≤ n) (h1 : n ≤ 0) (w : World),
    Calls Tryz.prog 102 #[.int .i64 n] w fun e w' => e = .returned (.string ⟨(Lib.decDigits u).toArray⟩) ∧ Below w.heap.size w w' := by
  induction u using Nat.strongRecOn with
  | _ u ih =>
    intro n hn h0 h1 w
    have hs := digit_piece u
    have m0 : (0 : Int) ≤ (u : Int) % 10 := by omega
    have m1 : (u : Int) % 10 ≤ 9 := by omega
    by_cases h : u < 10
    · have hx : -10 < n := by omega
      clear ih
      go_enter Tryz.func102, Tryz.ntmps102
      go_wp2_with fail
      refine bodyPost_ret (v := .string (dgt u)) (by simp [results, Tryz.results102, go_sem]) rfl ⟨?_, by go_grown⟩
      rw [Lib.decDigits_one h, dgt, Nat.mod_eq_of_lt h]
    · have hr := ih (u / 10) (by omega) (-((u : Int) / 10)) (by omega) (by omega) (by omega)
      have hx : n ≤ -10 := by omega
      have w1 : IntKind.i64.wrap (-((u : Int) / 10)) = -((u : Int) / 10) := by rw [IntKind.wrap_i64]; omega
      have w2 : IntKind.i64.wrap ((u : Int) % 10 + 1) = (u : Int) % 10 + 1 := by rw [IntKind.wrap_i64]; omega
      clear ih
      have hd : Lib.decDigits u = Lib.decDigits (u / 10) ++ [UInt8.ofNat (48 + u % 10)] := digits_step h
      have hl := Lib.nDigits_le20 (u / 10) (by omega)
      rw [← Lib.decDigits_length] at hl
      generalize Lib.decDigits (u / 10) = ds at hr hd hl
      have hcat : ∀ W, (Op.stringOp .add (⟨ds.toArray⟩ : ByteArray) (dgt u)).run Tryz.prog W = .ok (.string (⟨ds.toArray⟩ ++ dgt u)) W := fun W => run_string_add_sum W _ _ (by simp [ByteArray.size, dgt]; omega)
      go_enter Tryz.func102, Tryz.ntmps102
      go_wp2_with fail
      go_region_held3 (fun _ => True) (trivial) (first | (go_at_call 102; refine (hr _).mono ?_; rintro e w1 ⟨rfl, b1⟩))
      go_wp2_with fail
      refine bodyPost_ret (v := .string (⟨ds.toArray⟩ ++ dgt u)) (by simp [results, Tryz.results102, go_sem]) rfl ⟨?_, ?_⟩
      · rw [hd, dgt, ba_append]
      · exact (Below.refl w.heap.size w).drew.trans b1
end
section
open Go.RowKit
set_option linter.unusedVariables false
set_option linter.unusedSimpArgs false
set_option maxRecDepth 100000
set_option maxHeartbeats 1000000
/-- the decimal of a number. -/
def dec (n : Int) : ByteArray := ⟨(Lib.itoa n).toArray⟩
theorem dec_pos {n : Int} (h : 0 ≤ n) : dec n = ⟨(Lib.decDigits n.toNat).toArray⟩ := by
  unfold dec Lib.itoa
  rw [if_neg (by omega)]
theorem ba_cons (l : List UInt8) (b : UInt8) : (⟨#[b]⟩ : ByteArray) ++ ⟨l.toArray⟩ = ⟨(b :: l).toArray⟩ := by
  apply ByteArray.ext
  simp
theorem dec_neg {n : Int} (h : n < 0) : dec n = ⟨#[45]⟩ ++ ⟨(Lib.decDigits n.natAbs).toArray⟩ := by
  unfold dec Lib.itoa
  rw [if_pos h, ba_cons]
theorem specShowInt (n : Int) (h0 : -9223372036854775808 ≤ n) (h1 : n ≤ 9223372036854775807) (w : World) :
    Calls Tryz.prog 65 #[.int .i64 n] w fun e w' => e = .returned (.string (dec n)) ∧ Below w.heap.size w w' := by
  by_cases h : 0 ≤ n
  · have hr := showDown n.toNat (-n) (by omega) (by omega) (by omega)
    rw [dec_pos h]
    generalize (⟨(Lib.decDigits n.toNat).toArray⟩ : ByteArray) = d at hr ⊢
    have w1 : IntKind.i64.wrap (-n) = -n := by rw [IntKind.wrap_i64]; omega
    go_enter Tryz.func65, Tryz.ntmps65
    go_wp2_with (go_at_call 102; refine (hr _).mono ?_; rintro e w1 ⟨rfl, b1⟩)
    go_ret
    exact ⟨rfl, b1⟩
  · have hr := showDown n.natAbs n (by omega) (by omega) (by omega)
    rw [dec_neg (by omega)]
    have hl := Lib.nDigits_le20 n.natAbs (by omega)
    rw [← Lib.decDigits_length] at hl
    generalize Lib.decDigits n.natAbs = d at hr hl ⊢
    have hcat : ∀ W, (Op.stringOp .add (⟨#[45]⟩ : ByteArray) ⟨d.toArray⟩).run Tryz.prog W = .ok (.string (⟨#[45]⟩ ++ ⟨d.toArray⟩)) W := fun W => run_string_add_sum W _ _ (by simp [ByteArray.size]; omega)
    go_enter Tryz.func65, Tryz.ntmps65
    go_wp2_with (go_at_call 102; refine (hr _).mono ?_; rintro e w1 ⟨rfl, b1⟩)
    go_ret
    exact ⟨rfl, b1⟩
end
end Go.Proofs.YtenonpajjlppjaaGreatDoor

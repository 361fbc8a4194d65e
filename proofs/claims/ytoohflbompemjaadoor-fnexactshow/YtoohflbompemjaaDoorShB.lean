import Derived.Test.YtoohflbompemjaaDoorShA
namespace Go.Proofs.YtoohflbompemjaaDoor
open Go.RowKit
set_option linter.unusedVariables false
set_option linter.unusedSimpArgs false
set_option maxRecDepth 100000
set_option maxHeartbeats 1000000
/-- the decimal of a number. -/
def dec (n : Int) : ByteArray := ⟨(Lib.itoa n).toArray⟩
theorem dec_pos {n : Int} (h : 0 ≤ n) : dec n = ⟨(Lib.decDigits n.toNat).toArray⟩ := by
  unfold dec Lib.itoa
  rw [if_neg (by omega)]
theorem ba_cons (l : List UInt8) (b : UInt8) : (⟨#[b]⟩ : ByteArray) ++ ⟨l.toArray⟩ = ⟨(b :: l).toArray⟩ := by
  apply ByteArray.ext
  simp
theorem dec_neg {n : Int} (h : n < 0) : dec n = ⟨#[45]⟩ ++ ⟨(Lib.decDigits n.natAbs).toArray⟩ := by
  unfold dec Lib.itoa
  rw [if_pos h, ba_cons]
theorem specShowInt (n : Int) (h0 : -9223372036854775808 ≤ n) (h1 : n ≤ 9223372036854775807) (w : World) :
    Calls Tryd.prog 9 #[.int .i64 n] w fun e w' => e = .returned (.string (dec n)) ∧ Below w.heap.size w w' := by
  by_cases h : 0 ≤ n
  · have hr := showDown n.toNat (-n) (by omega) (by omega) (by omega)
    rw [dec_pos h]
    generalize (⟨(Lib.decDigits n.toNat).toArray⟩ : ByteArray) = d at hr ⊢
    have w1 : IntKind.i64.wrap (-n) = -n := by rw [IntKind.wrap_i64]; omega
    go_enter Tryd.func9, Tryd.ntmps9
    go_wp2_with (go_at_call 13; refine (hr _).mono ?_; rintro e w1 ⟨rfl, b1⟩)
    go_ret
    exact ⟨rfl, b1⟩
  · have hr := showDown n.natAbs n (by omega) (by omega) (by omega)
    rw [dec_neg (by omega)]
    have hl := Lib.nDigits_le20 n.natAbs (by omega)
    rw [← Lib.decDigits_length] at hl
    generalize Lib.decDigits n.natAbs = d at hr hl ⊢
    have hcat : ∀ W, (Op.stringOp .add (⟨#[45]⟩ : ByteArray) ⟨d.toArray⟩).run Tryd.prog W = .ok (.string (⟨#[45]⟩ ++ ⟨d.toArray⟩)) W := fun W => run_string_add_sum W _ _ (by simp [ByteArray.size]; omega)
    go_enter Tryd.func9, Tryd.ntmps9
    go_wp2_with (go_at_call 13; refine (hr _).mono ?_; rintro e w1 ⟨rfl, b1⟩)
    go_ret
    exact ⟨rfl, b1⟩
end Go.Proofs.YtoohflbompemjaaDoor

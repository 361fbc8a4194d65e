import Derived.Test.YtijdpklpopckfaaDoorWireA
namespace Go.Proofs.YtijdpklpopckfaaDoor.WWire
open Go.RowKit WPut WGet
set_option linter.unusedVariables false
theorem at_mid (p t : ByteArray) (xs : List Int) (j : Nat) (x : Int) (h : xs[j]? = some x) (h0 : 0 ≤ x) (h1 : x ≤ 255) : ((((p ++ strOfNums xs) ++ t).get! (p.size + j)).toNat : Int) = x := by
  obtain ⟨hj, _⟩ := List.getElem?_eq_some_iff.1 h
  have hz : ((p ++ strOfNums xs) ++ t).size = p.size + xs.length + t.size := by simp [ByteArray.size_append, strOfNums_size]
  have hrz : (strOfNums xs ++ t).size = xs.length + t.size := by simp [ByteArray.size_append, strOfNums_size]
  rw [← get_bang _ _ (by rw [hz]; omega)]
  have hr := mid_rest p (strOfNums xs) t
  have hg := rest_get ((p ++ strOfNums xs) ++ t) p.size j (by rw [hr, hrz]; omega) (by rw [hz]; omega)
  rw [← hg]
  simp only [hr]
  exact mid_toNat xs t j x h h0 h1 _
theorem le8_back (p t : ByteArray) (Z : Int) (h0 : 0 ≤ Z) (h1 : Z ≤ 18446744073709551615) : ((le8 ((p ++ strOfNums (leL 8 Z)) ++ t) p.size : Nat) : Int) = Z := by
  have q0 := at_mid p t (leL 8 Z) 0 (Z % 256) rfl (by omega) (by omega)
  have q1 := at_mid p t (leL 8 Z) 1 (Z / 256 % 256) rfl (by omega) (by omega)
  have q2 := at_mid p t (leL 8 Z) 2 (Z / 256 / 256 % 256) rfl (by omega) (by omega)
  have q3 := at_mid p t (leL 8 Z) 3 (Z / 256 / 256 / 256 % 256) rfl (by omega) (by omega)
  have q4 := at_mid p t (leL 8 Z) 4 (Z / 256 / 256 / 256 / 256 % 256) rfl (by omega) (by omega)
  have q5 := at_mid p t (leL 8 Z) 5 (Z / 256 / 256 / 256 / 256 / 256 % 256) rfl (by omega) (by omega)
  have q6 := at_mid p t (leL 8 Z) 6 (Z / 256 / 256 / 256 / 256 / 256 / 256 % 256) rfl (by omega) (by omega)
  have q7 := at_mid p t (leL 8 Z) 7 (Z / 256 / 256 / 256 / 256 / 256 / 256 / 256 % 256) rfl (by omega) (by omega)
  rw [Nat.add_zero] at q0
  simp only [le8, le4, Nat.add_assoc, Nat.reduceAdd] at *
  generalize (((p ++ strOfNums (leL 8 Z)) ++ t).get! p.size).toNat = y0 at *
  generalize (((p ++ strOfNums (leL 8 Z)) ++ t).get! (p.size + 1)).toNat = y1 at *
  generalize (((p ++ strOfNums (leL 8 Z)) ++ t).get! (p.size + 2)).toNat = y2 at *
  generalize (((p ++ strOfNums (leL 8 Z)) ++ t).get! (p.size + 3)).toNat = y3 at *
  generalize (((p ++ strOfNums (leL 8 Z)) ++ t).get! (p.size + 4)).toNat = y4 at *
  generalize (((p ++ strOfNums (leL 8 Z)) ++ t).get! (p.size + 5)).toNat = y5 at *
  generalize (((p ++ strOfNums (leL 8 Z)) ++ t).get! (p.size + 6)).toNat = y6 at *
  generalize (((p ++ strOfNums (leL 8 Z)) ++ t).get! (p.size + 7)).toNat = y7 at *
  omega
theorem wrap_back (z : Int) (h0 : -9223372036854775808 ≤ z) (h1 : z ≤ 9223372036854775807) : wrap64 (z % 18446744073709551616) = z := by
  unfold wrap64; omega
theorem getI (p t : ByteArray) (z : Int) (w : World) (hp : p.size ≤ 3) (ht : t.size = 2) (h0 : -9223372036854775808 ≤ z) (h1 : z ≤ 9223372036854775807) :
    Calls Tryd.prog 13 #[.string ((p ++ strOfNums (leL 8 (z % 18446744073709551616))) ++ t), .int .i64 p.size] w fun e w' => e = .returned (.tuple #[.int .i64 z, .int .i64 (p.size + 8), .bool true]) ∧ w' = w := by
  have hz : ((p ++ strOfNums (leL 8 (z % 18446744073709551616))) ++ t).size = p.size + 8 + 2 := by
    simp only [ByteArray.size_append, strOfNums_size, ht]; rfl
  have h := implGetInt_yes ((p ++ strOfNums (leL 8 (z % 18446744073709551616))) ++ t) p.size (by rw [hz]; omega) (by rw [hz]; unfold maxLen; omega) w
  rw [le8_back p t _ (by omega) (by omega), wrap_back z h0 h1] at h
  exact h
end Go.Proofs.YtijdpklpopckfaaDoor.WWire

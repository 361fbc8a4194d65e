import Derived.Test.YtijdpklpopckfaaDoorVarC
import Derived.Test.YtijdpklpopckfaaDoorVarD
import Derived.Test.YtijdpklpopckfaaDoorGetA
namespace Go.Proofs.YtijdpklpopckfaaDoor.WWire
open Go.RowKit WPut
set_option linter.unusedVariables false
theorem sz (X : ByteArray) : X.size = X.data.toList.length := rfl
/-- What stands behind the first part of a text of three. -/
theorem mid_rest (p m t : ByteArray) : ((p ++ m) ++ t).extract p.size ((p ++ m) ++ t).size = m ++ t := by
  apply Go.WideShapes.bytes_inj
  have e : ((p ++ m) ++ t).data.toList = p.data.toList ++ (m.data.toList ++ t.data.toList) := by simp [ByteArray.data_append]
  have e2 : (m ++ t).data.toList = m.data.toList ++ t.data.toList := by simp [ByteArray.data_append]
  rw [Lib.extract_data, sz p, sz ((p ++ m) ++ t), e, e2, List.drop_left, List.take_of_length_le (by simp only [List.length_append]; omega)]
theorem head_mid (m t : ByteArray) : (m ++ t).extract 0 m.size = m := by
  apply Go.WideShapes.bytes_inj
  have e2 : (m ++ t).data.toList = m.data.toList ++ t.data.toList := by simp [ByteArray.data_append]
  rw [Lib.extract_data, sz m, e2, List.drop_zero, Nat.sub_zero, List.take_left]
theorem mid_get (xs : List Int) (t : ByteArray) (j : Nat) (h : j < xs.length) (h' : j < (strOfNums xs ++ t).size) : (strOfNums xs ++ t)[j] = UInt8.ofNat (xs[j]).toNat := by
  simp [ByteArray.getElem_eq_getElem_data, ByteArray.data_append, strOfNums, h]
theorem byte_back (x : Int) (h0 : 0 ≤ x) (h1 : x ≤ 255) : ((UInt8.ofNat x.toNat).toNat : Int) = x := by
  simp; omega
theorem mid_toNat (xs : List Int) (t : ByteArray) (j : Nat) (x : Int) (h : xs[j]? = some x) (h0 : 0 ≤ x) (h1 : x ≤ 255) (h' : j < (strOfNums xs ++ t).size) : (((strOfNums xs ++ t)[j]).toNat : Int) = x := by
  obtain ⟨hj, rfl⟩ := List.getElem?_eq_some_iff.1 h
  rw [mid_get xs t j hj h', byte_back _ h0 h1]
theorem getV (p t : ByteArray) (n : Int) (w : World) (hp : p.size ≤ 3) (ht : t.size = 2) (h0 : 0 ≤ n) (h1 : n ≤ 16777215) :
    Calls Tryd.prog 10 #[.string ((p ++ pv n) ++ t), .int .i64 p.size] w fun e w' => e = .returned (.tuple #[.int .i64 n, .int .i64 (p.size + (pv n).size), .bool true]) ∧ Below w.heap.size w w' := by
  have hin : pv n = strOfNums (pvL 5 n) := pv_in (by omega)
  have hz : ((p ++ pv n) ++ t).size = p.size + (pv n).size + t.size := by simp [ByteArray.size_append]
  have hm : (pv n).size = (pvL 5 n).length := by rw [hin, strOfNums_size]
  have hl := pvL_len 5 n
  have hr := mid_rest p (pv n) t
  have hrz : (pv n ++ t).size = (pv n).size + t.size := by simp [ByteArray.size_append]
  have hhead := head_mid (pv n) t
  have key : ∀ k, (pv n).size = k → ((pv n).toList == ((pv n ++ t).extract 0 k).toList) = true := fun k hk => by rw [← hk, hhead]; simp
  by_cases c0 : n < 128
  · have e : pvL 5 n = [(n)] := by rw [pvL_small 4 (n) (by omega)]
    have q0 : (((pv n ++ t)[0]'(by rw [hrz, hm, e, ht]; simp)).toNat : Int) = (n) := by
      simp only [hin, e]; exact mid_toNat _ _ 0 _ rfl (by omega) (by omega) _
    have hk : (pv n).size = 1 := by rw [hm, e]; rfl
    have := impl_S0ta _ _ p.size w n (by rw [hz]; omega) (by rw [hz]; omega) hr (by rw [hrz]; omega)  (by rw [q0]; omega) (by rw [hrz]; omega) (by show _ = _; rw [q0]; omega) (key 1 hk)
    rw [hk]; exact this
  by_cases c1 : n < 16384
  · have e : pvL 5 n = [(n % 128 + 128), (n / 128)] := by rw [pvL_big 4 (n) (by omega), pvL_small 3 (n / 128) (by omega)]
    have q0 : (((pv n ++ t)[0]'(by rw [hrz, hm, e, ht]; simp)).toNat : Int) = (n % 128 + 128) := by
      simp only [hin, e]; exact mid_toNat _ _ 0 _ rfl (by omega) (by omega) _
    have q1 : (((pv n ++ t)[1]'(by rw [hrz, hm, e, ht]; simp)).toNat : Int) = (n / 128) := by
      simp only [hin, e]; exact mid_toNat _ _ 1 _ rfl (by omega) (by omega) _
    have hk : (pv n).size = 2 := by rw [hm, e]; rfl
    have := impl_S1tb _ _ p.size w n (by rw [hz]; omega) (by rw [hz]; omega) hr (by rw [hrz]; omega) (by rw [q0]; omega) (by rw [q1]; omega) (by rw [hrz]; omega) (by show _ = _; rw [q0, q1]; omega) (key 2 hk)
    rw [hk]; exact this
  by_cases c2 : n < 2097152
  · have e : pvL 5 n = [(n % 128 + 128), (n / 128 % 128 + 128), (n / 128 / 128)] := by rw [pvL_big 4 (n) (by omega), pvL_big 3 (n / 128) (by omega), pvL_small 2 (n / 128 / 128) (by omega)]
    have q0 : (((pv n ++ t)[0]'(by rw [hrz, hm, e, ht]; simp)).toNat : Int) = (n % 128 + 128) := by
      simp only [hin, e]; exact mid_toNat _ _ 0 _ rfl (by omega) (by omega) _
    have q1 : (((pv n ++ t)[1]'(by rw [hrz, hm, e, ht]; simp)).toNat : Int) = (n / 128 % 128 + 128) := by
      simp only [hin, e]; exact mid_toNat _ _ 1 _ rfl (by omega) (by omega) _
    have q2 : (((pv n ++ t)[2]'(by rw [hrz, hm, e, ht]; simp)).toNat : Int) = (n / 128 / 128) := by
      simp only [hin, e]; exact mid_toNat _ _ 2 _ rfl (by omega) (by omega) _
    have hk : (pv n).size = 3 := by rw [hm, e]; rfl
    have := impl_S2tb _ _ p.size w n (by rw [hz]; omega) (by rw [hz]; omega) hr (by rw [hrz]; omega) (by rw [q0]; omega) (by rw [q1]; omega) (by rw [q2]; omega) (by rw [hrz]; omega) (by show _ = _; rw [q0, q1, q2]; omega) (key 3 hk)
    rw [hk]; exact this
  have e : pvL 5 n = [(n % 128 + 128), (n / 128 % 128 + 128), (n / 128 / 128 % 128 + 128), (n / 128 / 128 / 128)] := by rw [pvL_big 4 (n) (by omega), pvL_big 3 (n / 128) (by omega), pvL_big 2 (n / 128 / 128) (by omega), pvL_small 1 (n / 128 / 128 / 128) (by omega)]
  have q0 : (((pv n ++ t)[0]'(by rw [hrz, hm, e, ht]; simp)).toNat : Int) = (n % 128 + 128) := by
    simp only [hin, e]; exact mid_toNat _ _ 0 _ rfl (by omega) (by omega) _
  have q1 : (((pv n ++ t)[1]'(by rw [hrz, hm, e, ht]; simp)).toNat : Int) = (n / 128 % 128 + 128) := by
    simp only [hin, e]; exact mid_toNat _ _ 1 _ rfl (by omega) (by omega) _
  have q2 : (((pv n ++ t)[2]'(by rw [hrz, hm, e, ht]; simp)).toNat : Int) = (n / 128 / 128 % 128 + 128) := by
    simp only [hin, e]; exact mid_toNat _ _ 2 _ rfl (by omega) (by omega) _
  have q3 : (((pv n ++ t)[3]'(by rw [hrz, hm, e, ht]; simp)).toNat : Int) = (n / 128 / 128 / 128) := by
    simp only [hin, e]; exact mid_toNat _ _ 3 _ rfl (by omega) (by omega) _
  have hk : (pv n).size = 4 := by rw [hm, e]; rfl
  have := impl_S3tb _ _ p.size w n (by rw [hz]; omega) (by rw [hz]; omega) hr (by rw [hrz]; omega) (by rw [q0]; omega) (by rw [q1]; omega) (by rw [q2]; omega) (by rw [q3]; omega) (by rw [hrz]; omega) (by show _ = _; rw [q0, q1, q2, q3]; omega) (key 4 hk)
  rw [hk]; exact this
end Go.Proofs.YtijdpklpopckfaaDoor.WWire

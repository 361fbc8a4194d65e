import Derived.Test.YtndpbdpngniepaaRows
import Derived.WalkKit
import Derived.ProofKit
import Derived.Handy
import Derived.OpenShut
import Derived.WalkLawsBesides
import Derived.WalkSpells
import Derived.Laws.BitsAllLaws
namespace Go.Proofs.Ytndpbdpngniepaa
open Go.RowKit
set_option linter.unusedVariables false
theorem ret_int {k : IntKind} {a b : Int} (h : a = b) : Ending.returned (.int k a) = .returned (.int k b) := by rw [h]
theorem ret_iib {k l : IntKind} {a b a' b' : Int} {c : Bool} (h : a = a') (g : b = b') : Ending.returned (.tuple #[.int k a, .int l b, .bool c]) = .returned (.tuple #[.int k a', .int l b', .bool c]) := by rw [h, g]
theorem or2 (i : Nat) (x y : Nat) (hx : x < 2 ^ i) (hy : y % 2 ^ i = 0) : x ||| y = x + y := by
  rw [Nat.or_comm, nat_join i y x hy hx, Nat.add_comm]
theorem or4 (x0 x1 x2 x3 : Nat) (h0 : x0 < 256) (h1 : x1 < 256) (h2 : x2 < 256) (h3 : x3 < 256) :
    bits .or .u32 (bits .or .u32 (bits .or .u32 (bits .or .u32 0 ((x0 : Int) % 4294967296)) ((x1 : Int) % 4294967296 * 256 % 4294967296)) ((x2 : Int) % 4294967296 * 65536 % 4294967296)) ((x3 : Int) % 4294967296 * 16777216 % 4294967296)
      = ((x0 + 256 * x1 + 65536 * x2 + 16777216 * x3 : Nat) : Int) := by
  have e0 : (x0 : Int) % 4294967296 = ((x0 : Nat) : Int) := by omega
  have e1 : (x1 : Int) % 4294967296 * 256 % 4294967296 = ((256 * x1 : Nat) : Int) := by omega
  have e2 : (x2 : Int) % 4294967296 * 65536 % 4294967296 = ((65536 * x2 : Nat) : Int) := by omega
  have e3 : (x3 : Int) % 4294967296 * 16777216 % 4294967296 = ((16777216 * x3 : Nat) : Int) := by omega
  rw [e0, e1, e2, e3, show (0 : Int) = ((0 : Nat) : Int) from rfl, u32_or_nat 0 x0 (by omega) (by omega), Nat.zero_or, u32_or_nat _ _ (by omega) (by omega), or2 8 _ _ (by omega) (by omega),
    u32_or_nat _ _ (by omega) (by omega), or2 16 _ _ (by omega) (by omega), u32_or_nat _ _ (by omega) (by omega), or2 24 _ _ (by omega) (by omega)]
/-- Four bytes as a number, the lowest first. -/
def le4 (s : ByteArray) (a : Nat) : Nat := (s.get! a).toNat + 256 * (s.get! (a + 1)).toNat + 65536 * (s.get! (a + 2)).toNat + 16777216 * (s.get! (a + 3)).toNat
def le8 (s : ByteArray) (a : Nat) : Nat := le4 s a + 4294967296 * le4 s (a + 4)
theorem u8lt (x : UInt8) : x.toNat < 256 := x.toNat_lt
theorem le4_lt (s : ByteArray) (a : Nat) : le4 s a < 4294967296 := by
  unfold le4
  have := u8lt (s.get! a); have := u8lt (s.get! (a + 1)); have := u8lt (s.get! (a + 2)); have := u8lt (s.get! (a + 3))
  omega
theorem get_bang (s : ByteArray) (i : Nat) (h : i < s.size) : s[i] = s.get! i := by
  simp [ByteArray.get!, ByteArray.getElem_eq_getElem_data, h]
theorem u64_nat (n : Nat) (h : n < 18446744073709551616) : IntKind.u64.wrap (n : Int) = (n : Int) := by
  rw [IntKind.wrap_u64]; omega
theorem hstep (u x : Nat) (hu : u < 72057594037927936) (hx : x < 256) : IntKind.u64.wrap (IntKind.u64.wrap ((u : Int) * 256) + IntKind.u64.wrap (x : Int)) = ((u * 256 + x : Nat) : Int) := by
  simp only [IntKind.wrap_u64]; omega
theorem h8 (x0 x1 x2 x3 x4 x5 x6 x7 : Nat) (h0 : x0 < 256) (h1 : x1 < 256) (h2 : x2 < 256) (h3 : x3 < 256) (h4 : x4 < 256) (h5 : x5 < 256) (h6 : x6 < 256) (h7 : x7 < 256) :
    IntKind.u64.wrap (IntKind.u64.wrap (IntKind.u64.wrap (IntKind.u64.wrap (IntKind.u64.wrap (IntKind.u64.wrap (IntKind.u64.wrap (IntKind.u64.wrap (IntKind.u64.wrap (IntKind.u64.wrap (IntKind.u64.wrap (IntKind.u64.wrap
      (IntKind.u64.wrap (IntKind.u64.wrap (IntKind.u64.wrap (IntKind.u64.wrap (x7 : Int)) * 256) + IntKind.u64.wrap (x6 : Int)) * 256) + IntKind.u64.wrap (x5 : Int)) * 256) + IntKind.u64.wrap (x4 : Int)) * 256)
      + IntKind.u64.wrap (x3 : Int)) * 256) + IntKind.u64.wrap (x2 : Int)) * 256) + IntKind.u64.wrap (x1 : Int)) * 256) + IntKind.u64.wrap (x0 : Int))
    = ((x0 + 256 * x1 + 65536 * x2 + 16777216 * x3 + 4294967296 * (x4 + 256 * x5 + 65536 * x6 + 16777216 * x7) : Nat) : Int) := by
  rw [u64_nat x7 (by omega), u64_nat x7 (by omega), hstep _ _ (by omega) h6, hstep _ _ (by omega) h5, hstep _ _ (by omega) h4, hstep _ _ (by omega) h3, hstep _ _ (by omega) h2, hstep _ _ (by omega) h1, hstep _ _ (by omega) h0]
  congr 1; omega
set_option maxHeartbeats 400000 in
theorem wordAt_any (s : ByteArray) (a : Nat) (h : a + 4 ≤ s.size) (hs : s.size ≤ maxLen) (w : World) :
    Calls Try.prog 31 #[.string s, .int .i64 a] w fun e w' => e = .returned (.int .u32 (le4 s a)) ∧ w' = w := by
  unfold maxLen at hs
  go_enter Try.func31, Try.ntmps31
  go_wp2
  go_rounds 5
  go_ret
  refine ⟨ret_int ?_, rfl⟩
  rw [or4 _ _ _ _ (u8lt _) (u8lt _) (u8lt _) (u8lt _)]
  simp only [le4, get_bang]
set_option maxHeartbeats 400000 in
theorem specGetInt_yes (s : ByteArray) (a : Nat) (h : a + 8 ≤ s.size) (hs : s.size ≤ maxLen) (w : World) :
    Calls Try.prog 16 #[.string s, .int .i64 a] w fun e w' => e = .returned (.tuple #[.int .i64 (wrap64 (le8 s a)), .int .i64 (a + 8), .bool true]) ∧ w' = w := by
  unfold maxLen at hs
  go_enter Try.func16, Try.ntmps16
  go_wp2
  go_rounds 9
  go_ret3
  refine ⟨ret_iib ?_ rfl, rfl⟩
  rw [h8 _ _ _ _ _ _ _ _ (u8lt _) (u8lt _) (u8lt _) (u8lt _) (u8lt _) (u8lt _) (u8lt _) (u8lt _)]
  simp only [le8, le4, get_bang, Nat.add_assoc]
theorem wordAt_int (s : ByteArray) (z : Int) (h0 : 0 ≤ z) (h : z + 4 ≤ s.size) (hs : s.size ≤ maxLen) (w : World) :
    Calls Try.prog 31 #[.string s, .int .i64 z] w fun e w' => e = .returned (.int .u32 (le4 s z.toNat)) ∧ w' = w := by
  obtain ⟨a, rfl⟩ := Int.eq_ofNat_of_zero_le h0
  exact wordAt_any s a (by omega) hs w
theorem or64 (s : ByteArray) (a : Nat) (hl : le4 s a < 4294967296) (hl2 : le4 s (a + 4) < 4294967296) : bits BinOp.or IntKind.u64 ((le4 s (a + 4) : Int) * 4294967296) (le4 s a : Int) = ((le8 s a : Nat) : Int) := by
  unfold le8
  generalize le4 s a = x at *
  generalize le4 s (a + 4) = y at *
  rw [show (y : Int) * 4294967296 = ((y * 4294967296 : Nat) : Int) from by omega, u64_or_nat _ _ (by omega) (by omega), nat_join 32 _ _ (by omega) (by omega)]
  congr 1; omega
set_option maxHeartbeats 400000 in
theorem implGetInt_yes (s : ByteArray) (a : Nat) (h : a + 8 ≤ s.size) (hs : s.size ≤ maxLen) (w : World) :
    Calls Try.prog 17 #[.string s, .int .i64 a] w fun e w' => e = .returned (.tuple #[.int .i64 (wrap64 (le8 s a)), .int .i64 (a + 8), .bool true]) ∧ w' = w := by
  have hs' := hs
  unfold maxLen at hs
  have hl := le4_lt s a
  have hl2 := le4_lt s (a + 4)
  go_enter Try.func17, Try.ntmps17
  go_wp2_with fail
  refine (wordAt_int s _ (by omega) (by omega) hs' _).mono ?_
  rintro e w' ⟨rfl, rfl⟩
  go_wp2_with fail
  refine (wordAt_int s _ (by omega) (by omega) hs' _).mono ?_
  rintro e w' ⟨rfl, rfl⟩
  rw [show ((a : Int) + 4).toNat = a + 4 from by omega]
  go_wp2_with fail
  go_ret3
  refine ⟨ret_iib ?_ rfl, rfl⟩
  rw [or64 _ _ hl hl2]
/-- Nothing is read: at is below 0, or there are fewer than eight bytes from there on. -/
def noInt (s : ByteArray) (z : Int) : Prop := z < 0 ∨ (s.size : Int) < z ∨ (s.size : Int) - z < 8
set_option maxHeartbeats 400000 in
theorem specGetInt_no (s : ByteArray) (z : Int) (hz : -9223372036854775808 ≤ z) (hn : noInt s z) (hs : s.size ≤ maxLen) (w : World) :
    Calls Try.prog 16 #[.string s, .int .i64 z] w fun e w' => e = .returned (.tuple #[.int .i64 0, .int .i64 0, .bool false]) ∧ w' = w := by
  unfold maxLen at hs
  unfold noInt at hn
  by_cases h1 : z < 0
  · go_enter Try.func16, Try.ntmps16
    go_wp2
    go_ret3
    exact ⟨rfl, rfl⟩
  · by_cases h2 : (s.size : Int) < z
    · go_enter Try.func16, Try.ntmps16
      go_wp2
      go_ret3
      exact ⟨rfl, rfl⟩
    · have h3 : (s.size : Int) - z < 8 := by omega
      go_enter Try.func16, Try.ntmps16
      go_wp2
      go_ret3
      exact ⟨rfl, rfl⟩
set_option maxHeartbeats 400000 in
theorem implGetInt_no (s : ByteArray) (z : Int) (hz : -9223372036854775808 ≤ z) (hn : noInt s z) (hs : s.size ≤ maxLen) (w : World) :
    Calls Try.prog 17 #[.string s, .int .i64 z] w fun e w' => e = .returned (.tuple #[.int .i64 0, .int .i64 0, .bool false]) ∧ w' = w := by
  unfold maxLen at hs
  unfold noInt at hn
  by_cases h1 : z < 0
  · go_enter Try.func17, Try.ntmps17
    go_wp2
    go_ret3
    exact ⟨rfl, rfl⟩
  · by_cases h2 : (s.size : Int) < z
    · go_enter Try.func17, Try.ntmps17
      go_wp2
      go_ret3
      exact ⟨rfl, rfl⟩
    · have h3 : (s.size : Int) - z < 8 := by omega
      go_enter Try.func17, Try.ntmps17
      go_wp2
      go_ret3
      exact ⟨rfl, rfl⟩
set_option maxHeartbeats 400000 in
theorem getInt_law (s : ByteArray) (z : Int) (hs : s.size ≤ maxLen) (hz : (Lit.int .i64 z).wf = true) (w : World) :
    Calls Try.prog 6 #[.string s, .int .i64 z] w fun e w' => e = .returned (.bool true) ∧ w' = w := by
  have hb := bounds_i64 hz
  obtain ⟨hb1, hb2⟩ := hb
  have hs' := hs
  unfold maxLen at hs
  by_cases h1 : 1048576 < s.size
  · go_enter Try.func6, Try.ntmps6
    go_wp2_with fail
    go_ret
    exact ⟨rfl, rfl⟩
  · by_cases hn : noInt s z
    · go_enter Try.func6, Try.ntmps6
      go_wp2_with fail
      refine (specGetInt_no s z hb1 hn hs' _).mono ?_
      rintro e w' ⟨rfl, rfl⟩
      go_wp2_with fail
      refine (implGetInt_no s z hb1 hn hs' _).mono ?_
      rintro e w' ⟨rfl, rfl⟩
      go_wp2_with fail
      go_ret
      exact ⟨rfl, rfl⟩
    · obtain ⟨a, rfl⟩ := Int.eq_ofNat_of_zero_le (a := z) (by unfold noInt at hn; omega)
      have h8 : a + 8 ≤ s.size := by unfold noInt at hn; omega
      clear hn
      go_enter Try.func6, Try.ntmps6
      go_wp2_with fail
      refine (specGetInt_yes s a h8 hs' _).mono ?_
      rintro e w' ⟨rfl, rfl⟩
      go_wp2_with fail
      refine (implGetInt_yes s a h8 hs' _).mono ?_
      rintro e w' ⟨rfl, rfl⟩
      go_wp2_with fail
      go_ret
      exact ⟨rfl, rfl⟩
end Go.Proofs.Ytndpbdpngniepaa

import Derived.Test.YtebjplogpngeaaaGreatDoorGa
import Derived.WalkSmall
import Derived.WalkKit
import Derived.Tactics2
import Derived.Deep.RegionHeld3
import Derived.Deep.QuietTactic
import Derived.Deep.RegionWith
import Derived.IntWalk
import Derived.Deep.Cut
import Derived.Test.YtebjplogpngeaaaGreatDoorRows
import Derived.ProofKit
import Derived.Handy
import Derived.OpenShut
import Derived.WalkLawsBesides
import Derived.WalkSpells
import Derived.Laws.BitsAllLaws
namespace Go.Proofs.YtebjplogpngeaaaGreatDoor
open Go.RowKit
set_option linter.unusedVariables false
set_option linter.unusedSimpArgs false
set_option maxRecDepth 100000
set_option maxHeartbeats 1000000
/-- the model's reader. -/
def rV (s : ByteArray) (r : RS) : Value := .agg #[.string s, .int .i64 (r.pos : Int), .int .i64 r.bad]
end Go.Proofs.YtebjplogpngeaaaGreatDoor
namespace Go.Proofs.YtebjplogpngeaaaGreatDoor
open Go.RowKit
set_option linter.unusedVariables false
set_option linter.unusedSimpArgs false
set_option maxRecDepth 100000
set_option maxHeartbeats 1000000
theorem sl_mid (s : ByteArray) (p n : Nat) (wx : World) (hs : s.size ≤ 2000000000) (h : p + n ≤ s.size) : (Instr.slice 9 (.string s) (some (.int .i64 (p : Int))) (some (.int .i64 ((p : Int) + (n : Int)))) none).run Tryz.prog wx = .ok (.string (s.extract p (p + n))) wx := by
  have h1 : ¬ ((p : Int) < 0) := by omega
  have e1 : ((p : Int) + (n : Int)).toNat = p + n := by omega
  simp [Instr.slice, go_sem, e1]
  omega
end Go.Proofs.YtebjplogpngeaaaGreatDoor
namespace Go.Proofs.YtebjplogpngeaaaGreatDoor
open Go.RowKit
set_option linter.unusedVariables false
set_option linter.unusedSimpArgs false
set_option maxRecDepth 100000
set_option maxHeartbeats 1000000
/-- what GetVarint answers. -/
def vrE : Option (Int × Nat) → Value
  | some (n, q) => .tuple #[.int .i64 n, .int .i64 (q : Int), .bool true]
  | none => .tuple #[.int .i64 0, .int .i64 0, .bool false]
/-- V says what GetVarint answers, the model's and the program's. -/
structure VrOk (s : ByteArray) (V : Nat → Option (Int × Nat)) : Prop where
  im : ∀ a, a ≤ s.size → ∀ w, Calls Tryz.prog 106 #[.string s, .int .i64 (a : Int)] w fun e w' => e = .returned (vrE (V a)) ∧ Below w.heap.size w w'
  bd : ∀ a n q, V a = some (n, q) → 0 ≤ n ∧ n ≤ 16777215 ∧ a < q ∧ q ≤ s.size
/-- the bytes that go on, from a place. -/
def Goes (s : ByteArray) (p k : Nat) : Prop := ∀ j, j < k → ∃ h : p + j < s.size, 128 ≤ s[p + j].toNat
theorem Goes.succ {s : ByteArray} {p k : Nat} (h : Goes s p k) (hk : p + k < s.size) (hb : 128 ≤ s[p + k].toNat) : Goes s p (k + 1) := fun j hj => by
  by_cases e : j = k
  · subst e; exact ⟨hk, hb⟩
  · exact h j (by omega)
theorem Goes.cut {s : ByteArray} {p k : Nat} (h : Goes s p k) (hp : p ≤ s.size) (h4 : k < 4) (hk : s.size ≤ p + k) : Cut4 s p := by
  refine ⟨by omega, fun j hj hpj => ?_⟩
  obtain ⟨h1, h2⟩ := h (j - p) (by omega)
  have e : p + (j - p) = j := by omega
  simpa only [e] using h2
theorem Goes.nocut {s : ByteArray} {p k : Nat} (h : Goes s p k) (hp : p ≤ s.size) (hk : k = 4 ∨ ∃ h : p + k < s.size, s[p + k].toNat < 128) : ¬ Cut4 s p := by
  rintro ⟨h1, h2⟩
  rcases hk with rfl | ⟨h3, h4⟩
  · obtain ⟨h5, -⟩ := h 3 (by omega)
    omega
  · have := h2 (p + k) h3 (by omega)
    omega
end Go.Proofs.YtebjplogpngeaaaGreatDoor
namespace Go.Proofs.YtebjplogpngeaaaGreatDoor
open Go.RowKit
set_option linter.unusedVariables false
set_option linter.unusedSimpArgs false
set_option maxRecDepth 100000
set_option maxHeartbeats 1000000
theorem rdAny_pos {s : ByteArray} {V : Nat → Option (Int × Nat)} (hV : VrOk s V) {r : RS} (hp : r.pos ≤ s.size) : (rdAny s V r).2.pos ≤ s.size := by
  unfold rdAny
  split
  · exact hp
  · split
    · rename_i n q h
      exact (hV.bd _ _ _ h).2.2.2
    · exact hp
theorem rdNum_pos {s : ByteArray} {V : Nat → Option (Int × Nat)} (hV : VrOk s V) {lo hi : Int} {r : RS} (hp : r.pos ≤ s.size) : (rdNum s V lo hi r).2.pos ≤ s.size := by
  have h := rdAny_pos hV hp
  unfold rdNum
  dsimp only
  split
  · exact h
  · split
    · exact h
    · exact h
theorem rdNum_bd {s : ByteArray} {V : Nat → Option (Int × Nat)} {lo hi : Int} (r : RS) (h0 : 0 ≤ lo) (h1 : 0 ≤ hi) : 0 ≤ (rdNum s V lo hi r).1 ∧ (rdNum s V lo hi r).1 ≤ hi := by
  unfold rdNum
  dsimp only
  split
  · exact ⟨Int.le_refl _, h1⟩
  · split
    · exact ⟨Int.le_refl _, h1⟩
    · omega
theorem rdByte_pos {s : ByteArray} {hi : Nat} {r : RS} (hp : r.pos ≤ s.size) : (rdByte s hi r).2.pos ≤ s.size := by
  unfold rdByte
  split
  · exact hp
  · split
    · split <;> (dsimp only; omega)
    · exact hp
theorem rdByte_bd (s : ByteArray) (hi : Nat) (r : RS) : (rdByte s hi r).1 ≤ hi := by
  unfold rdByte
  split
  · exact Nat.zero_le _
  · split
    · split
      · exact Nat.zero_le _
      · dsimp only; omega
    · exact Nat.zero_le _
theorem rdBytes_pos {s : ByteArray} {n : Nat} {r : RS} (hp : r.pos ≤ s.size) : (rdBytes s n r).2.pos ≤ s.size := by
  unfold rdBytes
  split
  · exact hp
  · split
    · dsimp only; omega
    · exact hp
theorem rdBytes_size (s : ByteArray) (n : Nat) (r : RS) : (rdBytes s n r).1.size ≤ s.size := by
  unfold rdBytes
  split
  · exact Nat.zero_le _
  · split
    · rw [ByteArray.size_extract]; omega
    · exact Nat.zero_le _
theorem rdText_pos {s : ByteArray} {V : Nat → Option (Int × Nat)} (hV : VrOk s V) {r : RS} (hp : r.pos ≤ s.size) : (rdText s V r).2.pos ≤ s.size := rdBytes_pos (rdNum_pos hV hp)
end Go.Proofs.YtebjplogpngeaaaGreatDoor
namespace Go.Proofs.YtebjplogpngeaaaGreatDoor
open Go.RowKit
set_option linter.unusedVariables false
set_option linter.unusedSimpArgs false
set_option maxRecDepth 100000
set_option maxHeartbeats 1000000
/-- G says what GetInt answers at the beginning of a text, the model's and the program's. -/
structure GiOk (G : ByteArray → Int) : Prop where
  im : ∀ t : ByteArray, t.size ≤ 2000000000 → ∃ (q : Int) (b : Bool), ∀ w, Calls Tryz.prog 101 #[.string t, .int .i64 0] w fun e w' => e = .returned (.tuple #[.int .i64 (G t), .int .i64 q, .bool b]) ∧ Below w.heap.size w w'
/-- a constant. -/
noncomputable def rdVal (s : ByteArray) (V : Nat → Option (Int × Nat)) (G : ByteArray → Int) (r : RS) : VD × RS :=
  let x := rdByte s 4 r
  if x.1 = 1 ∨ x.1 = 2 then (⟨1, (x.1 : Int) - 1, ByteArray.empty⟩, x.2)
  else if x.1 = 3 then (⟨2, G (rdBytes s 8 x.2).1, ByteArray.empty⟩, (rdBytes s 8 x.2).2)
  else if x.1 = 4 then (⟨3, 0, (rdText s V x.2).1⟩, (rdText s V x.2).2)
  else (⟨0, 0, ByteArray.empty⟩, x.2)
end Go.Proofs.YtebjplogpngeaaaGreatDoor
namespace Go.Proofs.YtebjplogpngeaaaGreatDoor
open Go.RowKit
set_option linter.unusedVariables false
theorem ret_int {k : IntKind} {a b : Int} (h : a = b) : Ending.returned (.int k a) = .returned (.int k b) := by rw [h]
theorem ret_iib {k l : IntKind} {a b a' b' : Int} {c : Bool} (h : a = a') (g : b = b') : Ending.returned (.tuple #[.int k a, .int l b, .bool c]) = .returned (.tuple #[.int k a', .int l b', .bool c]) := by rw [h, g]
theorem or2 (i : Nat) (x y : Nat) (hx : x < 2 ^ i) (hy : y % 2 ^ i = 0) : x ||| y = x + y := by
  rw [Nat.or_comm, nat_join i y x hy hx, Nat.add_comm]
theorem or4 (x0 x1 x2 x3 : Nat) (h0 : x0 < 256) (h1 : x1 < 256) (h2 : x2 < 256) (h3 : x3 < 256) :
    bits .or .u32 (bits .or .u32 (bits .or .u32 (bits .or .u32 0 ((x0 : Int) % 4294967296)) ((x1 : Int) % 4294967296 * 256 % 4294967296)) ((x2 : Int) % 4294967296 * 65536 % 4294967296)) ((x3 : Int) % 4294967296 * 16777216 % 4294967296)
      = ((x0 + 256 * x1 + 65536 * x2 + 16777216 * x3 : Nat) : Int) := by
  have e0 : (x0 : Int) % 4294967296 = ((x0 : Nat) : Int) := by omega
  have e1 : (x1 : Int) % 4294967296 * 256 % 4294967296 = ((256 * x1 : Nat) : Int) := by omega
  have e2 : (x2 : Int) % 4294967296 * 65536 % 4294967296 = ((65536 * x2 : Nat) : Int) := by omega
  have e3 : (x3 : Int) % 4294967296 * 16777216 % 4294967296 = ((16777216 * x3 : Nat) : Int) := by omega
  rw [e0, e1, e2, e3, show (0 : Int) = ((0 : Nat) : Int) from rfl, u32_or_nat 0 x0 (by omega) (by omega), Nat.zero_or, u32_or_nat _ _ (by omega) (by omega), or2 8 _ _ (by omega) (by omega),
    u32_or_nat _ _ (by omega) (by omega), or2 16 _ _ (by omega) (by omega), u32_or_nat _ _ (by omega) (by omega), or2 24 _ _ (by omega) (by omega)]
/-- Four bytes as a number, the lowest first. -/
def le4 (s : ByteArray) (a : Nat) : Nat := (s.get! a).toNat + 256 * (s.get! (a + 1)).toNat + 65536 * (s.get! (a + 2)).toNat + 16777216 * (s.get! (a + 3)).toNat
def le8 (s : ByteArray) (a : Nat) : Nat := le4 s a + 4294967296 * le4 s (a + 4)
theorem u8lt (x : UInt8) : x.toNat < 256 := x.toNat_lt
theorem le4_lt (s : ByteArray) (a : Nat) : le4 s a < 4294967296 := by
  unfold le4
  have := u8lt (s.get! a); have := u8lt (s.get! (a + 1)); have := u8lt (s.get! (a + 2)); have := u8lt (s.get! (a + 3))
  omega
theorem get_bang (s : ByteArray) (i : Nat) (h : i < s.size) : s[i] = s.get! i := by
  simp [ByteArray.get!, ByteArray.getElem_eq_getElem_data, h]
theorem u64_nat (n : Nat) (h : n < 18446744073709551616) : IntKind.u64.wrap (n : Int) = (n : Int) := by
  rw [IntKind.wrap_u64]; omega
theorem hstep (u x : Nat) (hu : u < 72057594037927936) (hx : x < 256) : IntKind.u64.wrap (IntKind.u64.wrap ((u : Int) * 256) + IntKind.u64.wrap (x : Int)) = ((u * 256 + x : Nat) : Int) := by
  simp only [IntKind.wrap_u64]; omega
theorem h8 (x0 x1 x2 x3 x4 x5 x6 x7 : Nat) (h0 : x0 < 256) (h1 : x1 < 256) (h2 : x2 < 256) (h3 : x3 < 256) (h4 : x4 < 256) (h5 : x5 < 256) (h6 : x6 < 256) (h7 : x7 < 256) :
    IntKind.u64.wrap (IntKind.u64.wrap (IntKind.u64.wrap (IntKind.u64.wrap (IntKind.u64.wrap (IntKind.u64.wrap (IntKind.u64.wrap (IntKind.u64.wrap (IntKind.u64.wrap (IntKind.u64.wrap (IntKind.u64.wrap (IntKind.u64.wrap
      (IntKind.u64.wrap (IntKind.u64.wrap (IntKind.u64.wrap (IntKind.u64.wrap (x7 : Int)) * 256) + IntKind.u64.wrap (x6 : Int)) * 256) + IntKind.u64.wrap (x5 : Int)) * 256) + IntKind.u64.wrap (x4 : Int)) * 256)
      + IntKind.u64.wrap (x3 : Int)) * 256) + IntKind.u64.wrap (x2 : Int)) * 256) + IntKind.u64.wrap (x1 : Int)) * 256) + IntKind.u64.wrap (x0 : Int))
    = ((x0 + 256 * x1 + 65536 * x2 + 16777216 * x3 + 4294967296 * (x4 + 256 * x5 + 65536 * x6 + 16777216 * x7) : Nat) : Int) := by
  rw [u64_nat x7 (by omega), u64_nat x7 (by omega), hstep _ _ (by omega) h6, hstep _ _ (by omega) h5, hstep _ _ (by omega) h4, hstep _ _ (by omega) h3, hstep _ _ (by omega) h2, hstep _ _ (by omega) h1, hstep _ _ (by omega) h0]
  congr 1; omega
set_option maxHeartbeats 400000 in
theorem wordAt_any (s : ByteArray) (a : Nat) (h : a + 4 ≤ s.size) (hs : s.size ≤ maxLen) (w : World) :
    Calls Tryz.prog 100 #[.string s, .int .i64 a] w fun e w' => e = .returned (.int .u32 (le4 s a)) ∧ w' = w := by
  unfold maxLen at hs
  go_enter Tryz.func100, Tryz.ntmps100
  go_wp2
  go_rounds 5
  go_ret
  refine ⟨ret_int ?_, rfl⟩
  rw [or4 _ _ _ _ (u8lt _) (u8lt _) (u8lt _) (u8lt _)]
  simp only [le4, get_bang]
theorem wordAt_int (s : ByteArray) (z : Int) (h0 : 0 ≤ z) (h : z + 4 ≤ s.size) (hs : s.size ≤ maxLen) (w : World) :
    Calls Tryz.prog 100 #[.string s, .int .i64 z] w fun e w' => e = .returned (.int .u32 (le4 s z.toNat)) ∧ w' = w := by
  obtain ⟨a, rfl⟩ := Int.eq_ofNat_of_zero_le h0
  exact wordAt_any s a (by omega) hs w
theorem or64 (s : ByteArray) (a : Nat) (hl : le4 s a < 4294967296) (hl2 : le4 s (a + 4) < 4294967296) : bits BinOp.or IntKind.u64 ((le4 s (a + 4) : Int) * 4294967296) (le4 s a : Int) = ((le8 s a : Nat) : Int) := by
  unfold le8
  generalize le4 s a = x at *
  generalize le4 s (a + 4) = y at *
  rw [show (y : Int) * 4294967296 = ((y * 4294967296 : Nat) : Int) from by omega, u64_or_nat _ _ (by omega) (by omega), nat_join 32 _ _ (by omega) (by omega)]
  congr 1; omega
set_option maxHeartbeats 400000 in
theorem implGetInt_yes (s : ByteArray) (a : Nat) (h : a + 8 ≤ s.size) (hs : s.size ≤ maxLen) (w : World) :
    Calls Tryz.prog 101 #[.string s, .int .i64 a] w fun e w' => e = .returned (.tuple #[.int .i64 (wrap64 (le8 s a)), .int .i64 (a + 8), .bool true]) ∧ w' = w := by
  have hs' := hs
  unfold maxLen at hs
  have hl := le4_lt s a
  have hl2 := le4_lt s (a + 4)
  go_enter Tryz.func101, Tryz.ntmps101
  go_wp2_with fail
  refine (wordAt_int s _ (by omega) (by omega) hs' _).mono ?_
  rintro e w' ⟨rfl, rfl⟩
  go_wp2_with fail
  refine (wordAt_int s _ (by omega) (by omega) hs' _).mono ?_
  rintro e w' ⟨rfl, rfl⟩
  rw [show ((a : Int) + 4).toNat = a + 4 from by omega]
  go_wp2_with fail
  go_ret3
  refine ⟨ret_iib ?_ rfl, rfl⟩
  rw [or64 _ _ hl hl2]
/-- Nothing is read: at is below 0, or there are fewer than eight bytes from there on. -/
def noInt (s : ByteArray) (z : Int) : Prop := z < 0 ∨ (s.size : Int) < z ∨ (s.size : Int) - z < 8
set_option maxHeartbeats 400000 in
theorem implGetInt_no (s : ByteArray) (z : Int) (hz : -9223372036854775808 ≤ z) (hn : noInt s z) (hs : s.size ≤ maxLen) (w : World) :
    Calls Tryz.prog 101 #[.string s, .int .i64 z] w fun e w' => e = .returned (.tuple #[.int .i64 0, .int .i64 0, .bool false]) ∧ w' = w := by
  unfold maxLen at hs
  unfold noInt at hn
  by_cases h1 : z < 0
  · go_enter Tryz.func101, Tryz.ntmps101
    go_wp2
    go_ret3
    exact ⟨rfl, rfl⟩
  · by_cases h2 : (s.size : Int) < z
    · go_enter Tryz.func101, Tryz.ntmps101
      go_wp2
      go_ret3
      exact ⟨rfl, rfl⟩
    · have h3 : (s.size : Int) - z < 8 := by omega
      go_enter Tryz.func101, Tryz.ntmps101
      go_wp2
      go_ret3
      exact ⟨rfl, rfl⟩
/-- what GetInt answers at the beginning of a text. -/
def gi0 (t : ByteArray) : Int := if 8 ≤ t.size then wrap64 (le8 t 0) else 0
theorem impl_gi (t : ByteArray) (ht : t.size ≤ 2000000000) : ∃ (q : Int) (b : Bool), ∀ w, Calls Tryz.prog 101 #[.string t, .int .i64 0] w fun e w' => e = .returned (.tuple #[.int .i64 (gi0 t), .int .i64 q, .bool b]) ∧ Below w.heap.size w w' := by
  have hm : t.size ≤ maxLen := by unfold maxLen; omega
  by_cases h : 8 ≤ t.size
  · refine ⟨((0 : Nat) : Int) + 8, true, fun w => (implGetInt_yes t 0 (by omega) hm w).mono fun e w' ⟨he, hw⟩ => ?_⟩
    subst hw
    rw [he, gi0, if_pos h]
    exact ⟨rfl, Below.refl _ _⟩
  · refine ⟨0, false, fun w => (implGetInt_no t 0 (by decide) (.inr (.inr (by omega))) hm w).mono fun e w' ⟨he, hw⟩ => ?_⟩
    subst hw
    rw [he, gi0, if_neg h]
    exact ⟨rfl, Below.refl _ _⟩
end Go.Proofs.YtebjplogpngeaaaGreatDoor

import Derived.Test.YtebjplogpngeaaaGreatDoorRows
import Derived.WalkKit
import Derived.ProofKit
import Derived.Handy
import Derived.OpenShut
import Derived.WalkLawsBesides
import Derived.WalkSpells
import Derived.Laws.BitsAllLaws
import Derived.Laws.BytesArg
import Derived.Laws.OwnMore
import Derived.Laws.Concat
import Derived.Deep.RegionHeld3
import Derived.Lib.Strings
import Derived.Lib.FrozenHead
import Derived.Lib.ConvBytes
import Derived.Deep.AppendLies
import Derived.Test.YtebjplogpngeaaaGreatDoorGa
namespace Go.Proofs.YtebjplogpngeaaaGreatDoor.WPut
open Go.RowKit
set_option linter.unusedVariables false
/-- The bytes of a number, the lowest first. -/
def leL : Nat → Int → List Int
  | 0, _ => []
  | k + 1, n => n % 256 :: leL k (n / 256)
theorem conv_one (w : World) (n : Int) : (convert 22 9 (.slice (some ⟨w.heap.size, 0, none⟩) 1 1)).run Tryz.prog (w.alloc (.cells #[.int .u8 n] 5)) = .ok (.string (strOfNums [n])) (w.alloc (.cells #[.int .u8 n] 5)) := by
  refine run_convert_bytes_arg _ 22 5 Tryz.underlying22 Tryz.underlying5 _ 0 1 1 [n] rfl (fun i hi => ?_) 9 Tryz.underlying9
  obtain rfl : i = 0 := by omega
  simp [go_sem]
/-- A row of bytes that the call owns, as a string. -/
theorem conv_own {w : World} {base : Nat} {v : Value} {xs : List Int} (h : w.ownsRow base 5 1 v xs.length (xs.map (Value.int .u8))) : (convert 22 9 v).run Tryz.prog w = .ok (.string (strOfNums xs)) w := by
  rcases h.2 with ⟨rfl, h0⟩ | ⟨g, cap, cur, rfl, _⟩
  · obtain rfl := List.length_eq_zero_iff.1 h0
    exact run_convert_bytes_nil w 22 5 Tryz.underlying22 Tryz.underlying5 0 0 9 Tryz.underlying9
  · refine run_convert_bytes_arg w 22 5 Tryz.underlying22 Tryz.underlying5 g 0 xs.length cap xs rfl (fun i hi => ?_) 9 Tryz.underlying9
    rw [Nat.zero_add, h.cellAt i (by omega)]
    simp [hi]
theorem conv_four (w : World) (b : Nat) (x0 x1 x2 x3 : Int) (h0 : w.cell? ⟨b, 0, none⟩ = some (.int .u8 x0)) (h1 : w.cell? ⟨b, 1, none⟩ = some (.int .u8 x1)) (h2 : w.cell? ⟨b, 2, none⟩ = some (.int .u8 x2)) (h3 : w.cell? ⟨b, 3, none⟩ = some (.int .u8 x3)) :
    (convert 22 9 (.slice (some ⟨b, 0, none⟩) 4 4)).run Tryz.prog w = .ok (.string (strOfNums [x0, x1, x2, x3])) w := by
  refine run_convert_bytes_arg _ 22 5 Tryz.underlying22 Tryz.underlying5 _ 0 4 4 [x0, x1, x2, x3] rfl (fun i hi => ?_) 9 Tryz.underlying9
  match i, hi with
  | 0, _ => simpa using h0
  | 1, _ => simpa using h1
  | 2, _ => simpa using h2
  | 3, _ => simpa using h3
set_option maxRecDepth 100000 in
set_option maxHeartbeats 400000 in
theorem l1Byte_any (n : Int) (w : World) (h0 : 0 ≤ n) (h1 : n ≤ 255) :
    Calls Tryz.prog 84 #[.int .i64 n] w fun e w' => e = .returned (.string (strOfNums [n])) ∧ Below w.heap.size w w' := by
  have hcv := conv_one w n
  go_enter Tryz.func84, Tryz.ntmps84
  go_wp2
  go_ret
  exact ⟨rfl, by go_grown⟩
theorem ret_str {a b : ByteArray} (h : a = b) : Ending.returned (.string a) = .returned (.string b) := by rw [h]
/-- Byte number k of a number. -/
def byt (k : Nat) (z : Int) : Int := z / 256 ^ k % 256
set_option maxRecDepth 100000 in
set_option maxHeartbeats 400000 in
theorem wordBytes_any (z : Int) (w : World) (h0 : 0 ≤ z) (h1 : z ≤ 4294967295) :
    Calls Tryz.prog 70 #[.int .u32 z] w fun e w' => e = .returned (.agg #[.int .u8 (byt 0 z), .int .u8 (byt 1 z), .int .u8 (byt 2 z), .int .u8 (byt 3 z)]) ∧
      w' = (w.alloc (.cells #[.int .u8 (byt 0 z), .int .u8 (byt 1 z), .int .u8 (byt 2 z), .int .u8 (byt 3 z)] 130)).alloc (.cells #[.int .u8 (byt 0 z), .int .u8 (byt 1 z), .int .u8 (byt 2 z), .int .u8 (byt 3 z)] 130) := by
  have e0 : byt 0 z = z % 256 := by simp [byt]
  have e1 : byt 1 z = z / 256 % 256 := by simp [byt]
  have e2 : byt 2 z = z / 65536 % 256 := by simp [byt]
  have e3 : byt 3 z = z / 16777216 := by simp [byt]; omega
  rw [e0, e1, e2, e3]
  clear e0 e1 e2 e3
  obtain ⟨x, rfl⟩ := Int.eq_ofNat_of_zero_le h0
  go_enter Tryz.func70, Tryz.ntmps70
  go_wp2
  go_rounds 5
  exact bodyPost_ret (v := .agg #[.int .u8 (x % 256), .int .u8 (x / 256 % 256), .int .u8 (x / 65536 % 256), .int .u8 (x / 16777216)]) (by simp [results, Tryz.results70, go_sem]) rfl ⟨rfl, rfl⟩
theorem bytes_join (z : Int) : strOfNums [byt 0 (z % 4294967296), byt 1 (z % 4294967296), byt 2 (z % 4294967296), byt 3 (z % 4294967296)] ++ strOfNums [byt 0 (z / 4294967296 % 4294967296), byt 1 (z / 4294967296 % 4294967296), byt 2 (z / 4294967296 % 4294967296), byt 3 (z / 4294967296 % 4294967296)] = strOfNums (leL 8 (z % 18446744073709551616)) := by
  have e : [byt 0 (z % 4294967296), byt 1 (z % 4294967296), byt 2 (z % 4294967296), byt 3 (z % 4294967296)] ++ [byt 0 (z / 4294967296 % 4294967296), byt 1 (z / 4294967296 % 4294967296), byt 2 (z / 4294967296 % 4294967296), byt 3 (z / 4294967296 % 4294967296)] = leL 8 (z % 18446744073709551616) := by
    simp only [leL, byt, List.cons_append, List.nil_append, List.cons.injEq, and_true]
    omega
  rw [← e]
  exact ByteArray.mk_append_mk _ _
set_option maxRecDepth 100000 in
set_option maxHeartbeats 400000 in
theorem implPutInt (z : Int) (w : World) (h0 : -9223372036854775808 ≤ z) (h1 : z ≤ 9223372036854775807) :
    Calls Tryz.prog 72 #[.int .i64 z] w fun e w' => e = .returned (.string (strOfNums (leL 8 (z % 18446744073709551616)))) ∧ Below w.heap.size w w' := by
  have k1 := conv_four ((((((w.alloc (.cells #[.int .u8 (byt 0 (z % 4294967296)), .int .u8 (byt 1 (z % 4294967296)), .int .u8 (byt 2 (z % 4294967296)), .int .u8 (byt 3 (z % 4294967296))] 130)).alloc (.cells #[.int .u8 (byt 0 (z % 4294967296)), .int .u8 (byt 1 (z % 4294967296)), .int .u8 (byt 2 (z % 4294967296)), .int .u8 (byt 3 (z % 4294967296))] 130)).alloc (.cells #[.int .u8 (byt 0 (z % 4294967296)), .int .u8 (byt 1 (z % 4294967296)), .int .u8 (byt 2 (z % 4294967296)), .int .u8 (byt 3 (z % 4294967296))] 130)).alloc (.cells #[.int .u8 (byt 0 (z / 4294967296 % 4294967296)), .int .u8 (byt 1 (z / 4294967296 % 4294967296)), .int .u8 (byt 2 (z / 4294967296 % 4294967296)), .int .u8 (byt 3 (z / 4294967296 % 4294967296))] 130)).alloc (.cells #[.int .u8 (byt 0 (z / 4294967296 % 4294967296)), .int .u8 (byt 1 (z / 4294967296 % 4294967296)), .int .u8 (byt 2 (z / 4294967296 % 4294967296)), .int .u8 (byt 3 (z / 4294967296 % 4294967296))] 130)).alloc (.cells #[.int .u8 (byt 0 (z / 4294967296 % 4294967296)), .int .u8 (byt 1 (z / 4294967296 % 4294967296)), .int .u8 (byt 2 (z / 4294967296 % 4294967296)), .int .u8 (byt 3 (z / 4294967296 % 4294967296))] 130)).drew (w.heap.size + 1 + 1) (byt 0 (z % 4294967296)) (byt 1 (z % 4294967296)) (byt 2 (z % 4294967296)) (byt 3 (z % 4294967296)) (by simp [go_sem]) (by simp [go_sem]) (by simp [go_sem]) (by simp [go_sem])
  have k2 := conv_four ((((((w.alloc (.cells #[.int .u8 (byt 0 (z % 4294967296)), .int .u8 (byt 1 (z % 4294967296)), .int .u8 (byt 2 (z % 4294967296)), .int .u8 (byt 3 (z % 4294967296))] 130)).alloc (.cells #[.int .u8 (byt 0 (z % 4294967296)), .int .u8 (byt 1 (z % 4294967296)), .int .u8 (byt 2 (z % 4294967296)), .int .u8 (byt 3 (z % 4294967296))] 130)).alloc (.cells #[.int .u8 (byt 0 (z % 4294967296)), .int .u8 (byt 1 (z % 4294967296)), .int .u8 (byt 2 (z % 4294967296)), .int .u8 (byt 3 (z % 4294967296))] 130)).alloc (.cells #[.int .u8 (byt 0 (z / 4294967296 % 4294967296)), .int .u8 (byt 1 (z / 4294967296 % 4294967296)), .int .u8 (byt 2 (z / 4294967296 % 4294967296)), .int .u8 (byt 3 (z / 4294967296 % 4294967296))] 130)).alloc (.cells #[.int .u8 (byt 0 (z / 4294967296 % 4294967296)), .int .u8 (byt 1 (z / 4294967296 % 4294967296)), .int .u8 (byt 2 (z / 4294967296 % 4294967296)), .int .u8 (byt 3 (z / 4294967296 % 4294967296))] 130)).alloc (.cells #[.int .u8 (byt 0 (z / 4294967296 % 4294967296)), .int .u8 (byt 1 (z / 4294967296 % 4294967296)), .int .u8 (byt 2 (z / 4294967296 % 4294967296)), .int .u8 (byt 3 (z / 4294967296 % 4294967296))] 130)).drew (w.heap.size + 1 + 1 + 1 + 1 + 1) (byt 0 (z / 4294967296 % 4294967296)) (byt 1 (z / 4294967296 % 4294967296)) (byt 2 (z / 4294967296 % 4294967296)) (byt 3 (z / 4294967296 % 4294967296)) (by simp [go_sem]) (by simp [go_sem]) (by simp [go_sem]) (by simp [go_sem])
  have z1 : (strOfNums [byt 0 (z % 4294967296), byt 1 (z % 4294967296), byt 2 (z % 4294967296), byt 3 (z % 4294967296)]).size = 4 := strOfNums_size _
  have z2 : (strOfNums [byt 0 (z / 4294967296 % 4294967296), byt 1 (z / 4294967296 % 4294967296), byt 2 (z / 4294967296 % 4294967296), byt 3 (z / 4294967296 % 4294967296)]).size = 4 := strOfNums_size _
  go_enter Tryz.func72, Tryz.ntmps72
  go_wp2_with fail
  refine (wordBytes_any (z % 4294967296) _ (by omega) (by omega)).mono ?_
  rintro e w' ⟨rfl, rfl⟩
  go_wp2_with fail
  refine (wordBytes_any (z / 4294967296 % 4294967296) _ (by omega) (by omega)).mono ?_
  rintro e w' ⟨rfl, rfl⟩
  go_wp2_with fail
  go_region
  go_wp2_with fail
  go_ret
  refine ⟨?_, by go_grown⟩
  exact ret_str (bytes_join z)
end Go.Proofs.YtebjplogpngeaaaGreatDoor.WPut
namespace Go.Proofs.YtebjplogpngeaaaGreatDoor.WPut
open Go.RowKit
set_option linter.unusedVariables false
theorem info5 : (Tryz.prog.info? 5).map (fun i => (i.zero, i.size, i.bytes)) = some (some (.int .u8 0), 1, 1) := by kernel_rfl
/-- What has been written, and what is still to come. -/
def Put8 (Z : Int) (k : Nat) (m : Int) (xs : List Int) : Prop := xs.length = k ∧ xs ++ leL (8 - k) m = leL 8 Z
theorem Put8.step {Z m : Int} {k : Nat} {xs : List Int} (h : Put8 Z k m xs) (hk : k < 8) : Put8 Z (k + 1) (m / 256) (xs ++ [m % 256]) := by
  obtain ⟨h1, h2⟩ := h
  refine ⟨by simp [h1], ?_⟩
  rw [← h2, show 8 - k = (8 - (k + 1)) + 1 from by omega, leL]
  simp
theorem Put8.done {Z m : Int} {xs : List Int} (h : Put8 Z 8 m xs) : xs = leL 8 Z := by
  obtain ⟨h1, h2⟩ := h
  simpa [leL] using h2
theorem u64_bd (z : Int) : 0 ≤ IntKind.u64.wrap z ∧ IntKind.u64.wrap z ≤ 18446744073709551615 := by
  rw [IntKind.wrap_u64]; omega
end Go.Proofs.YtebjplogpngeaaaGreatDoor.WPut
namespace Go.Proofs.YtebjplogpngeaaaGreatDoor.WPut
open Go.RowKit
set_option linter.unusedVariables false
/-- The bytes of a varint of at most k bytes. -/
def pvL : Nat → Int → List Int
  | 0, _ => []
  | k + 1, n => if n < 128 then [n] else (n % 128 + 128) :: pvL k (n / 128)
theorem pvL_big (k : Nat) (n : Int) (h : 128 ≤ n) : pvL (k + 1) n = (n % 128 + 128) :: pvL k (n / 128) := by
  show (if n < 128 then [n] else _) = _
  rw [if_neg (by omega)]
theorem pvL_small (k : Nat) (n : Int) (h : n < 128) : pvL (k + 1) n = [n] := by
  show (if n < 128 then [n] else _) = _
  rw [if_pos h]
theorem str_cons (x : Int) (xs : List Int) : strOfNums [x] ++ strOfNums xs = strOfNums (x :: xs) := ByteArray.mk_append_mk _ _
theorem pvL_len (k : Nat) : ∀ n, (pvL k n).length ≤ k := by
  induction k with
  | zero => intro n; simp [pvL]
  | succ k ih => intro n; unfold pvL; split <;> simp; exact ih _
/-- What has been written, and what is still to come. -/
def PutV (n : Int) (k : Nat) (m : Int) (xs : List Int) : Prop := xs.length + k = 4 ∧ m < 128 ^ (k + 1) ∧ xs ++ pvL (k + 1) m = pvL 5 n
theorem PutV.lt {n m : Int} {k : Nat} {xs : List Int} (h : PutV n k m xs) (hm : 128 ≤ m) : 0 < k := by
  cases k with
  | zero => have := h.2.1; simp at this; omega
  | succ k => omega
theorem PutV.step {n m : Int} {k : Nat} {xs : List Int} (h : PutV n (k + 1) m xs) (hm : 128 ≤ m) : PutV n k (m / 128) (xs ++ [m % 128 + 128]) := by
  obtain ⟨h1, h2, h3⟩ := h
  refine ⟨by simp; omega, ?_, ?_⟩
  · rw [Int.pow_succ] at h2
    exact Int.ediv_lt_of_lt_mul (by omega) h2
  · rw [← h3, pvL_big _ _ hm]; simp
theorem PutV.done {n m : Int} {k : Nat} {xs : List Int} (h : PutV n k m xs) (hm : m < 128) : xs ++ [m] = pvL 5 n := by
  rw [← h.2.2, pvL_small _ _ hm]
set_option maxRecDepth 100000 in
set_option maxHeartbeats 400000 in
theorem implPutVarint_in (n : Int) (w : World) (h0 : 0 ≤ n) (h1 : n ≤ 16777215) :
    Calls Tryz.prog 69 #[.int .i64 n] w fun e w' => e = .returned (.string (strOfNums (pvL 5 n))) ∧ Below w.heap.size w w' := by
  obtain ⟨i0, hi, hz0, hz1, hz2⟩ := info_parts info5
  go_enter Tryz.func69, Tryz.ntmps69
  go_wp2_with fail
  go_loopw [0, 3] (fun u v wr => ∃ (k : Nat) (m : Int) (xs : List Int), 0 ≤ m ∧ m ≤ 16777215 ∧ u = .int .i64 m ∧ PutV n k m xs ∧ wr.ownsRow w.heap.size 5 1 v xs.length (xs.map (Value.int .u8)) ∧ Below w.heap.size w wr)
    (fun u _ _ => (intOf u).toNat)
  case atStart => exact ⟨4, n, [], h0, h1, rfl, ⟨rfl, by omega, rfl⟩, World.ownsRow_nil _ _ _ _, Below.refl _ _⟩
  case round =>
    obtain ⟨k, m, xs, hm0, hm1, rfl, hp, hown, hbel⟩ := hrel
    have hl : xs.length ≤ 4 := by have := hp.1; omega
    by_cases hlt : 128 ≤ m
    · go_wp2_with (at_builtin; refine wpList_append_own _ rfl (.tmp 12) (.tmp 17) 22 rfl w.heap.size 5 i0 (.int .u8 0) 1 1 Tryz.underlying22 hi hz0 hz1 hz2 rfl (by decide) _ _ _ rfl (hown.alloc _) ⟨wr.heap.size, 0, none⟩ 1 1 [.int .u8 (m % 128 + 128)] rfl rfl ?c1 ?c2 ?c3 ?c4 ?c5 ?_)
      case c1 =>
        intro j u hj
        match j, hj with
        | 0, hj => simp at hj; subst hj; simp [Addr.add]
      case c2 => intro u hu; simp at hu; subst hu; rfl
      case c3 => unfold maxLen; omega
      case c4 => omega
      case c5 => have := hbel.size; simp; omega
      intro v' w1 hown' hgrow _
      have hb1 : Below w.heap.size w w1 := Below.grown (hbel.alloc hbel.size _) hgrow (by have := hbel.size; simp; omega) (fun q hq => (hown.lt q hq).1)
      have hown1 : w1.ownsRow w.heap.size 5 1 v' (xs ++ [m % 128 + 128]).length ((xs ++ [m % 128 + 128]).map (Value.int .u8)) := by simpa using hown'
      obtain ⟨k, rfl⟩ : ∃ j, k = j + 1 := ⟨k - 1, by have := hp.lt hlt; omega⟩
      have hp1 := hp.step hlt
      clear hown' hgrow hown hbel hp
      go_wp2_with fail
      go_roundw
      case rel => exact ⟨k, m / 128, xs ++ [m % 128 + 128], by omega, by omega, rfl, hp1, hown1, hb1⟩
      case measure => simp [intOf]; omega
    · go_wp2_with (at_builtin; refine wpList_append_own _ rfl (.tmp 21) (.tmp 24) 22 rfl w.heap.size 5 i0 (.int .u8 0) 1 1 Tryz.underlying22 hi hz0 hz1 hz2 rfl (by decide) _ _ _ rfl (hown.alloc _) ⟨wr.heap.size, 0, none⟩ 1 1 [.int .u8 m] rfl rfl ?d1 ?d2 ?d3 ?d4 ?d5 ?_)
      case d2 => rfl
      case d3 => unfold maxLen; omega
      case d4 => omega
      case d5 => have := hbel.size; omega
      intro v' w1 hown' hgrow _
      have hb1 : Below w.heap.size w w1 := Below.grown (hbel.alloc hbel.size _) hgrow (by have := hbel.size; simp; omega) (fun q hq => (hown.lt q hq).1)
      have hown1 : w1.ownsRow w.heap.size 5 1 v' (xs ++ [m]).length ((xs ++ [m]).map (Value.int .u8)) := by simpa using hown'
      have hcv : (convert 22 9 v').run Tryz.prog w1 = .ok (.string (strOfNums (xs ++ [m]))) w1 := conv_own hown1
      have hd : Hid (xs ++ [m] = pvL 5 n) := hp.done (by omega)
      clear hown' hgrow hown hbel hp hown1
      go_wp2_with fail
      go_ret
      exact ⟨ret_str (by rw [hd.out]), hb1⟩
set_option maxRecDepth 100000 in
set_option maxHeartbeats 400000 in
theorem implPutVarint_out (n : Int) (w : World) (h : n < 0 ∨ 16777215 < n) :
    Calls Tryz.prog 69 #[.int .i64 n] w fun e w' => e = .returned (.string ByteArray.empty) ∧ Below w.heap.size w w' := by
  by_cases h1 : n < 0
  · clear h
    go_enter Tryz.func69, Tryz.ntmps69
    go_wp2_with fail
    go_ret
    exact ⟨rfl, Below.refl _ _⟩
  · have h2 : 16777215 < n := by omega
    clear h
    go_enter Tryz.func69, Tryz.ntmps69
    go_wp2_with fail
    go_ret
    exact ⟨rfl, Below.refl _ _⟩
/-- What PutVarint answers. -/
def pv (n : Int) : ByteArray := if n < 0 ∨ 16777215 < n then ByteArray.empty else strOfNums (pvL 5 n)
theorem pv_out {n : Int} (h : n < 0 ∨ 16777215 < n) : pv n = ByteArray.empty := if_pos h
theorem pv_in {n : Int} (h : ¬ (n < 0 ∨ 16777215 < n)) : pv n = strOfNums (pvL 5 n) := if_neg h
theorem implPutVarint (n : Int) (w : World) : Calls Tryz.prog 69 #[.int .i64 n] w fun e w' => e = .returned (.string (pv n)) ∧ Below w.heap.size w w' := by
  by_cases h : n < 0 ∨ 16777215 < n
  · rw [pv_out h]; exact implPutVarint_out n w h
  · rw [pv_in h]; exact implPutVarint_in n w (by omega) (by omega)
end Go.Proofs.YtebjplogpngeaaaGreatDoor.WPut
namespace Go.Proofs.YtebjplogpngeaaaGreatDoor.WPut
open Go.RowKit
set_option linter.unusedVariables false
theorem ret_iib {k l : IntKind} {a b a' b' : Int} {c : Bool} (h : a = a') (g : b = b') : Ending.returned (.tuple #[.int k a, .int l b, .bool c]) = .returned (.tuple #[.int k a', .int l b', .bool c]) := by rw [h, g]
theorem implPutVarint_eq (x N : Int) (w : World) (h : x = N) : Calls Tryz.prog 69 #[.int .i64 x] w fun e w' => e = .returned (.string (pv N)) ∧ Below w.heap.size w w' := h ▸ implPutVarint x w
theorem sl_head (r : ByteArray) (n : Nat) (wx : World) (h : (n : Int) ≤ (r.size : Int)) : (Instr.slice 9 (.string r) none (some (.int .i64 n)) none).run Tryz.prog wx = .ok (.string (r.extract 0 n)) wx := by
  have := run_slice_string_h (P := Tryz.prog) (t := 9) wx r Tryz.underlying9 .i64 (n : Int) (by omega) h
  simpa using this
end Go.Proofs.YtebjplogpngeaaaGreatDoor.WPut
namespace Go.Proofs.YtebjplogpngeaaaGreatDoor.WPut
open Go.RowKit
set_option linter.unusedVariables false
/-- The number that a list of bytes says, seven bits a byte. -/
def dec : List Int → Int
  | [] => 0
  | b :: bs => b % 128 + 128 * dec bs
/-- All bytes but the last have 128 added. -/
def proper : List Int → Prop
  | [] => False
  | [m] => 0 ≤ m ∧ m < 128
  | x :: y :: xs => 128 ≤ x ∧ x ≤ 255 ∧ proper (y :: xs)
theorem dec_nonneg : ∀ l : List Int, 0 ≤ dec l
  | [] => by simp [dec]
  | b :: bs => by have := dec_nonneg bs; simp only [dec]; omega
theorem pvL_dec : ∀ (l : List Int) (k : Nat), proper l → l.length ≤ k → (pvL k (dec l)).length = l.length → pvL k (dec l) = l
  | [], k, h, _, _ => h.elim
  | [m], k, h, hk, _ => by
    obtain ⟨j, rfl⟩ : ∃ j, k = j + 1 := ⟨k - 1, by simp at hk; omega⟩
    have e : dec [m] = m := by have := h.1; have := h.2; simp only [dec]; omega
    rw [e, pvL_small _ _ h.2]
  | x :: y :: xs, k, h, hk, hl => by
    obtain ⟨j, rfl⟩ : ∃ j, k = j + 1 := ⟨k - 1, by simp at hk; omega⟩
    obtain ⟨h1, h2, h3⟩ := h
    have hd := dec_nonneg (y :: xs)
    have e : dec (x :: y :: xs) = x % 128 + 128 * dec (y :: xs) := rfl
    by_cases hz : dec (y :: xs) = 0
    · have : dec (x :: y :: xs) < 128 := by rw [e, hz]; omega
      rw [pvL_small _ _ this] at hl
      simp at hl
    · have hb : 128 ≤ dec (x :: y :: xs) := by rw [e]; omega
      have e1 : dec (x :: y :: xs) % 128 + 128 = x := by rw [e]; omega
      have e2 : dec (x :: y :: xs) / 128 = dec (y :: xs) := by rw [e]; omega
      rw [pvL_big _ _ hb, e1, e2] at hl ⊢
      rw [pvL_dec (y :: xs) j h3 (by simp at hk ⊢; omega) (by simpa using hl)]
theorem back_map (l : List UInt8) : (l.map fun c => (c.toNat : Int)).map (fun n => UInt8.ofNat n.toNat) = l := by
  rw [List.map_map]
  conv => rhs; rw [← List.map_id l]
  refine List.map_congr_left fun c _ => ?_
  simp
theorem agree (l : List UInt8) (N : Int) (hp : proper (l.map fun c => (c.toNat : Int))) (h5 : l.length ≤ 5) (hN : dec (l.map fun c => (c.toNat : Int)) = N) :
    ((pv N).size = l.length) ↔ (pv N).data.toList = l := by
  constructor
  · intro hs
    have hl : 0 < l.length := by
      cases l with
      | nil => exact hp.elim
      | cons _ _ => simp
    have hin : ¬ (N < 0 ∨ 16777215 < N) := fun h => by rw [pv_out h] at hs; simp at hs; omega
    rw [pv_in hin] at hs ⊢
    rw [strOfNums_size] at hs
    have e : pvL 5 N = l.map fun c => (c.toNat : Int) := by
      rw [← hN] at hs ⊢
      exact pvL_dec _ 5 hp (by simpa using h5) (by simpa using hs)
    rw [e, strOfNums_data, back_map]
  · intro hs
    have h2 := congrArg List.length hs
    exact (Array.length_toList (xs := (pv N).data)).symm.trans h2
theorem agreeB (r : ByteArray) (n : Nat) (l : List UInt8) (N : Int) (hl : (r.extract 0 n).data.toList = l) (hn : l.length = n) (hp : proper (l.map fun c => (c.toNat : Int))) (h5 : n ≤ 5) (hN : dec (l.map fun c => (c.toNat : Int)) = N) :
    ((pv N).toList == (r.extract 0 n).toList) = (((pv N).size : Int) == n) := by
  have h := agree l N hp (by omega) hN
  rw [ByteArray.toList_eq, ByteArray.toList_eq, hl, Bool.eq_iff_iff, beq_iff_eq, beq_iff_eq, ← h, hn]
  omega
theorem head1 (r : ByteArray) (h : 0 < r.size) : (r.extract 0 1).data.toList = [r[0]] := by
  obtain ⟨⟨l⟩⟩ := r
  match l, h with
  | x0 :: l, _ => rw [Lib.extract_data]; rfl
theorem head2 (r : ByteArray) (h : 1 < r.size) : (r.extract 0 2).data.toList = [r[0], r[1]] := by
  obtain ⟨⟨l⟩⟩ := r
  match l, h with
  | x0 :: x1 :: l, _ => rw [Lib.extract_data]; rfl
  | [x0], h => exact absurd h (by simp [ByteArray.size])
theorem head3 (r : ByteArray) (h : 2 < r.size) : (r.extract 0 3).data.toList = [r[0], r[1], r[2]] := by
  obtain ⟨⟨l⟩⟩ := r
  match l, h with
  | x0 :: x1 :: x2 :: l, _ => rw [Lib.extract_data]; rfl
  | [x0, x1], h => exact absurd h (by simp [ByteArray.size])
  | [x0], h => exact absurd h (by simp [ByteArray.size])
theorem head4 (r : ByteArray) (h : 3 < r.size) : (r.extract 0 4).data.toList = [r[0], r[1], r[2], r[3]] := by
  obtain ⟨⟨l⟩⟩ := r
  match l, h with
  | x0 :: x1 :: x2 :: x3 :: l, _ => rw [Lib.extract_data]; rfl
  | [x0, x1, x2], h => exact absurd h (by simp [ByteArray.size])
  | [x0, x1], h => exact absurd h (by simp [ByteArray.size])
  | [x0], h => exact absurd h (by simp [ByteArray.size])
theorem rest_size (s : ByteArray) (a : Nat) : (s.extract a s.size).size = s.size - a := by simp
theorem rest_get (s : ByteArray) (a j : Nat) (h : j < (s.extract a s.size).size) (h' : a + j < s.size) : (s.extract a s.size)[j] = s[a + j] := by
  simp [ByteArray.getElem_eq_getElem_data]
end Go.Proofs.YtebjplogpngeaaaGreatDoor.WPut
namespace Go.Proofs.YtebjplogpngeaaaGreatDoor
open Go.RowKit Go.Lib
set_option linter.unusedVariables false
set_option linter.unusedSimpArgs false

/-- The slice value v holds the bytes B, in a row of which no cell is frozen. -/
def Buf (w : World) (e : TypeId) (v : Value) (B : ByteArray) : Prop :=
  (v = .slice none 0 0 ∧ B.size = 0) ∨
  ∃ g cap cur fz, v = .slice (some ⟨g, 0, none⟩) B.size cap ∧ w.heap[g]? = some (.cells cur e fz) ∧ (fz.2 = 0 ∨ cur.size ≤ fz.1) ∧ B.size ≤ cap ∧ cap ≤ maxLen ∧ cur.size = cap ∧ cur.toList.take B.size = strCells B

theorem Buf.lt {w : World} {e : TypeId} {v : Value} {B : ByteArray} (h : Buf w e v B) : ∀ k, v.ownBlock = some k → k < w.heap.size := by
  intro k hk
  rcases h with ⟨rfl, _⟩ | ⟨g, cap, cur, fz, rfl, hg, _⟩
  · simp [Value.ownBlock] at hk
  · simp [Value.ownBlock] at hk
    subst hk
    exact (Array.getElem?_eq_some_iff.1 hg).1
theorem Buf.keep {w w' : World} {e : TypeId} {v : Value} {B : ByteArray} (h : Buf w e v B) (hk : ∀ k, v.ownBlock = some k → w'.heap[k]? = w.heap[k]?) : Buf w' e v B := by
  rcases h with h | ⟨g, cap, cur, fz, rfl, hg, h2⟩
  · exact .inl h
  · exact .inr ⟨g, cap, cur, fz, rfl, (hk g rfl).trans hg, h2⟩
theorem Buf.form {w : World} {e : TypeId} {v : Value} {B : ByteArray} (h : Buf w e v B) : ∃ a cap, v = .slice a B.size cap := by
  rcases h with ⟨rfl, h⟩ | ⟨g, cap, cur, fz, rfl, hg, h2⟩
  · exact ⟨none, 0, by rw [h]⟩
  · exact ⟨_, _, rfl⟩
theorem Buf.cells {w : World} {e : TypeId} {v : Value} {B : ByteArray} (h : Buf w e v B) {g : Nat} (hg : v.ownBlock = some g) : ∀ j u, (strCells B)[j]? = some u → w.cell? ((⟨g, 0, none⟩ : Addr).add j) = some u := by
  intro j u hu
  rcases h with ⟨rfl, _⟩ | ⟨g', cap, cur, fz, rfl, hgg, _, _, _, _, htake⟩
  · simp [Value.ownBlock] at hg
  · simp [Value.ownBlock] at hg
    subst hg
    have hadd : (⟨g', 0, none⟩ : Addr).add j = ⟨g', j, none⟩ := by unfold Addr.add; split <;> simp_all
    rw [hadd, cell_of_row w g' j cur e fz hgg]
    rw [← htake, List.getElem?_take] at hu
    split at hu
    · simpa using hu
    · cases hu

theorem run_storeCells_atN (P : Program) (g o : Nat) (t : TypeId) (fz : Nat × Nat) (N : Nat) (hN : fz.2 = 0 ∨ N ≤ fz.1) : ∀ (vs : List Value) (i : Nat) (cur : Array Value) (w : World), w.heap[g]? = some (.cells cur t fz) → cur.size = N → o + i + vs.length ≤ cur.size → (∀ v ∈ vs, v.oneCell' = true) →
    (storeCells ⟨g, o, none⟩ vs i).run P w = .ok () (w.setRow g (cur.toList.take (o + i) ++ vs ++ cur.toList.drop (o + i + vs.length)).toArray)
  | [], i, cur, w, hg, _, _, _ => by
    simp only [storeCells, List.append_nil, List.length_nil, Nat.add_zero, List.take_append_drop, Array.toArray_toList]
    rw [setRow_self w g cur t fz hg]
    rfl
  | v :: rest, i, cur, w, hg, hfz, hl, h1 => by
    have hi : o + i < cur.size := by simp at hl; omega
    have hadd : (⟨g, o, none⟩ : Addr).add i = ⟨g, o + i, none⟩ := by unfold Addr.add; split <;> simp_all
    have hcell : w.cell? ⟨g, o + i, none⟩ = some cur[o + i] := by simp [World.cell?, hg, hi]
    have hfro : w.frozen? ⟨g, o + i, none⟩ = false := by
      obtain ⟨lo, hi'⟩ := fz
      simp only [World.frozen?, hg, Bool.and_eq_false_iff, decide_eq_false_iff_not]
      simp only at hN
      rcases hN with h | h
      · right; omega
      · left; omega
    have hst : (store ((⟨g, o, none⟩ : Addr).add i) v).run P w = .ok () (w.setRow g (cur.setIfInBounds (o + i) v)) := by
      rw [hadd, run_store P w _ v _ (h1 v (by simp)), hcell]
      simp [hfro, setCell_eq_setRow w g (o + i) cur t fz v hg]
    have ih := run_storeCells_atN P g o t fz N hN rest (i + 1) (cur.setIfInBounds (o + i) v) (w.setRow g (cur.setIfInBounds (o + i) v)) (setRow_heap w g cur _ t _ hg) (by simpa using hfz) (by simp at hl ⊢; omega) (fun x hx => h1 x (by simp [hx]))
    simp only [storeCells, Sem.run_bind, hst, Result.andThen_ok, ih, setRow_setRow]
    congr 3
    have e := list_seg_step cur.toList (o + i) v rest (by simp at hl ⊢; omega)
    simpa [Array.toList_setIfInBounds, Nat.add_assoc] using e

theorem strCells_append (A B : ByteArray) : strCells (A ++ B) = strCells A ++ strCells B := by simp [strCells]
theorem strCells_nums (xs : List Int) (h : ∀ x ∈ xs, 0 ≤ x ∧ x ≤ 255) : strCells (strOfNums xs) = xs.map (Value.int .u8) := by
  simp only [strCells, strOfNums_data, List.map_map]
  refine List.map_congr_left fun x hx => ?_
  have := h x hx
  simp only [Function.comp, UInt8.toNat_ofNat', Value.int.injEq, true_and]
  omega

section
variable {P : Program} (w : World)
theorem run_append_room_strN (t u ty e : TypeId) (i : TypeInfo) (ht : P.underlying t = some (.slice e)) (hu : P.underlying u = some .string) (hi : P.info? e = some i) (hs1 : i.size = 1)
    (g sLen sCap : Nat) (cur : Array Value) (fz : Nat × Nat) (hg : w.heap[g]? = some (.cells cur e fz)) (hfz : fz.2 = 0 ∨ cur.size ≤ fz.1) (s : ByteArray)
    (hroom : sLen + s.size ≤ sCap) (hfit : sLen + s.size ≤ cur.size) :
    (Builtin.append_ #[t, u] ty #[.slice (some ⟨g, 0, none⟩) sLen sCap, .string s]).run P w =
      .ok (.slice (some ⟨g, 0, none⟩) (sLen + s.size) sCap) (w.setRow g (cur.toList.take sLen ++ strCells s ++ cur.toList.drop (sLen + s.size)).toArray) := by
  have hf := run_firstCells_string (P := P) w 1 s
  have hst := run_storeCells_atN P g sLen e fz cur.size hfz (strCells s) 0 cur w hg rfl (by simpa [strCells_length] using hfit) (strCells_oneCell s)
  simp only [Nat.add_zero, strCells_length] at hst
  simp [Builtin.append_, run_underlying ht, run_underlying hu, sizeOf, typeInfo, hi, hs1, Builtin.lenOf, hroom, hf, Addr.add_lit, hst]

/-- appending a string. -/
theorem run_append_buf_str (t u ty e : TypeId) (i : TypeInfo) (ht : P.underlying t = some (.slice e)) (hu : P.underlying u = some .string) (hi : P.info? e = some i) (hz : i.zero = some (.int .u8 0))
    (hsize : i.size = 1) (hby : i.bytes = 1) (v : Value) (B : ByteArray) (hown : Buf w e v B) (s : ByteArray) (hbytes : B.size + s.size ≤ 140737488355328) :
    ∃ v' w', (Builtin.append_ #[t, u] ty #[v, .string s]).run P w = .ok v' w' ∧ Buf w' e v' (B ++ s) ∧ w.grownBy w' v.ownBlock ∧ (v'.ownBlock = v.ownBlock ∨ v'.ownBlock = some w.heap.size) := by
  have h63 : B.size + s.size ≤ maxLen := by simp only [maxLen]; omega
  have hlen : (B ++ s).size = B.size + s.size := by simp
  rcases hown with ⟨rfl, h0⟩ | ⟨g, cap, cur, fz, rfl, hg, hfz, hnc, hcm, hcs, htake⟩
  · have hBn : strCells B = [] := List.eq_nil_of_length_eq_zero (by rw [strCells_length]; exact h0)
    by_cases hm : s.size = 0
    · refine ⟨.slice none 0 0, w, ?_, .inl ⟨rfl, by omega⟩, ⟨rfl, rfl, rfl, Nat.le_refl _, fun _ _ _ => rfl⟩, .inl rfl⟩
      have hf := run_firstCells_string (P := P) w 1 s
      rw [hm] at hf
      simp [Builtin.append_, run_underlying ht, run_underlying hu, sizeOf, typeInfo, hi, hsize, Builtin.lenOf, hm, hf]
    · have hr := run_append_nil_string (P := P) w t u ty e i (.int .u8 0) ht hu hi hz s (by omega) (by omega) (by rw [hby]; omega)
      have e1 : (s.data.map fun b => Value.int .u8 b.toNat) = (strCells s).toArray := by
        apply Array.ext'
        simp [strCells]
      rw [e1] at hr
      have hge := grownCap_ge w s.size 0 e
      have hcm2 : grownCap w s.size 0 e ≤ maxLen := grownCap_le_maxLen w s.size 0 e (by omega)
      refine ⟨_, _, hr, .inr ⟨w.heap.size, _, _, (0, 0), by rw [hlen, h0, Nat.zero_add], heap_alloc_new w.drew _, .inl rfl, by omega, hcm2, ?_, ?_⟩, ⟨rfl, rfl, rfl, by simp, fun k hk _ => heap_alloc_old w.drew _ hk⟩, .inr rfl⟩
      · have hz1 : (Value.int IntKind.u8 0).cells.size = 1 := rfl
        simp only [Array.size_append, List.size_toArray, size_zeroCells, hz1, strCells_length]
        omega
      · simp only [Array.toList_append, strCells_append, hBn, List.nil_append]
        rw [hlen, h0, Nat.zero_add, ← strCells_length]
        exact List.take_left
  · by_cases hroom : B.size + s.size ≤ cap
    · have hr := run_append_room_strN (P := P) w t u ty e i ht hu hi hsize g B.size cap cur fz hg hfz s hroom (by omega)
      refine ⟨_, _, hr, .inr ⟨g, cap, _, fz, by rw [hlen], setRow_heap w g cur _ e _ hg, ?_, by omega, hcm, ?_, ?_⟩, ⟨rfl, rfl, rfl, by simp, fun k _ hk => setRow_other w g k _ (fun e => hk (by simp [Value.ownBlock, e]))⟩, .inl rfl⟩
      · simp only [List.size_toArray, List.length_append, List.length_take, List.length_drop, Array.length_toList, strCells_length]
        omega
      · simp only [List.size_toArray, List.length_append, List.length_take, List.length_drop, Array.length_toList, strCells_length]
        omega
      · rw [htake, strCells_append, hlen, ← strCells_length, ← strCells_length, ← List.length_append]
        exact List.take_left
    · have hr := run_append_grow_string (P := P) w t u ty e i (.int .u8 0) ht hu hi hz ⟨g, 0, none⟩ B.size cap (strCells B) (by rw [hsize, strCells_length]; omega) (Buf.cells (w := w) (e := e) (.inr ⟨g, cap, cur, fz, rfl, hg, hfz, hnc, hcm, hcs, htake⟩) (g := g) rfl) s (by omega) (by omega) (by rw [hby]; exact growslice_fits (by omega) (by omega))
      have hge := grownCap_ge w (B.size + s.size) cap e
      have hcm2 : grownCap w (B.size + s.size) cap e ≤ maxLen := grownCap_le_maxLen w (B.size + s.size) cap e h63
      refine ⟨_, _, hr, .inr ⟨w.heap.size, _, _, (0, 0), by rw [hlen], heap_alloc_new w.drew _, .inl rfl, by omega, hcm2, ?_, ?_⟩, ⟨rfl, rfl, rfl, by simp, fun k hk _ => heap_alloc_old w.drew _ hk⟩, .inr rfl⟩
      · have hz1 : (Value.int IntKind.u8 0).cells.size = 1 := rfl
        simp only [Array.size_append, List.size_toArray, size_zeroCells, hz1, strCells_length]
        omega
      · simp only [Array.toList_append, strCells_append, List.append_assoc]
        rw [← List.append_assoc, hlen, ← strCells_length, ← strCells_length, ← List.length_append]
        exact List.take_left
end
end Go.Proofs.YtebjplogpngeaaaGreatDoor
namespace Go.Proofs.YtebjplogpngeaaaGreatDoor
open Go.RowKit Go.Lib
set_option linter.unusedVariables false
set_option linter.unusedSimpArgs false
section
variable {P : Program} (w : World)
theorem run_append_room_newsN (t ty e : TypeId) (i : TypeInfo) (ht : P.underlying t = some (.slice e)) (hi : P.info? e = some i) (hs1 : i.size = 1)
    (g sLen sCap : Nat) (cur : Array Value) (fz : Nat × Nat) (hg : w.heap[g]? = some (.cells cur e fz)) (hfz : fz.2 = 0 ∨ cur.size ≤ fz.1) (s : ByteArray)
    (ad : Addr) (c : Nat) (hnews : ∀ j u, (strCells s)[j]? = some u → w.cell? (ad.add j) = some u) (hroom : sLen + s.size ≤ sCap) (hfit : sLen + s.size ≤ cur.size) :
    (Builtin.append_ #[t, t] ty #[.slice (some ⟨g, 0, none⟩) sLen sCap, .slice (some ad) s.size c]).run P w =
      .ok (.slice (some ⟨g, 0, none⟩) (sLen + s.size) sCap) (w.setRow g (cur.toList.take sLen ++ strCells s ++ cur.toList.drop (sLen + s.size)).toArray) := by
  have hf := run_firstCells_some (P := P) w i.size s.size ad s.size c (strCells s) (by rw [hs1, strCells_length]; omega) hnews
  have hst := run_storeCells_atN P g sLen e fz cur.size hfz (strCells s) 0 cur w hg rfl (by simpa [strCells_length] using hfit) (strCells_oneCell s)
  simp only [Nat.add_zero, strCells_length] at hst
  rw [hs1] at hf
  simp [Builtin.append_, run_underlying ht, sizeOf, typeInfo, hi, hs1, Builtin.lenOf, hroom, hf, Addr.add_lit, hst]

/-- appending bytes that lie somewhere. -/
theorem run_append_buf_news (t ty e : TypeId) (i : TypeInfo) (ht : P.underlying t = some (.slice e)) (hi : P.info? e = some i) (hz : i.zero = some (.int .u8 0))
    (hsize : i.size = 1) (hby : i.bytes = 1) (v : Value) (B : ByteArray) (hown : Buf w e v B) (s : ByteArray) (ad : Addr) (m c : Nat) (hm : s.size = m) (h0 : 0 < m)
    (hnews : ∀ j u, (strCells s)[j]? = some u → w.cell? (ad.add j) = some u) (hbytes : B.size + s.size ≤ 140737488355328) :
    ∃ v' w', (Builtin.append_ #[t, t] ty #[v, .slice (some ad) m c]).run P w = .ok v' w' ∧ Buf w' e v' (B ++ s) ∧ w.grownBy w' v.ownBlock ∧ (v'.ownBlock = v.ownBlock ∨ v'.ownBlock = some w.heap.size) := by
  subst hm
  have h63 : B.size + s.size ≤ maxLen := by simp only [maxLen]; omega
  have hlen : (B ++ s).size = B.size + s.size := by simp
  have hl : (strCells s).length = s.size * i.size := by rw [hsize, strCells_length]; omega
  rcases hown with ⟨rfl, hB0⟩ | ⟨g, cap, cur, fz, rfl, hg, hfz, hnc, hcm, hcs, htake⟩
  · have hBn : strCells B = [] := List.eq_nil_of_length_eq_zero (by rw [strCells_length]; exact hB0)
    have hr := run_append_nil (P := P) w t ty e i (.int .u8 0) ht hi hz ad s.size c (strCells s) hl hnews h0 (by omega) (by rw [hby]; omega)
    have hge := grownCap_ge w s.size 0 e
    have hcm2 : grownCap w s.size 0 e ≤ maxLen := grownCap_le_maxLen w s.size 0 e (by omega)
    refine ⟨_, _, hr, .inr ⟨w.heap.size, _, _, (0, 0), by rw [hlen, hB0, Nat.zero_add], heap_alloc_new w.drew _, .inl rfl, by omega, hcm2, ?_, ?_⟩, ⟨rfl, rfl, rfl, by simp, fun k hk _ => heap_alloc_old w.drew _ hk⟩, .inr rfl⟩
    · have hz1 : (Value.int IntKind.u8 0).cells.size = 1 := rfl
      simp only [Array.size_append, List.size_toArray, size_zeroCells, hz1, strCells_length]
      omega
    · simp only [Array.toList_append, strCells_append, hBn, List.nil_append]
      rw [hlen, hB0, Nat.zero_add, ← strCells_length]
      exact List.take_left
  · by_cases hroom : B.size + s.size ≤ cap
    · have hr := run_append_room_newsN (P := P) w t ty e i ht hi hsize g B.size cap cur fz hg hfz s ad c hnews hroom (by omega)
      refine ⟨_, _, hr, .inr ⟨g, cap, _, fz, by rw [hlen], setRow_heap w g cur _ e _ hg, ?_, by omega, hcm, ?_, ?_⟩, ⟨rfl, rfl, rfl, by simp, fun k _ hk => setRow_other w g k _ (fun e => hk (by simp [Value.ownBlock, e]))⟩, .inl rfl⟩
      · simp only [List.size_toArray, List.length_append, List.length_take, List.length_drop, Array.length_toList, strCells_length]
        omega
      · simp only [List.size_toArray, List.length_append, List.length_take, List.length_drop, Array.length_toList, strCells_length]
        omega
      · rw [htake, strCells_append, hlen, ← strCells_length, ← strCells_length, ← List.length_append]
        exact List.take_left
    · have hr := run_append_grow (P := P) w t ty e i (.int .u8 0) ht hi hz ⟨g, 0, none⟩ B.size cap (strCells B) (by rw [hsize, strCells_length]; omega) (Buf.cells (w := w) (e := e) (.inr ⟨g, cap, cur, fz, rfl, hg, hfz, hnc, hcm, hcs, htake⟩) (g := g) rfl) ad s.size c (strCells s) hl hnews (by omega) (by omega) (by rw [hby]; exact growslice_fits (by omega) (by omega))
      have hge := grownCap_ge w (B.size + s.size) cap e
      have hcm2 : grownCap w (B.size + s.size) cap e ≤ maxLen := grownCap_le_maxLen w (B.size + s.size) cap e h63
      refine ⟨_, _, hr, .inr ⟨w.heap.size, _, _, (0, 0), by rw [hlen], heap_alloc_new w.drew _, .inl rfl, by omega, hcm2, ?_, ?_⟩, ⟨rfl, rfl, rfl, by simp, fun k hk _ => heap_alloc_old w.drew _ hk⟩, .inr rfl⟩
      · have hz1 : (Value.int IntKind.u8 0).cells.size = 1 := rfl
        simp only [Array.size_append, List.size_toArray, size_zeroCells, hz1, strCells_length]
        omega
      · simp only [Array.toList_append, strCells_append, List.append_assoc]
        rw [← List.append_assoc, hlen, ← strCells_length, ← strCells_length, ← List.length_append]
        exact List.take_left

theorem wp_append_buf_str {o : Oper} {a : Act} {K : Act → World → Prop} {Q : Exit → Act → World → Prop} (sl x : Operand) (t u : TypeId)
    (ho : o.op = .call { callee := .builtin .append, args := #[sl, x], argTypes := #[t, u] })
    (e : TypeId) (i : TypeInfo) (ht : P.underlying t = some (.slice e)) (hu : P.underlying u = some .string) (hi : P.info? e = some i) (hz : i.zero = some (.int .u8 0))
    (hsize : i.size = 1) (hby : i.bytes = 1) (v : Value) (B : ByteArray) (hs : a.eval sl = v) (hown : Buf w e v B) (s : ByteArray) (hx : a.eval x = .string s) (hbytes : B.size + s.size ≤ 140737488355328)
    (h : ∀ v' w', Buf w' e v' (B ++ s) → w.grownBy w' v.ownBlock → (v'.ownBlock = v.ownBlock ∨ v'.ownBlock = some w.heap.size) → K (a.put o.dst v') w') : o.wp P a w K Q := by
  obtain ⟨v', w', hr, h2, h3, h4⟩ := run_append_buf_str (P := P) w t u o.type e i ht hu hi hz hsize hby v B hown s hbytes
  unfold Oper.wp execOp
  simp only [ho, resolve, invoke, builtin, Sem.run_bind, Sem.run_pure, Result.andThen_ok, List.map_toArray, List.map_cons, List.map_nil, hs, hx, hr]
  exact h v' w' h2 h3 h4
theorem wpList_append_buf_str {ops : Array Oper} {rest : List Oper} {o : Oper} {a : Act} {Q : Exit → Act → World → Prop} (hgd : o.guard = none) (sl x : Operand) (t u : TypeId)
    (ho : o.op = .call { callee := .builtin .append, args := #[sl, x], argTypes := #[t, u] })
    (e : TypeId) (i : TypeInfo) (ht : P.underlying t = some (.slice e)) (hu : P.underlying u = some .string) (hi : P.info? e = some i) (hz : i.zero = some (.int .u8 0))
    (hsize : i.size = 1) (hby : i.bytes = 1) (v : Value) (B : ByteArray) (hs : a.eval sl = v) (hown : Buf w e v B) (s : ByteArray) (hx : a.eval x = .string s) (hbytes : B.size + s.size ≤ 140737488355328)
    (h : ∀ v' w', Buf w' e v' (B ++ s) → w.grownBy w' v.ownBlock → (v'.ownBlock = v.ownBlock ∨ v'.ownBlock = some w.heap.size) → wpList P ops Q rest (a.put o.dst v') w') : wpList P ops Q (o :: rest) a w :=
  wpList_plain hgd fun K hK => wp_append_buf_str w sl x t u ho e i ht hu hi hz hsize hby v B hs hown s hx hbytes fun v' w' h1 h2 h3 => hK _ _ (h v' w' h1 h2 h3)
theorem step_append_buf_str {ops : Array Oper} {o : Oper} {a : Act} {K : Act → World → Prop} {Q : Exit → Act → World → Prop} {E : Prop} (hgd : o.guard = none) (sl x : Operand) (t u : TypeId)
    (ho : o.op = .call { callee := .builtin .append, args := #[sl, x], argTypes := #[t, u] })
    (e : TypeId) (i : TypeInfo) (ht : P.underlying t = some (.slice e)) (hu : P.underlying u = some .string) (hi : P.info? e = some i) (hz : i.zero = some (.int .u8 0))
    (hsize : i.size = 1) (hby : i.bytes = 1) (v : Value) (B : ByteArray) (hs : a.eval sl = v) (hown : Buf w e v B) (s : ByteArray) (hx : a.eval x = .string s) (hbytes : B.size + s.size ≤ 140737488355328)
    (h : ∀ v' w', Buf w' e v' (B ++ s) → w.grownBy w' v.ownBlock → (v'.ownBlock = v.ownBlock ∨ v'.ownBlock = some w.heap.size) → K (a.put o.dst v') w') :
    if Region.wanted o (yielded ops a.tmps) = true then Oper.wp P o a w K Q else E := by
  have hw : Region.wanted o (yielded ops a.tmps) = true := by simp [Region.wanted, hgd]
  rw [if_pos hw]
  exact wp_append_buf_str w sl x t u ho e i ht hu hi hz hsize hby v B hs hown s hx hbytes h

theorem wp_append_buf_news {o : Oper} {a : Act} {K : Act → World → Prop} {Q : Exit → Act → World → Prop} (sl x : Operand) (t : TypeId)
    (ho : o.op = .call { callee := .builtin .append, args := #[sl, x], argTypes := #[t, t] })
    (e : TypeId) (i : TypeInfo) (ht : P.underlying t = some (.slice e)) (hi : P.info? e = some i) (hz : i.zero = some (.int .u8 0))
    (hsize : i.size = 1) (hby : i.bytes = 1) (v : Value) (B : ByteArray) (hs : a.eval sl = v) (hown : Buf w e v B) (s : ByteArray) (ad : Addr) (m c : Nat) (hx : a.eval x = .slice (some ad) m c) (hm : s.size = m) (h0 : 0 < m)
    (hnews : ∀ j u, (strCells s)[j]? = some u → w.cell? (ad.add j) = some u) (hbytes : B.size + s.size ≤ 140737488355328)
    (h : ∀ v' w', Buf w' e v' (B ++ s) → w.grownBy w' v.ownBlock → (v'.ownBlock = v.ownBlock ∨ v'.ownBlock = some w.heap.size) → K (a.put o.dst v') w') : o.wp P a w K Q := by
  obtain ⟨v', w', hr, h2, h3, h4⟩ := run_append_buf_news (P := P) w t o.type e i ht hi hz hsize hby v B hown s ad m c hm h0 hnews hbytes
  unfold Oper.wp execOp
  simp only [ho, resolve, invoke, builtin, Sem.run_bind, Sem.run_pure, Result.andThen_ok, List.map_toArray, List.map_cons, List.map_nil, hs, hx, hr]
  exact h v' w' h2 h3 h4
theorem wpList_append_buf_news {ops : Array Oper} {rest : List Oper} {o : Oper} {a : Act} {Q : Exit → Act → World → Prop} (hgd : o.guard = none) (sl x : Operand) (t : TypeId)
    (ho : o.op = .call { callee := .builtin .append, args := #[sl, x], argTypes := #[t, t] })
    (e : TypeId) (i : TypeInfo) (ht : P.underlying t = some (.slice e)) (hi : P.info? e = some i) (hz : i.zero = some (.int .u8 0))
    (hsize : i.size = 1) (hby : i.bytes = 1) (v : Value) (B : ByteArray) (hs : a.eval sl = v) (hown : Buf w e v B) (s : ByteArray) (ad : Addr) (m c : Nat) (hx : a.eval x = .slice (some ad) m c) (hm : s.size = m) (h0 : 0 < m)
    (hnews : ∀ j u, (strCells s)[j]? = some u → w.cell? (ad.add j) = some u) (hbytes : B.size + s.size ≤ 140737488355328)
    (h : ∀ v' w', Buf w' e v' (B ++ s) → w.grownBy w' v.ownBlock → (v'.ownBlock = v.ownBlock ∨ v'.ownBlock = some w.heap.size) → wpList P ops Q rest (a.put o.dst v') w') : wpList P ops Q (o :: rest) a w :=
  wpList_plain hgd fun K hK => wp_append_buf_news w sl x t ho e i ht hi hz hsize hby v B hs hown s ad m c hx hm h0 hnews hbytes fun v' w' h1 h2 h3 => hK _ _ (h v' w' h1 h2 h3)
theorem step_append_buf_news {ops : Array Oper} {o : Oper} {a : Act} {K : Act → World → Prop} {Q : Exit → Act → World → Prop} {E : Prop} (hgd : o.guard = none) (sl x : Operand) (t : TypeId)
    (ho : o.op = .call { callee := .builtin .append, args := #[sl, x], argTypes := #[t, t] })
    (e : TypeId) (i : TypeInfo) (ht : P.underlying t = some (.slice e)) (hi : P.info? e = some i) (hz : i.zero = some (.int .u8 0))
    (hsize : i.size = 1) (hby : i.bytes = 1) (v : Value) (B : ByteArray) (hs : a.eval sl = v) (hown : Buf w e v B) (s : ByteArray) (ad : Addr) (m c : Nat) (hx : a.eval x = .slice (some ad) m c) (hm : s.size = m) (h0 : 0 < m)
    (hnews : ∀ j u, (strCells s)[j]? = some u → w.cell? (ad.add j) = some u) (hbytes : B.size + s.size ≤ 140737488355328)
    (h : ∀ v' w', Buf w' e v' (B ++ s) → w.grownBy w' v.ownBlock → (v'.ownBlock = v.ownBlock ∨ v'.ownBlock = some w.heap.size) → K (a.put o.dst v') w') :
    if Region.wanted o (yielded ops a.tmps) = true then Oper.wp P o a w K Q else E := by
  have hw : Region.wanted o (yielded ops a.tmps) = true := by simp [Region.wanted, hgd]
  rw [if_pos hw]
  exact wp_append_buf_news w sl x t ho e i ht hi hz hsize hby v B hs hown s ad m c hx hm h0 hnews hbytes h
end

theorem add_zero_lit (g i : Nat) : (⟨g, 0, none⟩ : Addr).add i = ⟨g, i, none⟩ := by unfold Addr.add; split <;> simp_all
/-- bytes as a string. -/
theorem conv_buf {P : Program} {w : World} {v : Value} {B : ByteArray} (src dst e : TypeId) (hs : P.underlying src = some (.slice e)) (he : P.underlying e = some (.int .u8)) (hd : P.underlying dst = some .string) (h : Buf w e v B) :
    (convert src dst v).run P w = .ok (.string B) w := by
  have hB : B = strOfNums (B.data.toList.map fun b => (b.toNat : Int)) := by
    apply ByteArray.ext
    apply Array.ext'
    rw [strOfNums_data, List.map_map]
    conv => lhs; rw [← List.map_id B.data.toList]
    refine List.map_congr_left fun x _ => ?_
    simp
  rcases h with ⟨rfl, h0⟩ | ⟨g, cap, cur, fz, rfl, hg, hfz, hnc, hcm, hcs, htake⟩
  · have : B = ByteArray.empty := by
      apply ByteArray.ext
      apply Array.ext'
      exact List.eq_nil_of_length_eq_zero (by simpa using h0)
    rw [this]
    exact run_convert_bytes_nil w src e hs he 0 0 dst hd
  · have hc : ∀ j u, (strCells B)[j]? = some u → w.cell? ((⟨g, 0, none⟩ : Addr).add j) = some u := Buf.cells (w := w) (e := e) (.inr ⟨g, cap, cur, fz, rfl, hg, hfz, hnc, hcm, hcs, htake⟩) (g := g) rfl
    conv => rhs; rw [hB]
    refine run_convert_bytes_arg w src e hs he g 0 B.size cap _ (by simp) (fun i hi => ?_) dst hd
    have hi' : i < (B.data.toList.map fun b => (b.toNat : Int)).length := by rw [List.length_map]; exact hi
    have hadd := add_zero_lit g i
    have := hc i (.int .u8 ((B.data.toList.map fun b => (b.toNat : Int))[i]'hi')) (by
      simp only [strCells, List.getElem?_map, List.getElem_map]
      have h3 : i < B.data.toList.length := by simpa using hi
      rw [List.getElem?_eq_getElem h3]
      rfl)
    rw [hadd] at this
    rw [Nat.zero_add, this, List.getD_eq_getElem?_getD, List.getElem?_eq_getElem hi']
    rfl
theorem buf_made (w : World) (e : TypeId) : Buf (w.alloc (.cells #[] e)) e (.slice (some ⟨w.heap.size, 0, none⟩) 0 0) ByteArray.empty :=
  .inr ⟨w.heap.size, 0, #[], (0, 0), rfl, heap_alloc_new w _, .inl rfl, Nat.le_refl _, by simp [maxLen], rfl, rfl⟩
theorem buf_conv (w : World) (e : TypeId) (s : ByteArray) (hs : s.size ≤ maxLen) : Buf (bytesWorld w e s) e (.slice (some ⟨w.heap.size, 0, none⟩) s.size (grownCap w s.size 0 e)) s := by
  have hge := grownCap_ge w s.size 0 e
  have hz : (bytesCells w e s).size = grownCap w s.size 0 e := by
    have : s.data.size = s.size := rfl
    simp only [bytesCells, Array.size_append, Array.size_map, Array.size_replicate]
    omega
  refine .inr ⟨w.heap.size, _, _, _, rfl, bytesWorld_at_new w e s, .inr (Nat.le_refl _), hge, grownCap_le_maxLen w s.size 0 e hs, hz, ?_⟩
  have e1 : (bytesCells w e s).toList = strCells s ++ List.replicate (grownCap w s.size 0 e - s.size) (.int .u8 0) := by
    simp [bytesCells, strCells]
  rw [e1, ← strCells_length]
  exact List.take_left

/-- What writing leaves: all but P's blocks and the row of v. -/
structure Fr (P : Nat → Prop) (w : World) (v : Value) (w' : World) (v' : Value) : Prop where
  os : w'.os = w.os
  tape : w'.tape = w.tape
  output : w'.output = w.output
  size : w.heap.size ≤ w'.heap.size
  block : ∀ k, k < w.heap.size → ¬ P k → v.ownBlock ≠ some k → w'.heap[k]? = w.heap[k]?
  own : v'.ownBlock = v.ownBlock ∨ ∀ g, v'.ownBlock = some g → w.heap.size ≤ g
theorem Fr.refl (P : Nat → Prop) (w : World) (v : Value) : Fr P w v w v := ⟨rfl, rfl, rfl, Nat.le_refl _, fun _ _ _ _ => rfl, .inl rfl⟩
theorem Fr.trans {P : Nat → Prop} {a b c : World} {u v x : Value} (h : Fr P a u b v) (k : Fr P b v c x) : Fr P a u c x := by
  refine ⟨k.os.trans h.os, k.tape.trans h.tape, k.output.trans h.output, Nat.le_trans h.size k.size, fun j h1 h2 h3 => ?_, ?_⟩
  · refine (k.block j (Nat.lt_of_lt_of_le h1 h.size) h2 fun e => ?_).trans (h.block j h1 h2 h3)
    rcases h.own with o | o
    · exact h3 (o ▸ e)
    · have := o j e
      omega
  · rcases k.own with o | o
    · rcases h.own with p | p
      · exact .inl (o.trans p)
      · exact .inr fun g e => p g (o ▸ e)
    · exact .inr fun g e => Nat.le_trans h.size (o g e)
theorem Fr.of_grown {w w' : World} {v v' : Value} (P : Nat → Prop) (h : w.grownBy w' v.ownBlock) (o : v'.ownBlock = v.ownBlock ∨ v'.ownBlock = some w.heap.size) : Fr P w v w' v' :=
  ⟨h.os, h.tape, h.output, h.size, fun k h1 _ h3 => h.block k h1 fun e => h3 e.symm, o.imp id fun e g he => by rw [e] at he; exact Nat.le_of_eq (Option.some.inj he)⟩
/-- a call that changes nothing that was there. -/
theorem Fr.of_below {w w' : World} (P : Nat → Prop) (v : Value) (h : Below w.heap.size w w') : Fr P w v w' v :=
  ⟨h.os, h.tape, h.output, h.size, fun k h1 _ _ => h.block k h1, .inl rfl⟩
theorem Fr.below {P : Nat → Prop} {B : Nat} {w w' : World} {v v' : Value} (h : Fr P w v w' v') (hB : B ≤ w.heap.size) (hP : ∀ k, P k → B ≤ k) (hv : ∀ k, v.ownBlock = some k → B ≤ k) : Below B w w' :=
  ⟨h.os, h.tape, h.output, h.size, fun k hk => h.block k (by omega) (fun e => by have := hP k e; omega) (fun e => by have := hv k e; omega)⟩
theorem Fr.mono {P Q : Nat → Prop} {w w' : World} {v v' : Value} (h : Fr P w v w' v') (hPQ : ∀ k, P k → Q k) : Fr Q w v w' v' :=
  ⟨h.os, h.tape, h.output, h.size, fun k h1 h2 h3 => h.block k h1 (fun e => h2 (hPQ k e)) h3, h.own⟩
/-- with new blocks ahead of it. -/
theorem Fr.after {P : Nat → Prop} {a b c : World} {u v : Value} (hb : Below a.heap.size a b) (h : Fr P b u c v) : Fr P a u c v := (Fr.of_below P u hb).trans h
end Go.Proofs.YtebjplogpngeaaaGreatDoor
namespace Go.Proofs.YtebjplogpngeaaaGreatDoor
open Go.RowKit
set_option linter.unusedVariables false
set_option linter.unusedSimpArgs false
/-- pieces one behind the other. -/
def cat (f : Nat → ByteArray) : Nat → ByteArray
  | 0 => ByteArray.empty
  | n + 1 => cat f n ++ f n
theorem cat_succ (f : Nat → ByteArray) (n : Nat) : cat f (n + 1) = cat f n ++ f n := rfl
theorem cat_size {f : Nat → ByteArray} {b : Nat} : ∀ (n : Nat), (∀ i, i < n → (f i).size ≤ b) → (cat f n).size ≤ n * b
  | 0, _ => by simp [cat]
  | n + 1, h => by
    have h1 := cat_size n fun i hi => h i (by omega)
    have h2 := h n (by omega)
    rw [cat_succ, ByteArray.size_append, Nat.add_mul, Nat.one_mul]
    omega
theorem cat_mono (f : Nat → ByteArray) {i : Nat} : ∀ {n : Nat}, i ≤ n → (cat f i).size ≤ (cat f n).size
  | 0, h => by obtain rfl : i = 0 := by omega
               exact Nat.le_refl _
  | n + 1, h => by
    by_cases e : i = n + 1
    · subst e; exact Nat.le_refl _
    · have := cat_mono f (i := i) (n := n) (by omega)
      rw [cat_succ, ByteArray.size_append]
      omega
theorem cat_lt (f : Nat → ByteArray) {i n : Nat} (h : i < n) : (cat f i).size + (f i).size ≤ (cat f n).size := by
  have := cat_mono f (i := i + 1) (n := n) h
  rw [cat_succ, ByteArray.size_append] at this
  exact this
theorem cat_congr {f g : Nat → ByteArray} : ∀ (n : Nat), (∀ i, i < n → f i = g i) → cat f n = cat g n
  | 0, _ => rfl
  | n + 1, h => by rw [cat_succ, cat_succ, cat_congr n fun i hi => h i (by omega), h n (by omega)]
/-- a byte. -/
def by1 (n : Int) : ByteArray := strOfNums [n]
theorem by1_size (n : Int) : (by1 n).size = 1 := strOfNums_size _
def flagB (b : Bool) : ByteArray := by1 (if b then 1 else 0)
theorem flagB_size (b : Bool) : (flagB b).size = 1 := strOfNums_size _
def u4 (n : Int) : ByteArray := strOfNums [n % 256, n / 256 % 256, n / 65536 % 256, n / 16777216 % 256]
theorem u4_size (n : Int) : (u4 n).size = 4 := strOfNums_size _
open WPut in
theorem pv_size (n : Int) : (pv n).size ≤ 5 := by
  unfold pv
  split
  · simp
  · rw [strOfNums_size]; exact pvL_len 5 n
def i8 (z : Int) : ByteArray := strOfNums (WPut.leL 8 (z % 18446744073709551616))
theorem leL_len (k : Nat) : ∀ n, (WPut.leL k n).length = k := by
  induction k with
  | zero => intro n; rfl
  | succ k ih => intro n; simp [WPut.leL, ih]
theorem i8_size (z : Int) : (i8 z).size = 8 := by unfold i8; rw [strOfNums_size, leL_len]
def pvN (n : Nat) : ByteArray := WPut.pv (n : Int)
theorem pvN_size (n : Nat) : (pvN n).size ≤ 5 := pv_size _
def sizedB (s : ByteArray) : ByteArray := pvN s.size ++ s
theorem sizedB_size (s : ByteArray) : (sizedB s).size ≤ 5 + s.size := by
  unfold sizedB
  rw [ByteArray.size_append]
  have := pvN_size s.size
  omega
/-- what stands behind a constant's first byte. -/
def constB (v : VD) : ByteArray :=
  if v.kind = 0 then by1 0 else if v.kind = 1 then by1 (1 + v.num) else if v.kind = 2 then by1 3 ++ i8 v.num else by1 4 ++ sizedB v.text
theorem constB_size (v : VD) (h : v.text.size ≤ 1000) : (constB v).size ≤ 1010 := by
  unfold constB
  have h1 := sizedB_size v.text
  split
  · rw [by1_size]; omega
  · split
    · rw [by1_size]; omega
    · split
      · rw [ByteArray.size_append, by1_size, i8_size]; omega
      · rw [ByteArray.size_append, by1_size]; omega
def upB (u : UD) : ByteArray := flagB u.stack ++ WPut.pv u.index
theorem upB_size (u : UD) : (upB u).size ≤ 6 := by
  have := pv_size u.index
  unfold upB
  rw [ByteArray.size_append, flagB_size]
  omega
def codeB (p : PD) : ByteArray := cat (fun i => u4 (p.code.f i)) p.code.n
def constsB (p : PD) : ByteArray := cat (fun i => constB (p.consts.f i)) p.consts.n
def upsB (p : PD) : ByteArray := cat (fun i => upB (p.ups.f i)) p.ups.n
def linesB (p : PD) : ByteArray := cat (fun i => WPut.pv (p.lines.f i)) p.lines.n
def upNamesB (p : PD) : ByteArray := cat (fun i => sizedB (p.upNames.f i)) p.upNames.n
def Bare (p : PD) : Prop := p.name.size = 0 ∧ p.lines.n = 0 ∧ p.upNames.n = 0
noncomputable def debugB (p : PD) : ByteArray :=
  open Classical in if Bare p then flagB false else flagB true ++ sizedB p.name ++ pvN p.lines.n ++ linesB p ++ pvN p.upNames.n ++ upNamesB p
noncomputable def protoB (p : PD) : ByteArray :=
  flagB p.vararg ++ WPut.pv p.params ++ WPut.pv p.regs ++ pvN p.code.n ++ codeB p ++ pvN p.consts.n ++ constsB p ++ pvN p.ups.n ++ upsB p ++ WPut.pv p.kids ++ debugB p
theorem debugB_bare {p : PD} (h : Bare p) : debugB p = flagB false := if_pos h
theorem debugB_full {p : PD} (h : ¬ Bare p) : debugB p = flagB true ++ sizedB p.name ++ pvN p.lines.n ++ linesB p ++ pvN p.upNames.n ++ upNamesB p := if_neg h
def headB : ByteArray := strOfNums [27, 76, 82, 86, 1, 0]
noncomputable def chunkB (s : Sl PD) : ByteArray := headB ++ cat (fun i => protoB (s.f i)) s.n
end Go.Proofs.YtebjplogpngeaaaGreatDoor

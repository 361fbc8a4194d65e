import Derived.Test.YtnhanccjnhgjoaaGreatDoorRows
import Derived.WalkKit
import Derived.ProofKit
import Derived.Handy
import Derived.OpenShut
import Derived.WalkLawsBesides
import Derived.WalkSpells
import Derived.Laws.BitsAllLaws
import Derived.Laws.BytesArg
import Derived.Laws.OwnMore
import Derived.Laws.Concat
import Derived.Deep.RegionHeld3
import Derived.Lib.Strings
namespace Go.Proofs.YtnhanccjnhgjoaaGreatDoor.WPut
open Go.RowKit
set_option linter.unusedVariables false
set_option maxRecDepth 100000
set_option maxHeartbeats 9000000
def leL : Nat → Int → List Int
 | 0, _ => []
 | k + 1, n => n % 256 :: leL k (n / 256)
theorem conv_one (w : World) (n : Int) : (convert 22 9 (.slice (some ⟨w.heap.size, 0, none⟩) 1 1)).run Tryz.prog (w.alloc (.cells #[.int .u8 n] 5)) = .ok (.string (strOfNums [n])) (w.alloc (.cells #[.int .u8 n] 5)) := by
 refine run_convert_bytes_arg _ 22 5 Tryz.underlying22 Tryz.underlying5 _ 0 1 1 [n] rfl (fun i hi => ?_) 9 Tryz.underlying9;obtain rfl : i = 0 := by omega
 simp [go_sem]
theorem conv_own {w : World} {base : Nat} {v : Value} {xs : List Int} (h : w.ownsRow base 5 1 v xs.length (xs.map (Value.int .u8))) : (convert 22 9 v).run Tryz.prog w = .ok (.string (strOfNums xs)) w := by
 rcases h.2 with ⟨rfl, h0⟩ | ⟨g, cap, cur, rfl, _⟩
 ·obtain rfl := List.length_eq_zero_iff.1 h0;exact run_convert_bytes_nil w 22 5 Tryz.underlying22 Tryz.underlying5 0 0 9 Tryz.underlying9
 ·refine run_convert_bytes_arg w 22 5 Tryz.underlying22 Tryz.underlying5 g 0 xs.length cap xs rfl (fun i hi => ?_) 9 Tryz.underlying9;rw [Nat.zero_add, h.cellAt i (by omega)];simp [hi]
theorem conv_four (w : World) (b : Nat) (x0 x1 x2 x3 : Int) (h0 : w.cell? ⟨b, 0, none⟩ = some (.int .u8 x0)) (h1 : w.cell? ⟨b, 1, none⟩ = some (.int .u8 x1)) (h2 : w.cell? ⟨b, 2, none⟩ = some (.int .u8 x2)) (h3 : w.cell? ⟨b, 3, none⟩ = some (.int .u8 x3)) :
  (convert 22 9 (.slice (some ⟨b, 0, none⟩) 4 4)).run Tryz.prog w = .ok (.string (strOfNums [x0, x1, x2, x3])) w := by
 refine run_convert_bytes_arg _ 22 5 Tryz.underlying22 Tryz.underlying5 _ 0 4 4 [x0, x1, x2, x3] rfl (fun i hi => ?_) 9 Tryz.underlying9
 match i, hi with
 | 0, _ => simpa using h0
 | 1, _ => simpa using h1
 | 2, _ => simpa using h2
 | 3, _ => simpa using h3
theorem l1Byte_any (n : Int) (w : World) (h0 : 0 ≤ n) (h1 : n ≤ 255) :
  Calls Tryz.prog 14 #[.int .i64 n] w fun e w' => e = .returned (.string (strOfNums [n])) ∧ Below w.heap.size w w' := by
 have hcv := conv_one w n;go_enter Tryz.func14, Tryz.ntmps14
 go_wp2
 go_ret;exact ⟨rfl, by go_grown⟩
theorem ret_str {a b : ByteArray} (h : a = b) : Ending.returned (.string a) = .returned (.string b) := by rw [h]
def byt (k : Nat) (z : Int) : Int := z / 256 ^ k % 256
theorem wordBytes_any (z : Int) (w : World) (h0 : 0 ≤ z) (h1 : z ≤ 4294967295) :
  Calls Tryz.prog 93 #[.int .u32 z] w fun e w' => e = .returned (.agg #[.int .u8 (byt 0 z), .int .u8 (byt 1 z), .int .u8 (byt 2 z), .int .u8 (byt 3 z)]) ∧
   w' = (w.alloc (.cells #[.int .u8 (byt 0 z), .int .u8 (byt 1 z), .int .u8 (byt 2 z), .int .u8 (byt 3 z)] 169)).alloc (.cells #[.int .u8 (byt 0 z), .int .u8 (byt 1 z), .int .u8 (byt 2 z), .int .u8 (byt 3 z)] 169) := by
 have e0 : byt 0 z = z % 256 := by simp [byt]
 have e1 : byt 1 z = z / 256 % 256 := by simp [byt]
 have e2 : byt 2 z = z / 65536 % 256 := by simp [byt]
 have e3 : byt 3 z = z / 16777216 := by simp [byt]; omega
 rw [e0, e1, e2, e3];clear e0 e1 e2 e3;obtain ⟨x, rfl⟩ := Int.eq_ofNat_of_zero_le h0;go_enter Tryz.func93, Tryz.ntmps93
 go_wp2
 go_rounds 5
 exact bodyPost_ret (v := .agg #[.int .u8 (x % 256), .int .u8 (x / 256 % 256), .int .u8 (x / 65536 % 256), .int .u8 (x / 16777216)]) (by simp [results, Tryz.results93, go_sem]) rfl ⟨rfl, rfl⟩
theorem bytes_join (z : Int) : strOfNums [byt 0 (z % 4294967296), byt 1 (z % 4294967296), byt 2 (z % 4294967296), byt 3 (z % 4294967296)] ++ strOfNums [byt 0 (z / 4294967296 % 4294967296), byt 1 (z / 4294967296 % 4294967296), byt 2 (z / 4294967296 % 4294967296), byt 3 (z / 4294967296 % 4294967296)] = strOfNums (leL 8 (z % 18446744073709551616)) := by
 have e : [byt 0 (z % 4294967296), byt 1 (z % 4294967296), byt 2 (z % 4294967296), byt 3 (z % 4294967296)] ++ [byt 0 (z / 4294967296 % 4294967296), byt 1 (z / 4294967296 % 4294967296), byt 2 (z / 4294967296 % 4294967296), byt 3 (z / 4294967296 % 4294967296)] = leL 8 (z % 18446744073709551616) := by
  simp only [leL, byt, List.cons_append, List.nil_append, List.cons.injEq, and_true];omega
 rw [← e];exact ByteArray.mk_append_mk _ _
theorem implPutInt (z : Int) (w : World) (h0 : -9223372036854775808 ≤ z) (h1 : z ≤ 9223372036854775807) :
  Calls Tryz.prog 95 #[.int .i64 z] w fun e w' => e = .returned (.string (strOfNums (leL 8 (z % 18446744073709551616)))) ∧ Below w.heap.size w w' := by
 have k1 := conv_four ((((((w.alloc (.cells #[.int .u8 (byt 0 (z % 4294967296)), .int .u8 (byt 1 (z % 4294967296)), .int .u8 (byt 2 (z % 4294967296)), .int .u8 (byt 3 (z % 4294967296))] 169)).alloc (.cells #[.int .u8 (byt 0 (z % 4294967296)), .int .u8 (byt 1 (z % 4294967296)), .int .u8 (byt 2 (z % 4294967296)), .int .u8 (byt 3 (z % 4294967296))] 169)).alloc (.cells #[.int .u8 (byt 0 (z % 4294967296)), .int .u8 (byt 1 (z % 4294967296)), .int .u8 (byt 2 (z % 4294967296)), .int .u8 (byt 3 (z % 4294967296))] 169)).alloc (.cells #[.int .u8 (byt 0 (z / 4294967296 % 4294967296)), .int .u8 (byt 1 (z / 4294967296 % 4294967296)), .int .u8 (byt 2 (z / 4294967296 % 4294967296)), .int .u8 (byt 3 (z / 4294967296 % 4294967296))] 169)).alloc (.cells #[.int .u8 (byt 0 (z / 4294967296 % 4294967296)), .int .u8 (byt 1 (z / 4294967296 % 4294967296)), .int .u8 (byt 2 (z / 4294967296 % 4294967296)), .int .u8 (byt 3 (z / 4294967296 % 4294967296))] 169)).alloc (.cells #[.int .u8 (byt 0 (z / 4294967296 % 4294967296)), .int .u8 (byt 1 (z / 4294967296 % 4294967296)), .int .u8 (byt 2 (z / 4294967296 % 4294967296)), .int .u8 (byt 3 (z / 4294967296 % 4294967296))] 169)).drew (w.heap.size + 1 + 1) (byt 0 (z % 4294967296)) (byt 1 (z % 4294967296)) (byt 2 (z % 4294967296)) (byt 3 (z % 4294967296)) (by simp [go_sem]) (by simp [go_sem]) (by simp [go_sem]) (by simp [go_sem]);have k2 := conv_four ((((((w.alloc (.cells #[.int .u8 (byt 0 (z % 4294967296)), .int .u8 (byt 1 (z % 4294967296)), .int .u8 (byt 2 (z % 4294967296)), .int .u8 (byt 3 (z % 4294967296))] 169)).alloc (.cells #[.int .u8 (byt 0 (z % 4294967296)), .int .u8 (byt 1 (z % 4294967296)), .int .u8 (byt 2 (z % 4294967296)), .int .u8 (byt 3 (z % 4294967296))] 169)).alloc (.cells #[.int .u8 (byt 0 (z % 4294967296)), .int .u8 (byt 1 (z % 4294967296)), .int .u8 (byt 2 (z % 4294967296)), .int .u8 (byt 3 (z % 4294967296))] 169)).alloc (.cells #[.int .u8 (byt 0 (z / 4294967296 % 4294967296)), .int .u8 (byt 1 (z / 4294967296 % 4294967296)), .int .u8 (byt 2 (z / 4294967296 % 4294967296)), .int .u8 (byt 3 (z / 4294967296 % 4294967296))] 169)).alloc (.cells #[.int .u8 (byt 0 (z / 4294967296 % 4294967296)), .int .u8 (byt 1 (z / 4294967296 % 4294967296)), .int .u8 (byt 2 (z / 4294967296 % 4294967296)), .int .u8 (byt 3 (z / 4294967296 % 4294967296))] 169)).alloc (.cells #[.int .u8 (byt 0 (z / 4294967296 % 4294967296)), .int .u8 (byt 1 (z / 4294967296 % 4294967296)), .int .u8 (byt 2 (z / 4294967296 % 4294967296)), .int .u8 (byt 3 (z / 4294967296 % 4294967296))] 169)).drew (w.heap.size + 1 + 1 + 1 + 1 + 1) (byt 0 (z / 4294967296 % 4294967296)) (byt 1 (z / 4294967296 % 4294967296)) (byt 2 (z / 4294967296 % 4294967296)) (byt 3 (z / 4294967296 % 4294967296)) (by simp [go_sem]) (by simp [go_sem]) (by simp [go_sem]) (by simp [go_sem]);have z1 : (strOfNums [byt 0 (z % 4294967296), byt 1 (z % 4294967296), byt 2 (z % 4294967296), byt 3 (z % 4294967296)]).size = 4 := strOfNums_size _;have z2 : (strOfNums [byt 0 (z / 4294967296 % 4294967296), byt 1 (z / 4294967296 % 4294967296), byt 2 (z / 4294967296 % 4294967296), byt 3 (z / 4294967296 % 4294967296)]).size = 4 := strOfNums_size _;go_enter Tryz.func95, Tryz.ntmps95;go_wp2_with fail;refine (wordBytes_any (z % 4294967296) _ (by omega) (by omega)).mono ?_;rintro e w' ⟨rfl, rfl⟩;go_wp2_with fail;refine (wordBytes_any (z / 4294967296 % 4294967296) _ (by omega) (by omega)).mono ?_;rintro e w' ⟨rfl, rfl⟩;go_wp2_with fail
 go_region
 go_wp2_with fail;go_ret;refine ⟨?_, by go_grown⟩;exact ret_str (bytes_join z)
end Go.Proofs.YtnhanccjnhgjoaaGreatDoor.WPut
namespace Go.Proofs.YtnhanccjnhgjoaaGreatDoor.WPut
open Go.RowKit
set_option linter.unusedVariables false
set_option maxRecDepth 100000
set_option maxHeartbeats 9000000
theorem info5 : (Tryz.prog.info? 5).map (fun i => (i.zero, i.size, i.bytes)) = some (some (.int .u8 0), 1, 1) := by kernel_rfl
def Put8 (Z : Int) (k : Nat) (m : Int) (xs : List Int) : Prop := xs.length = k ∧ xs ++ leL (8 - k) m = leL 8 Z
theorem Put8.step {Z m : Int} {k : Nat} {xs : List Int} (h : Put8 Z k m xs) (hk : k < 8) : Put8 Z (k + 1) (m / 256) (xs ++ [m % 256]) := by
 obtain ⟨h1, h2⟩ := h;refine ⟨by simp [h1], ?_⟩;rw [← h2, show 8 - k = (8 - (k + 1)) + 1 from by omega, leL];simp
theorem Put8.done {Z m : Int} {xs : List Int} (h : Put8 Z 8 m xs) : xs = leL 8 Z := by
 obtain ⟨h1, h2⟩ := h
 simpa [leL] using h2
theorem u64_bd (z : Int) : 0 ≤ IntKind.u64.wrap z ∧ IntKind.u64.wrap z ≤ 18446744073709551615 := by
 rw [IntKind.wrap_u64]; omega
theorem specPutInt (z : Int) (w : World) (h0 : -9223372036854775808 ≤ z) (h1 : z ≤ 9223372036854775807) :
  Calls Tryz.prog 79 #[.int .i64 z] w fun e w' => e = .returned (.string (strOfNums (leL 8 (IntKind.u64.wrap z)))) ∧ Below w.heap.size w w' := by
 obtain ⟨i0, hi, hz0, hz1, hz2⟩ := info_parts info5;have hb := u64_bd z;go_enter Tryz.func79, Tryz.ntmps79;go_wp2_with fail
 go_loopw [3, 4, 5] (fun u v i wr => ∃ (k : Nat) (m : Int) (xs : List Int), k ≤ 8 ∧ i = .int .i64 k ∧ 0 ≤ m ∧ m ≤ 18446744073709551615 ∧ u = .int .u64 m ∧ Put8 (IntKind.u64.wrap z) k m xs ∧ wr.ownsRow w.heap.size 5 1 v k (xs.map (Value.int .u8)) ∧ Below w.heap.size w wr)
  (fun _ _ i _ => 8 - (intOf i).toNat)
 case atStart => exact ⟨0, IntKind.u64.wrap z, [], by omega, rfl, hb.1, hb.2, rfl, ⟨rfl, rfl⟩, World.ownsRow_made w #[] 0 (Nat.le_refl _) (by simp) (by simp), (Below.refl _ _).alloc (Nat.le_refl _) _⟩
 case round =>
  obtain ⟨k, m, xs, hk, rfl, hm0, hm1, rfl, hp, hown, hbel⟩ := hrel;by_cases hlt : k < 8
  ·go_wp2_with (at_builtin; refine wpList_append_own _ rfl (.tmp 13) (.tmp 17) 22 rfl w.heap.size 5 i0 (.int .u8 0) 1 1 Tryz.underlying22 hi hz0 hz1 hz2 rfl (by decide) _ _ _ rfl (hown.alloc _) ⟨wr.heap.size, 0, none⟩ 1 1 [.int .u8 (m % 256)] rfl rfl ?c1 ?c2 ?c3 ?c4 ?c5 ?_)
   case c1 =>
    intro j u hj
    match j, hj with
    | 0, hj => simp at hj; subst hj; simp [Addr.add]
   case c2 => intro u hu; simp at hu; subst hu; rfl
   case c3 => unfold maxLen; omega
   case c4 => omega
   case c5 => have := hbel.size; simp; omega
   intro v' w1 hown' hgrow _;have hb1 : Below w.heap.size w w1 := Below.grown (hbel.alloc hbel.size _) hgrow (by have := hbel.size; simp; omega) (fun q hq => (hown.lt q hq).1);have hown1 : w1.ownsRow w.heap.size 5 1 v' (k + 1) ((xs ++ [m % 256]).map (Value.int .u8)) := by simpa using hown'
   have hp1 := hp.step hlt;clear hown' hgrow hown hbel hp;go_wp2_with fail;go_roundw;case rel => exact ⟨k + 1, m / 256, xs ++ [m % 256], by omega, by go_num, by omega, by omega, rfl, hp1, hown1, hb1⟩
   case measure => simp [intOf]; omega
  ·obtain rfl : k = 8 := by omega
   have hcv : (convert 22 9 u4).run Tryz.prog wr = .ok (.string (strOfNums xs)) wr := conv_own (by rw [hp.1]; exact hown);have hd : Hid (xs = leL 8 (IntKind.u64.wrap z)) := hp.done;clear hp hown;go_wp2_with fail;go_ret;exact ⟨ret_str (by rw [hd.out]), hbel⟩
end Go.Proofs.YtnhanccjnhgjoaaGreatDoor.WPut
namespace Go.Proofs.YtnhanccjnhgjoaaGreatDoor.WPut
open Go.RowKit
set_option linter.unusedVariables false
set_option maxRecDepth 100000
set_option maxHeartbeats 9000000
def pvL : Nat → Int → List Int
 | 0, _ => []
 | k + 1, n => if n < 128 then [n] else (n % 128 + 128) :: pvL k (n / 128)
theorem pvL_big (k : Nat) (n : Int) (h : 128 ≤ n) : pvL (k + 1) n = (n % 128 + 128) :: pvL k (n / 128) := by
 show (if n < 128 then [n] else _) = _;rw [if_neg (by omega)]
theorem pvL_small (k : Nat) (n : Int) (h : n < 128) : pvL (k + 1) n = [n] := by
 show (if n < 128 then [n] else _) = _;rw [if_pos h]
theorem str_cons (x : Int) (xs : List Int) : strOfNums [x] ++ strOfNums xs = strOfNums (x :: xs) := ByteArray.mk_append_mk _ _
theorem pvL_len (k : Nat) : ∀ n, (pvL k n).length ≤ k := by
 induction k with
 | zero => intro n; simp [pvL]
 | succ k ih => intro n; unfold pvL; split <;> simp; exact ih _
theorem specPutVarint_in (k : Nat) : ∀ (n : Int) (w : World), 0 ≤ n → n ≤ 16777215 → n < 128 ^ (k + 1) → k ≤ 4 →
  Calls Tryz.prog 32 #[.int .i64 n] w fun e w' => e = .returned (.string (strOfNums (pvL (k + 1) n))) ∧ Below w.heap.size w w' := by
 induction k with
 | zero =>
  intro n w h0 h1 h2 _;have h3 : n < 128 := by simpa using h2
  clear h2;go_enter Tryz.func32, Tryz.ntmps32;go_wp2_with fail;refine (l1Byte_any n _ h0 (by omega)).mono ?_;rintro e w1 ⟨rfl, b1⟩;go_wp2_with fail;go_ret;exact ⟨ret_str (by rw [pvL_small _ _ (by omega)]), b1⟩
 | succ k ih =>
  intro n w h0 h1 h2 h4;by_cases h3 : n < 128
  ·clear ih h2;go_enter Tryz.func32, Tryz.ntmps32;go_wp2_with fail;refine (l1Byte_any n _ h0 (by omega)).mono ?_;rintro e w1 ⟨rfl, b1⟩;go_wp2_with fail;go_ret;exact ⟨ret_str (by rw [pvL_small _ _ (by omega)]), b1⟩
  ·have h5 : n / 128 < 128 ^ (k + 1) := by
    rw [Int.pow_succ] at h2;exact Int.ediv_lt_of_lt_mul (by omega) h2
   have IH : Hid (∀ (n : Int) (w : World), 0 ≤ n → n ≤ 16777215 → n < 128 ^ (k + 1) → k ≤ 4 → Calls Tryz.prog 32 #[.int .i64 n] w fun e w' => e = .returned (.string (strOfNums (pvL (k + 1) n))) ∧ Below w.heap.size w w') := ih;have H5 : Hid (n / 128 < 128 ^ (k + 1)) := h5;clear ih h2 h5;go_enter Tryz.func32, Tryz.ntmps32;go_wp2_with fail;refine (l1Byte_any (n % 128 + 128) _ (by omega) (by omega)).mono ?_;rintro e w1 ⟨rfl, b1⟩;go_wp2_with fail;refine (IH.out (n / 128) _ (by omega) (by omega) H5.out (by omega)).mono ?_;rintro e w2 ⟨rfl, b2⟩;have b3 := b1.trans (b2.mono b1.size);have z1 : (strOfNums [n % 128 + 128]).size = 1 := strOfNums_size _;have z2 : (strOfNums (pvL (k + 1) (n / 128))).size ≤ 5 := by rw [strOfNums_size]; have := pvL_len (k + 1) (n / 128); omega
   go_wp2_with fail;go_ret;exact ⟨ret_str (by rw [str_cons, pvL_big (k + 1) n (by omega)]), b3⟩
theorem specPutVarint_out (n : Int) (w : World) (h : n < 0 ∨ 16777215 < n) :
  Calls Tryz.prog 32 #[.int .i64 n] w fun e w' => e = .returned (.string ByteArray.empty) ∧ Below w.heap.size w w' := by
 by_cases h1 : n < 0
 ·clear h;go_enter Tryz.func32, Tryz.ntmps32;go_wp2_with fail;go_ret;exact ⟨rfl, Below.refl _ _⟩
 ·have h2 : 16777215 < n := by omega
  clear h;go_enter Tryz.func32, Tryz.ntmps32;go_wp2_with fail;go_ret;exact ⟨rfl, Below.refl _ _⟩
def PutV (n : Int) (k : Nat) (m : Int) (xs : List Int) : Prop := xs.length + k = 4 ∧ m < 128 ^ (k + 1) ∧ xs ++ pvL (k + 1) m = pvL 5 n
theorem PutV.lt {n m : Int} {k : Nat} {xs : List Int} (h : PutV n k m xs) (hm : 128 ≤ m) : 0 < k := by
 cases k with
 | zero => have := h.2.1; simp at this; omega
 | succ k => omega
theorem PutV.step {n m : Int} {k : Nat} {xs : List Int} (h : PutV n (k + 1) m xs) (hm : 128 ≤ m) : PutV n k (m / 128) (xs ++ [m % 128 + 128]) := by
 obtain ⟨h1, h2, h3⟩ := h;refine ⟨by simp; omega, ?_, ?_⟩
 ·rw [Int.pow_succ] at h2;exact Int.ediv_lt_of_lt_mul (by omega) h2
 ·rw [← h3, pvL_big _ _ hm]; simp
theorem PutV.done {n m : Int} {k : Nat} {xs : List Int} (h : PutV n k m xs) (hm : m < 128) : xs ++ [m] = pvL 5 n := by
 rw [← h.2.2, pvL_small _ _ hm]
theorem implPutVarint_in (n : Int) (w : World) (h0 : 0 ≤ n) (h1 : n ≤ 16777215) :
  Calls Tryz.prog 92 #[.int .i64 n] w fun e w' => e = .returned (.string (strOfNums (pvL 5 n))) ∧ Below w.heap.size w w' := by
 obtain ⟨i0, hi, hz0, hz1, hz2⟩ := info_parts info5;go_enter Tryz.func92, Tryz.ntmps92;go_wp2_with fail
 go_loopw [0, 3] (fun u v wr => ∃ (k : Nat) (m : Int) (xs : List Int), 0 ≤ m ∧ m ≤ 16777215 ∧ u = .int .i64 m ∧ PutV n k m xs ∧ wr.ownsRow w.heap.size 5 1 v xs.length (xs.map (Value.int .u8)) ∧ Below w.heap.size w wr)
  (fun u _ _ => (intOf u).toNat)
 case atStart => exact ⟨4, n, [], h0, h1, rfl, ⟨rfl, by omega, rfl⟩, World.ownsRow_nil _ _ _ _, Below.refl _ _⟩
 case round =>
  obtain ⟨k, m, xs, hm0, hm1, rfl, hp, hown, hbel⟩ := hrel;have hl : xs.length ≤ 4 := by have := hp.1; omega
  by_cases hlt : 128 ≤ m
  ·go_wp2_with (at_builtin; refine wpList_append_own _ rfl (.tmp 12) (.tmp 17) 22 rfl w.heap.size 5 i0 (.int .u8 0) 1 1 Tryz.underlying22 hi hz0 hz1 hz2 rfl (by decide) _ _ _ rfl (hown.alloc _) ⟨wr.heap.size, 0, none⟩ 1 1 [.int .u8 (m % 128 + 128)] rfl rfl ?c1 ?c2 ?c3 ?c4 ?c5 ?_)
   case c1 =>
    intro j u hj
    match j, hj with
    | 0, hj => simp at hj; subst hj; simp [Addr.add]
   case c2 => intro u hu; simp at hu; subst hu; rfl
   case c3 => unfold maxLen; omega
   case c4 => omega
   case c5 => have := hbel.size; simp; omega
   intro v' w1 hown' hgrow _;have hb1 : Below w.heap.size w w1 := Below.grown (hbel.alloc hbel.size _) hgrow (by have := hbel.size; simp; omega) (fun q hq => (hown.lt q hq).1);have hown1 : w1.ownsRow w.heap.size 5 1 v' (xs ++ [m % 128 + 128]).length ((xs ++ [m % 128 + 128]).map (Value.int .u8)) := by simpa using hown'
   obtain ⟨k, rfl⟩ : ∃ j, k = j + 1 := ⟨k - 1, by have := hp.lt hlt; omega⟩;have hp1 := hp.step hlt;clear hown' hgrow hown hbel hp;go_wp2_with fail;go_roundw;case rel => exact ⟨k, m / 128, xs ++ [m % 128 + 128], by omega, by omega, rfl, hp1, hown1, hb1⟩
   case measure => simp [intOf]; omega
  ·go_wp2_with (at_builtin; refine wpList_append_own _ rfl (.tmp 21) (.tmp 24) 22 rfl w.heap.size 5 i0 (.int .u8 0) 1 1 Tryz.underlying22 hi hz0 hz1 hz2 rfl (by decide) _ _ _ rfl (hown.alloc _) ⟨wr.heap.size, 0, none⟩ 1 1 [.int .u8 m] rfl rfl ?d1 ?d2 ?d3 ?d4 ?d5 ?_);case d2 => rfl
   case d3 => unfold maxLen; omega
   case d4 => omega
   case d5 => have := hbel.size; omega
   intro v' w1 hown' hgrow _;have hb1 : Below w.heap.size w w1 := Below.grown (hbel.alloc hbel.size _) hgrow (by have := hbel.size; simp; omega) (fun q hq => (hown.lt q hq).1);have hown1 : w1.ownsRow w.heap.size 5 1 v' (xs ++ [m]).length ((xs ++ [m]).map (Value.int .u8)) := by simpa using hown'
   have hcv : (convert 22 9 v').run Tryz.prog w1 = .ok (.string (strOfNums (xs ++ [m]))) w1 := conv_own hown1;have hd : Hid (xs ++ [m] = pvL 5 n) := hp.done (by omega);clear hown' hgrow hown hbel hp hown1;go_wp2_with fail;go_ret;exact ⟨ret_str (by rw [hd.out]), hb1⟩
theorem implPutVarint_out (n : Int) (w : World) (h : n < 0 ∨ 16777215 < n) :
  Calls Tryz.prog 92 #[.int .i64 n] w fun e w' => e = .returned (.string ByteArray.empty) ∧ Below w.heap.size w w' := by
 by_cases h1 : n < 0
 ·clear h;go_enter Tryz.func92, Tryz.ntmps92;go_wp2_with fail;go_ret;exact ⟨rfl, Below.refl _ _⟩
 ·have h2 : 16777215 < n := by omega
  clear h;go_enter Tryz.func92, Tryz.ntmps92;go_wp2_with fail;go_ret;exact ⟨rfl, Below.refl _ _⟩
def pv (n : Int) : ByteArray := if n < 0 ∨ 16777215 < n then ByteArray.empty else strOfNums (pvL 5 n)
theorem pv_out {n : Int} (h : n < 0 ∨ 16777215 < n) : pv n = ByteArray.empty := if_pos h
theorem pv_in {n : Int} (h : ¬ (n < 0 ∨ 16777215 < n)) : pv n = strOfNums (pvL 5 n) := if_neg h
theorem specPutVarint (n : Int) (w : World) : Calls Tryz.prog 32 #[.int .i64 n] w fun e w' => e = .returned (.string (pv n)) ∧ Below w.heap.size w w' := by
 by_cases h : n < 0 ∨ 16777215 < n
 ·rw [pv_out h]; exact specPutVarint_out n w h
 ·rw [pv_in h]; exact specPutVarint_in 4 n w (by omega) (by omega) (by omega) (by omega)
theorem implPutVarint (n : Int) (w : World) : Calls Tryz.prog 92 #[.int .i64 n] w fun e w' => e = .returned (.string (pv n)) ∧ Below w.heap.size w w' := by
 by_cases h : n < 0 ∨ 16777215 < n
 ·rw [pv_out h]; exact implPutVarint_out n w h
 ·rw [pv_in h]; exact implPutVarint_in n w (by omega) (by omega)
end Go.Proofs.YtnhanccjnhgjoaaGreatDoor.WPut
namespace Go.Proofs.YtnhanccjnhgjoaaGreatDoor.WPut
open Go.RowKit
set_option linter.unusedVariables false
set_option maxRecDepth 100000
set_option maxHeartbeats 9000000
theorem ret_iib {k l : IntKind} {a b a' b' : Int} {c : Bool} (h : a = a') (g : b = b') : Ending.returned (.tuple #[.int k a, .int l b, .bool c]) = .returned (.tuple #[.int k a', .int l b', .bool c]) := by rw [h, g]
theorem specPutVarint_eq (x N : Int) (w : World) (h : x = N) : Calls Tryz.prog 32 #[.int .i64 x] w fun e w' => e = .returned (.string (pv N)) ∧ Below w.heap.size w w' := h ▸ specPutVarint x w
theorem implPutVarint_eq (x N : Int) (w : World) (h : x = N) : Calls Tryz.prog 92 #[.int .i64 x] w fun e w' => e = .returned (.string (pv N)) ∧ Below w.heap.size w w' := h ▸ implPutVarint x w
theorem sl_head (r : ByteArray) (n : Nat) (wx : World) (h : (n : Int) ≤ (r.size : Int)) : (Instr.slice 9 (.string r) none (some (.int .i64 n)) none).run Tryz.prog wx = .ok (.string (r.extract 0 n)) wx := by
 have := run_slice_string_h (P := Tryz.prog) (t := 9) wx r Tryz.underlying9 .i64 (n : Int) (by omega) h
 simpa using this
theorem spec_S0t (s : ByteArray) (a : Nat) (w : World) (N : Int) (hs : s.size ≤ 2000000000) (h : a + 0 < s.size)  (gk : (s[a].toNat : Int) < 128)
  (HN : Hid ((s[a].toNat : Int) % 128 = N)) (hz : (((pv N).size : Int) == 1) = true) :
  Calls Tryz.prog 81 #[.string s, .int .i64 a] w fun e w' => e = .returned (.tuple #[.int .i64 N, .int .i64 (a + 1), .bool true]) ∧ Below w.heap.size w w' := by
 have l0 : (s[a].toNat : Int) ≤ 255 := by have := s[a].toNat_lt; omega
 go_enter Tryz.func81, Tryz.ntmps81;go_wp2_with fail;refine wp_loop_rounds 5 ?_;rw [rounds_succ];go_wp2_with fail;refine (specPutVarint_eq ((s[a].toNat : Int) % 128) N _ HN.out).mono ?_;rintro e w1 ⟨rfl, b1⟩;go_wp2_with fail
 go_ret3
 exact ⟨ret_iib HN.out (by omega), b1⟩
theorem spec_S0f (s : ByteArray) (a : Nat) (w : World) (N : Int) (hs : s.size ≤ 2000000000) (h : a + 0 < s.size)  (gk : (s[a].toNat : Int) < 128)
  (HN : Hid ((s[a].toNat : Int) % 128 = N)) (hz : (((pv N).size : Int) == 1) = false) :
  Calls Tryz.prog 81 #[.string s, .int .i64 a] w fun e w' => e = .returned (.tuple #[.int .i64 0, .int .i64 0, .bool false]) ∧ Below w.heap.size w w' := by
 have l0 : (s[a].toNat : Int) ≤ 255 := by have := s[a].toNat_lt; omega
 go_enter Tryz.func81, Tryz.ntmps81;go_wp2_with fail;refine wp_loop_rounds 5 ?_;rw [rounds_succ];go_wp2_with fail;refine (specPutVarint_eq ((s[a].toNat : Int) % 128) N _ HN.out).mono ?_;rintro e w1 ⟨rfl, b1⟩;go_wp2_with fail
 go_ret3
 exact ⟨rfl, b1⟩
theorem spec_S1t (s : ByteArray) (a : Nat) (w : World) (N : Int) (hs : s.size ≤ 2000000000) (h : a + 1 < s.size) (g0 : 128 ≤ (s[a].toNat : Int)) (gk : (s[a + 1].toNat : Int) < 128)
  (HN : Hid ((s[a].toNat : Int) % 128 + (s[a + 1].toNat : Int) % 128 * 128 = N)) (hz : (((pv N).size : Int) == 2) = true) :
  Calls Tryz.prog 81 #[.string s, .int .i64 a] w fun e w' => e = .returned (.tuple #[.int .i64 N, .int .i64 (a + 2), .bool true]) ∧ Below w.heap.size w w' := by
 have l0 : (s[a].toNat : Int) ≤ 255 := by have := s[a].toNat_lt; omega
 have l1 : (s[a + 1].toNat : Int) ≤ 255 := by have := s[a + 1].toNat_lt; omega
 go_enter Tryz.func81, Tryz.ntmps81;go_wp2_with fail;refine wp_loop_rounds 5 ?_;rw [rounds_succ];go_wp2_with fail;rw [rounds_succ];go_wp2_with fail;refine (specPutVarint_eq ((s[a].toNat : Int) % 128 + (s[a + 1].toNat : Int) % 128 * 128) N _ HN.out).mono ?_;rintro e w1 ⟨rfl, b1⟩;go_wp2_with fail
 go_ret3
 exact ⟨ret_iib HN.out (by omega), b1⟩
theorem spec_S1f (s : ByteArray) (a : Nat) (w : World) (N : Int) (hs : s.size ≤ 2000000000) (h : a + 1 < s.size) (g0 : 128 ≤ (s[a].toNat : Int)) (gk : (s[a + 1].toNat : Int) < 128)
  (HN : Hid ((s[a].toNat : Int) % 128 + (s[a + 1].toNat : Int) % 128 * 128 = N)) (hz : (((pv N).size : Int) == 2) = false) :
  Calls Tryz.prog 81 #[.string s, .int .i64 a] w fun e w' => e = .returned (.tuple #[.int .i64 0, .int .i64 0, .bool false]) ∧ Below w.heap.size w w' := by
 have l0 : (s[a].toNat : Int) ≤ 255 := by have := s[a].toNat_lt; omega
 have l1 : (s[a + 1].toNat : Int) ≤ 255 := by have := s[a + 1].toNat_lt; omega
 go_enter Tryz.func81, Tryz.ntmps81;go_wp2_with fail;refine wp_loop_rounds 5 ?_;rw [rounds_succ];go_wp2_with fail;rw [rounds_succ];go_wp2_with fail;refine (specPutVarint_eq ((s[a].toNat : Int) % 128 + (s[a + 1].toNat : Int) % 128 * 128) N _ HN.out).mono ?_;rintro e w1 ⟨rfl, b1⟩;go_wp2_with fail
 go_ret3
 exact ⟨rfl, b1⟩
theorem spec_S2t (s : ByteArray) (a : Nat) (w : World) (N : Int) (hs : s.size ≤ 2000000000) (h : a + 2 < s.size) (g0 : 128 ≤ (s[a].toNat : Int)) (g1 : 128 ≤ (s[a + 1].toNat : Int)) (gk : (s[a + 2].toNat : Int) < 128)
  (HN : Hid ((s[a].toNat : Int) % 128 + (s[a + 1].toNat : Int) % 128 * 128 + (s[a + 2].toNat : Int) % 128 * 16384 = N)) (hz : (((pv N).size : Int) == 3) = true) :
  Calls Tryz.prog 81 #[.string s, .int .i64 a] w fun e w' => e = .returned (.tuple #[.int .i64 N, .int .i64 (a + 3), .bool true]) ∧ Below w.heap.size w w' := by
 have l0 : (s[a].toNat : Int) ≤ 255 := by have := s[a].toNat_lt; omega
 have l1 : (s[a + 1].toNat : Int) ≤ 255 := by have := s[a + 1].toNat_lt; omega
 have l2 : (s[a + 2].toNat : Int) ≤ 255 := by have := s[a + 2].toNat_lt; omega
 go_enter Tryz.func81, Tryz.ntmps81;go_wp2_with fail;refine wp_loop_rounds 5 ?_;rw [rounds_succ];go_wp2_with fail;rw [rounds_succ];go_wp2_with fail;rw [rounds_succ];go_wp2_with fail;refine (specPutVarint_eq ((s[a].toNat : Int) % 128 + (s[a + 1].toNat : Int) % 128 * 128 + (s[a + 2].toNat : Int) % 128 * 16384) N _ HN.out).mono ?_;rintro e w1 ⟨rfl, b1⟩;go_wp2_with fail
 go_ret3
 exact ⟨ret_iib HN.out (by omega), b1⟩
theorem spec_S2f (s : ByteArray) (a : Nat) (w : World) (N : Int) (hs : s.size ≤ 2000000000) (h : a + 2 < s.size) (g0 : 128 ≤ (s[a].toNat : Int)) (g1 : 128 ≤ (s[a + 1].toNat : Int)) (gk : (s[a + 2].toNat : Int) < 128)
  (HN : Hid ((s[a].toNat : Int) % 128 + (s[a + 1].toNat : Int) % 128 * 128 + (s[a + 2].toNat : Int) % 128 * 16384 = N)) (hz : (((pv N).size : Int) == 3) = false) :
  Calls Tryz.prog 81 #[.string s, .int .i64 a] w fun e w' => e = .returned (.tuple #[.int .i64 0, .int .i64 0, .bool false]) ∧ Below w.heap.size w w' := by
 have l0 : (s[a].toNat : Int) ≤ 255 := by have := s[a].toNat_lt; omega
 have l1 : (s[a + 1].toNat : Int) ≤ 255 := by have := s[a + 1].toNat_lt; omega
 have l2 : (s[a + 2].toNat : Int) ≤ 255 := by have := s[a + 2].toNat_lt; omega
 go_enter Tryz.func81, Tryz.ntmps81;go_wp2_with fail;refine wp_loop_rounds 5 ?_;rw [rounds_succ];go_wp2_with fail;rw [rounds_succ];go_wp2_with fail;rw [rounds_succ];go_wp2_with fail;refine (specPutVarint_eq ((s[a].toNat : Int) % 128 + (s[a + 1].toNat : Int) % 128 * 128 + (s[a + 2].toNat : Int) % 128 * 16384) N _ HN.out).mono ?_;rintro e w1 ⟨rfl, b1⟩;go_wp2_with fail
 go_ret3
 exact ⟨rfl, b1⟩
theorem spec_S3t (s : ByteArray) (a : Nat) (w : World) (N : Int) (hs : s.size ≤ 2000000000) (h : a + 3 < s.size) (g0 : 128 ≤ (s[a].toNat : Int)) (g1 : 128 ≤ (s[a + 1].toNat : Int)) (g2 : 128 ≤ (s[a + 2].toNat : Int)) (gk : (s[a + 3].toNat : Int) < 128)
  (HN : Hid ((s[a].toNat : Int) % 128 + (s[a + 1].toNat : Int) % 128 * 128 + (s[a + 2].toNat : Int) % 128 * 16384 + (s[a + 3].toNat : Int) % 128 * 2097152 = N)) (hz : (((pv N).size : Int) == 4) = true) :
  Calls Tryz.prog 81 #[.string s, .int .i64 a] w fun e w' => e = .returned (.tuple #[.int .i64 N, .int .i64 (a + 4), .bool true]) ∧ Below w.heap.size w w' := by
 have l0 : (s[a].toNat : Int) ≤ 255 := by have := s[a].toNat_lt; omega
 have l1 : (s[a + 1].toNat : Int) ≤ 255 := by have := s[a + 1].toNat_lt; omega
 have l2 : (s[a + 2].toNat : Int) ≤ 255 := by have := s[a + 2].toNat_lt; omega
 have l3 : (s[a + 3].toNat : Int) ≤ 255 := by have := s[a + 3].toNat_lt; omega
 go_enter Tryz.func81, Tryz.ntmps81;go_wp2_with fail;refine wp_loop_rounds 5 ?_;rw [rounds_succ];go_wp2_with fail;rw [rounds_succ];go_wp2_with fail;rw [rounds_succ];go_wp2_with fail;rw [rounds_succ];go_wp2_with fail;refine (specPutVarint_eq ((s[a].toNat : Int) % 128 + (s[a + 1].toNat : Int) % 128 * 128 + (s[a + 2].toNat : Int) % 128 * 16384 + (s[a + 3].toNat : Int) % 128 * 2097152) N _ HN.out).mono ?_;rintro e w1 ⟨rfl, b1⟩;go_wp2_with fail
 go_ret3
 exact ⟨ret_iib HN.out (by omega), b1⟩
theorem spec_S3f (s : ByteArray) (a : Nat) (w : World) (N : Int) (hs : s.size ≤ 2000000000) (h : a + 3 < s.size) (g0 : 128 ≤ (s[a].toNat : Int)) (g1 : 128 ≤ (s[a + 1].toNat : Int)) (g2 : 128 ≤ (s[a + 2].toNat : Int)) (gk : (s[a + 3].toNat : Int) < 128)
  (HN : Hid ((s[a].toNat : Int) % 128 + (s[a + 1].toNat : Int) % 128 * 128 + (s[a + 2].toNat : Int) % 128 * 16384 + (s[a + 3].toNat : Int) % 128 * 2097152 = N)) (hz : (((pv N).size : Int) == 4) = false) :
  Calls Tryz.prog 81 #[.string s, .int .i64 a] w fun e w' => e = .returned (.tuple #[.int .i64 0, .int .i64 0, .bool false]) ∧ Below w.heap.size w w' := by
 have l0 : (s[a].toNat : Int) ≤ 255 := by have := s[a].toNat_lt; omega
 have l1 : (s[a + 1].toNat : Int) ≤ 255 := by have := s[a + 1].toNat_lt; omega
 have l2 : (s[a + 2].toNat : Int) ≤ 255 := by have := s[a + 2].toNat_lt; omega
 have l3 : (s[a + 3].toNat : Int) ≤ 255 := by have := s[a + 3].toNat_lt; omega
 go_enter Tryz.func81, Tryz.ntmps81;go_wp2_with fail;refine wp_loop_rounds 5 ?_;rw [rounds_succ];go_wp2_with fail;rw [rounds_succ];go_wp2_with fail;rw [rounds_succ];go_wp2_with fail;rw [rounds_succ];go_wp2_with fail;refine (specPutVarint_eq ((s[a].toNat : Int) % 128 + (s[a + 1].toNat : Int) % 128 * 128 + (s[a + 2].toNat : Int) % 128 * 16384 + (s[a + 3].toNat : Int) % 128 * 2097152) N _ HN.out).mono ?_;rintro e w1 ⟨rfl, b1⟩;go_wp2_with fail
 go_ret3
 exact ⟨rfl, b1⟩
theorem spec_E0 (s : ByteArray) (a : Nat) (w : World) (hs : s.size ≤ 2000000000) (h : s.size ≤ a) (h' : a ≤ s.size) :
  Calls Tryz.prog 81 #[.string s, .int .i64 a] w fun e w' => e = .returned (.tuple #[.int .i64 0, .int .i64 0, .bool false]) ∧ Below w.heap.size w w' := by

 go_enter Tryz.func81, Tryz.ntmps81;go_wp2_with fail;refine wp_loop_rounds 5 ?_;rw [rounds_succ];go_wp2_with fail
 go_ret3
 exact ⟨rfl, Below.refl _ _⟩
theorem spec_E1 (s : ByteArray) (a : Nat) (w : World) (hs : s.size ≤ 2000000000) (h : a + 0 < s.size) (g0 : 128 ≤ (s[a].toNat : Int)) (h' : s.size ≤ a + 1) :
  Calls Tryz.prog 81 #[.string s, .int .i64 a] w fun e w' => e = .returned (.tuple #[.int .i64 0, .int .i64 0, .bool false]) ∧ Below w.heap.size w w' := by
 have l0 : (s[a].toNat : Int) ≤ 255 := by have := s[a].toNat_lt; omega
 go_enter Tryz.func81, Tryz.ntmps81;go_wp2_with fail;refine wp_loop_rounds 5 ?_;rw [rounds_succ];go_wp2_with fail;rw [rounds_succ];go_wp2_with fail
 go_ret3
 exact ⟨rfl, Below.refl _ _⟩
theorem spec_E2 (s : ByteArray) (a : Nat) (w : World) (hs : s.size ≤ 2000000000) (h : a + 1 < s.size) (g0 : 128 ≤ (s[a].toNat : Int)) (g1 : 128 ≤ (s[a + 1].toNat : Int)) (h' : s.size ≤ a + 2) :
  Calls Tryz.prog 81 #[.string s, .int .i64 a] w fun e w' => e = .returned (.tuple #[.int .i64 0, .int .i64 0, .bool false]) ∧ Below w.heap.size w w' := by
 have l0 : (s[a].toNat : Int) ≤ 255 := by have := s[a].toNat_lt; omega
 have l1 : (s[a + 1].toNat : Int) ≤ 255 := by have := s[a + 1].toNat_lt; omega
 go_enter Tryz.func81, Tryz.ntmps81;go_wp2_with fail;refine wp_loop_rounds 5 ?_;rw [rounds_succ];go_wp2_with fail;rw [rounds_succ];go_wp2_with fail;rw [rounds_succ];go_wp2_with fail
 go_ret3
 exact ⟨rfl, Below.refl _ _⟩
theorem spec_E3 (s : ByteArray) (a : Nat) (w : World) (hs : s.size ≤ 2000000000) (h : a + 2 < s.size) (g0 : 128 ≤ (s[a].toNat : Int)) (g1 : 128 ≤ (s[a + 1].toNat : Int)) (g2 : 128 ≤ (s[a + 2].toNat : Int)) (h' : s.size ≤ a + 3) :
  Calls Tryz.prog 81 #[.string s, .int .i64 a] w fun e w' => e = .returned (.tuple #[.int .i64 0, .int .i64 0, .bool false]) ∧ Below w.heap.size w w' := by
 have l0 : (s[a].toNat : Int) ≤ 255 := by have := s[a].toNat_lt; omega
 have l1 : (s[a + 1].toNat : Int) ≤ 255 := by have := s[a + 1].toNat_lt; omega
 have l2 : (s[a + 2].toNat : Int) ≤ 255 := by have := s[a + 2].toNat_lt; omega
 go_enter Tryz.func81, Tryz.ntmps81;go_wp2_with fail;refine wp_loop_rounds 5 ?_;rw [rounds_succ];go_wp2_with fail;rw [rounds_succ];go_wp2_with fail;rw [rounds_succ];go_wp2_with fail;rw [rounds_succ];go_wp2_with fail
 go_ret3
 exact ⟨rfl, Below.refl _ _⟩
theorem spec_E4 (s : ByteArray) (a : Nat) (w : World) (hs : s.size ≤ 2000000000) (h : a + 3 < s.size) (g0 : 128 ≤ (s[a].toNat : Int)) (g1 : 128 ≤ (s[a + 1].toNat : Int)) (g2 : 128 ≤ (s[a + 2].toNat : Int)) (g3 : 128 ≤ (s[a + 3].toNat : Int)) :
  Calls Tryz.prog 81 #[.string s, .int .i64 a] w fun e w' => e = .returned (.tuple #[.int .i64 0, .int .i64 0, .bool false]) ∧ Below w.heap.size w w' := by
 have l0 : (s[a].toNat : Int) ≤ 255 := by have := s[a].toNat_lt; omega
 have l1 : (s[a + 1].toNat : Int) ≤ 255 := by have := s[a + 1].toNat_lt; omega
 have l2 : (s[a + 2].toNat : Int) ≤ 255 := by have := s[a + 2].toNat_lt; omega
 have l3 : (s[a + 3].toNat : Int) ≤ 255 := by have := s[a + 3].toNat_lt; omega
 go_enter Tryz.func81, Tryz.ntmps81;go_wp2_with fail;refine wp_loop_rounds 5 ?_;rw [rounds_succ];go_wp2_with fail;rw [rounds_succ];go_wp2_with fail;rw [rounds_succ];go_wp2_with fail;rw [rounds_succ];go_wp2_with fail;rw [rounds_succ];go_wp2_with fail
 go_ret3
 exact ⟨rfl, Below.refl _ _⟩
end Go.Proofs.YtnhanccjnhgjoaaGreatDoor.WPut
namespace Go.Proofs.YtnhanccjnhgjoaaGreatDoor.WPut
open Go.RowKit
set_option linter.unusedVariables false
def dec : List Int → Int
 | [] => 0
 | b :: bs => b % 128 + 128 * dec bs
def proper : List Int → Prop
 | [] => False
 | [m] => 0 ≤ m ∧ m < 128
 | x :: y :: xs => 128 ≤ x ∧ x ≤ 255 ∧ proper (y :: xs)
theorem dec_nonneg : ∀ l : List Int, 0 ≤ dec l
 | [] => by simp [dec]
 | b :: bs => by have := dec_nonneg bs; simp only [dec]; omega
theorem pvL_dec : ∀ (l : List Int) (k : Nat), proper l → l.length ≤ k → (pvL k (dec l)).length = l.length → pvL k (dec l) = l
 | [], k, h, _, _ => h.elim
 | [m], k, h, hk, _ => by
  obtain ⟨j, rfl⟩ : ∃ j, k = j + 1 := ⟨k - 1, by simp at hk; omega⟩;have e : dec [m] = m := by have := h.1; have := h.2; simp only [dec]; omega
  rw [e, pvL_small _ _ h.2]
 | x :: y :: xs, k, h, hk, hl => by
  obtain ⟨j, rfl⟩ : ∃ j, k = j + 1 := ⟨k - 1, by simp at hk; omega⟩;obtain ⟨h1, h2, h3⟩ := h;have hd := dec_nonneg (y :: xs);have e : dec (x :: y :: xs) = x % 128 + 128 * dec (y :: xs) := rfl;by_cases hz : dec (y :: xs) = 0
  ·have : dec (x :: y :: xs) < 128 := by rw [e, hz]; omega
   rw [pvL_small _ _ this] at hl;simp at hl
  ·have hb : 128 ≤ dec (x :: y :: xs) := by rw [e]; omega
   have e1 : dec (x :: y :: xs) % 128 + 128 = x := by rw [e]; omega
   have e2 : dec (x :: y :: xs) / 128 = dec (y :: xs) := by rw [e]; omega
   rw [pvL_big _ _ hb, e1, e2] at hl ⊢;rw [pvL_dec (y :: xs) j h3 (by simp at hk ⊢; omega) (by simpa using hl)]
theorem back_map (l : List UInt8) : (l.map fun c => (c.toNat : Int)).map (fun n => UInt8.ofNat n.toNat) = l := by
 rw [List.map_map]
 conv => rhs; rw [← List.map_id l]
 refine List.map_congr_left fun c _ => ?_;simp
theorem agree (l : List UInt8) (N : Int) (hp : proper (l.map fun c => (c.toNat : Int))) (h5 : l.length ≤ 5) (hN : dec (l.map fun c => (c.toNat : Int)) = N) :
  ((pv N).size = l.length) ↔ (pv N).data.toList = l := by
 constructor
 ·intro hs
  have hl : 0 < l.length := by
   cases l with
   | nil => exact hp.elim
   | cons _ _ => simp
  have hin : ¬ (N < 0 ∨ 16777215 < N) := fun h => by rw [pv_out h] at hs; simp at hs; omega
  rw [pv_in hin] at hs ⊢;rw [strOfNums_size] at hs
  have e : pvL 5 N = l.map fun c => (c.toNat : Int) := by
   rw [← hN] at hs ⊢;exact pvL_dec _ 5 hp (by simpa using h5) (by simpa using hs)
  rw [e, strOfNums_data, back_map]
 ·intro hs;have h2 := congrArg List.length hs;exact (Array.length_toList (xs := (pv N).data)).symm.trans h2
theorem agreeB (r : ByteArray) (n : Nat) (l : List UInt8) (N : Int) (hl : (r.extract 0 n).data.toList = l) (hn : l.length = n) (hp : proper (l.map fun c => (c.toNat : Int))) (h5 : n ≤ 5) (hN : dec (l.map fun c => (c.toNat : Int)) = N) :
  ((pv N).toList == (r.extract 0 n).toList) = (((pv N).size : Int) == n) := by
 have h := agree l N hp (by omega) hN;rw [ByteArray.toList_eq, ByteArray.toList_eq, hl, Bool.eq_iff_iff, beq_iff_eq, beq_iff_eq, ← h, hn];omega
theorem head1 (r : ByteArray) (h : 0 < r.size) : (r.extract 0 1).data.toList = [r[0]] := by
 obtain ⟨⟨l⟩⟩ := r
 match l, h with
 | x0 :: l, _ => rw [Lib.extract_data]; rfl
theorem head2 (r : ByteArray) (h : 1 < r.size) : (r.extract 0 2).data.toList = [r[0], r[1]] := by
 obtain ⟨⟨l⟩⟩ := r
 match l, h with
 | x0 :: x1 :: l, _ => rw [Lib.extract_data]; rfl
 | [x0], h => exact absurd h (by simp [ByteArray.size])
theorem head3 (r : ByteArray) (h : 2 < r.size) : (r.extract 0 3).data.toList = [r[0], r[1], r[2]] := by
 obtain ⟨⟨l⟩⟩ := r
 match l, h with
 | x0 :: x1 :: x2 :: l, _ => rw [Lib.extract_data]; rfl
 | [x0, x1], h => exact absurd h (by simp [ByteArray.size])
 | [x0], h => exact absurd h (by simp [ByteArray.size])
theorem head4 (r : ByteArray) (h : 3 < r.size) : (r.extract 0 4).data.toList = [r[0], r[1], r[2], r[3]] := by
 obtain ⟨⟨l⟩⟩ := r
 match l, h with
 | x0 :: x1 :: x2 :: x3 :: l, _ => rw [Lib.extract_data]; rfl
 | [x0, x1, x2], h => exact absurd h (by simp [ByteArray.size])
 | [x0, x1], h => exact absurd h (by simp [ByteArray.size])
 | [x0], h => exact absurd h (by simp [ByteArray.size])
theorem rest_size (s : ByteArray) (a : Nat) : (s.extract a s.size).size = s.size - a := by simp
theorem rest_get (s : ByteArray) (a j : Nat) (h : j < (s.extract a s.size).size) (h' : a + j < s.size) : (s.extract a s.size)[j] = s[a + j] := by
 simp [ByteArray.getElem_eq_getElem_data]
end Go.Proofs.YtnhanccjnhgjoaaGreatDoor.WPut

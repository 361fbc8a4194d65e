import Derived.Test.YtcbifllencnbaaaRows
import Derived.WalkKit
import Derived.ProofKit
import Derived.Handy
import Derived.OpenShut
import Derived.WalkLawsBesides
import Derived.WalkSpells
import Derived.Laws.BitsAllLaws
import Derived.Laws.BytesArg
import Derived.Laws.OwnMore
import Derived.Laws.Concat
namespace Go.Proofs.Ytcbifllencnbaaa.WPut
open Go.RowKit
set_option linter.unusedVariables false
/-- The bytes of a number, the lowest first. -/
def leL : Nat → Int → List Int
  | 0, _ => []
  | k + 1, n => n % 256 :: leL k (n / 256)
theorem conv_one (w : World) (n : Int) : (convert 36 9 (.slice (some ⟨w.heap.size, 0, none⟩) 1 1)).run Try.prog (w.alloc (.cells #[.int .u8 n] 5)) = .ok (.string (strOfNums [n])) (w.alloc (.cells #[.int .u8 n] 5)) := by
  refine run_convert_bytes_arg _ 36 5 Try.underlying36 Try.underlying5 _ 0 1 1 [n] rfl (fun i hi => ?_) 9 Try.underlying9
  obtain rfl : i = 0 := by omega
  simp [go_sem]
/-- A row of bytes that the call owns, as a string. -/
theorem conv_own {w : World} {base : Nat} {v : Value} {xs : List Int} (h : w.ownsRow base 5 1 v xs.length (xs.map (Value.int .u8))) : (convert 36 9 v).run Try.prog w = .ok (.string (strOfNums xs)) w := by
  rcases h.2 with ⟨rfl, h0⟩ | ⟨g, cap, cur, rfl, _⟩
  · obtain rfl := List.length_eq_zero_iff.1 h0
    exact run_convert_bytes_nil w 36 5 Try.underlying36 Try.underlying5 0 0 9 Try.underlying9
  · refine run_convert_bytes_arg w 36 5 Try.underlying36 Try.underlying5 g 0 xs.length cap xs rfl (fun i hi => ?_) 9 Try.underlying9
    rw [Nat.zero_add, h.cellAt i (by omega)]
    simp [hi]
theorem conv_four (w : World) (b : Nat) (x0 x1 x2 x3 : Int) (h0 : w.cell? ⟨b, 0, none⟩ = some (.int .u8 x0)) (h1 : w.cell? ⟨b, 1, none⟩ = some (.int .u8 x1)) (h2 : w.cell? ⟨b, 2, none⟩ = some (.int .u8 x2)) (h3 : w.cell? ⟨b, 3, none⟩ = some (.int .u8 x3)) :
    (convert 36 9 (.slice (some ⟨b, 0, none⟩) 4 4)).run Try.prog w = .ok (.string (strOfNums [x0, x1, x2, x3])) w := by
  refine run_convert_bytes_arg _ 36 5 Try.underlying36 Try.underlying5 _ 0 4 4 [x0, x1, x2, x3] rfl (fun i hi => ?_) 9 Try.underlying9
  match i, hi with
  | 0, _ => simpa using h0
  | 1, _ => simpa using h1
  | 2, _ => simpa using h2
  | 3, _ => simpa using h3
set_option maxRecDepth 100000 in
set_option maxHeartbeats 400000 in
theorem l1Byte_any (n : Int) (w : World) (h0 : 0 ≤ n) (h1 : n ≤ 255) :
    Calls Try.prog 51 #[.int .i64 n] w fun e w' => e = .returned (.string (strOfNums [n])) ∧ Below w.heap.size w w' := by
  have hcv := conv_one w n
  go_enter Try.func51, Try.ntmps51
  go_wp2
  go_ret
  exact ⟨rfl, by go_grown⟩
theorem ret_str {a b : ByteArray} (h : a = b) : Ending.returned (.string a) = .returned (.string b) := by rw [h]
/-- Byte number k of a number. -/
def byt (k : Nat) (z : Int) : Int := z / 256 ^ k % 256
set_option maxRecDepth 100000 in
set_option maxHeartbeats 400000 in
theorem wordBytes_any (z : Int) (w : World) (h0 : 0 ≤ z) (h1 : z ≤ 4294967295) :
    Calls Try.prog 68 #[.int .u32 z] w fun e w' => e = .returned (.agg #[.int .u8 (byt 0 z), .int .u8 (byt 1 z), .int .u8 (byt 2 z), .int .u8 (byt 3 z)]) ∧
      w' = (w.alloc (.cells #[.int .u8 (byt 0 z), .int .u8 (byt 1 z), .int .u8 (byt 2 z), .int .u8 (byt 3 z)] 109)).alloc (.cells #[.int .u8 (byt 0 z), .int .u8 (byt 1 z), .int .u8 (byt 2 z), .int .u8 (byt 3 z)] 109) := by
  have e0 : byt 0 z = z % 256 := by simp [byt]
  have e1 : byt 1 z = z / 256 % 256 := by simp [byt]
  have e2 : byt 2 z = z / 65536 % 256 := by simp [byt]
  have e3 : byt 3 z = z / 16777216 := by simp [byt]; omega
  rw [e0, e1, e2, e3]
  clear e0 e1 e2 e3
  obtain ⟨x, rfl⟩ := Int.eq_ofNat_of_zero_le h0
  go_enter Try.func68, Try.ntmps68
  go_wp2
  go_rounds 5
  exact bodyPost_ret (v := .agg #[.int .u8 (x % 256), .int .u8 (x / 256 % 256), .int .u8 (x / 65536 % 256), .int .u8 (x / 16777216)]) (by simp [results, Try.results68, go_sem]) rfl ⟨rfl, rfl⟩
theorem bytes_join (z : Int) : strOfNums [byt 0 (z % 4294967296), byt 1 (z % 4294967296), byt 2 (z % 4294967296), byt 3 (z % 4294967296)] ++ strOfNums [byt 0 (z / 4294967296 % 4294967296), byt 1 (z / 4294967296 % 4294967296), byt 2 (z / 4294967296 % 4294967296), byt 3 (z / 4294967296 % 4294967296)] = strOfNums (leL 8 (z % 18446744073709551616)) := by
  have e : [byt 0 (z % 4294967296), byt 1 (z % 4294967296), byt 2 (z % 4294967296), byt 3 (z % 4294967296)] ++ [byt 0 (z / 4294967296 % 4294967296), byt 1 (z / 4294967296 % 4294967296), byt 2 (z / 4294967296 % 4294967296), byt 3 (z / 4294967296 % 4294967296)] = leL 8 (z % 18446744073709551616) := by
    simp only [leL, byt, List.cons_append, List.nil_append, List.cons.injEq, and_true]
    omega
  rw [← e]
  exact ByteArray.mk_append_mk _ _
set_option maxRecDepth 100000 in
set_option maxHeartbeats 400000 in
theorem implPutInt (z : Int) (w : World) (h0 : -9223372036854775808 ≤ z) (h1 : z ≤ 9223372036854775807) :
    Calls Try.prog 70 #[.int .i64 z] w fun e w' => e = .returned (.string (strOfNums (leL 8 (z % 18446744073709551616)))) ∧ Below w.heap.size w w' := by
  have k1 := conv_four ((((((w.alloc (.cells #[.int .u8 (byt 0 (z % 4294967296)), .int .u8 (byt 1 (z % 4294967296)), .int .u8 (byt 2 (z % 4294967296)), .int .u8 (byt 3 (z % 4294967296))] 109)).alloc (.cells #[.int .u8 (byt 0 (z % 4294967296)), .int .u8 (byt 1 (z % 4294967296)), .int .u8 (byt 2 (z % 4294967296)), .int .u8 (byt 3 (z % 4294967296))] 109)).alloc (.cells #[.int .u8 (byt 0 (z % 4294967296)), .int .u8 (byt 1 (z % 4294967296)), .int .u8 (byt 2 (z % 4294967296)), .int .u8 (byt 3 (z % 4294967296))] 109)).alloc (.cells #[.int .u8 (byt 0 (z / 4294967296 % 4294967296)), .int .u8 (byt 1 (z / 4294967296 % 4294967296)), .int .u8 (byt 2 (z / 4294967296 % 4294967296)), .int .u8 (byt 3 (z / 4294967296 % 4294967296))] 109)).alloc (.cells #[.int .u8 (byt 0 (z / 4294967296 % 4294967296)), .int .u8 (byt 1 (z / 4294967296 % 4294967296)), .int .u8 (byt 2 (z / 4294967296 % 4294967296)), .int .u8 (byt 3 (z / 4294967296 % 4294967296))] 109)).alloc (.cells #[.int .u8 (byt 0 (z / 4294967296 % 4294967296)), .int .u8 (byt 1 (z / 4294967296 % 4294967296)), .int .u8 (byt 2 (z / 4294967296 % 4294967296)), .int .u8 (byt 3 (z / 4294967296 % 4294967296))] 109)).drew (w.heap.size + 1 + 1) (byt 0 (z % 4294967296)) (byt 1 (z % 4294967296)) (byt 2 (z % 4294967296)) (byt 3 (z % 4294967296)) (by simp [go_sem]) (by simp [go_sem]) (by simp [go_sem]) (by simp [go_sem])
  have k2 := conv_four ((((((w.alloc (.cells #[.int .u8 (byt 0 (z % 4294967296)), .int .u8 (byt 1 (z % 4294967296)), .int .u8 (byt 2 (z % 4294967296)), .int .u8 (byt 3 (z % 4294967296))] 109)).alloc (.cells #[.int .u8 (byt 0 (z % 4294967296)), .int .u8 (byt 1 (z % 4294967296)), .int .u8 (byt 2 (z % 4294967296)), .int .u8 (byt 3 (z % 4294967296))] 109)).alloc (.cells #[.int .u8 (byt 0 (z % 4294967296)), .int .u8 (byt 1 (z % 4294967296)), .int .u8 (byt 2 (z % 4294967296)), .int .u8 (byt 3 (z % 4294967296))] 109)).alloc (.cells #[.int .u8 (byt 0 (z / 4294967296 % 4294967296)), .int .u8 (byt 1 (z / 4294967296 % 4294967296)), .int .u8 (byt 2 (z / 4294967296 % 4294967296)), .int .u8 (byt 3 (z / 4294967296 % 4294967296))] 109)).alloc (.cells #[.int .u8 (byt 0 (z / 4294967296 % 4294967296)), .int .u8 (byt 1 (z / 4294967296 % 4294967296)), .int .u8 (byt 2 (z / 4294967296 % 4294967296)), .int .u8 (byt 3 (z / 4294967296 % 4294967296))] 109)).alloc (.cells #[.int .u8 (byt 0 (z / 4294967296 % 4294967296)), .int .u8 (byt 1 (z / 4294967296 % 4294967296)), .int .u8 (byt 2 (z / 4294967296 % 4294967296)), .int .u8 (byt 3 (z / 4294967296 % 4294967296))] 109)).drew (w.heap.size + 1 + 1 + 1 + 1 + 1) (byt 0 (z / 4294967296 % 4294967296)) (byt 1 (z / 4294967296 % 4294967296)) (byt 2 (z / 4294967296 % 4294967296)) (byt 3 (z / 4294967296 % 4294967296)) (by simp [go_sem]) (by simp [go_sem]) (by simp [go_sem]) (by simp [go_sem])
  have z1 : (strOfNums [byt 0 (z % 4294967296), byt 1 (z % 4294967296), byt 2 (z % 4294967296), byt 3 (z % 4294967296)]).size = 4 := strOfNums_size _
  have z2 : (strOfNums [byt 0 (z / 4294967296 % 4294967296), byt 1 (z / 4294967296 % 4294967296), byt 2 (z / 4294967296 % 4294967296), byt 3 (z / 4294967296 % 4294967296)]).size = 4 := strOfNums_size _
  go_enter Try.func70, Try.ntmps70
  go_wp2_with fail
  refine (wordBytes_any (z % 4294967296) _ (by omega) (by omega)).mono ?_
  rintro e w' ⟨rfl, rfl⟩
  go_wp2_with fail
  refine (wordBytes_any (z / 4294967296 % 4294967296) _ (by omega) (by omega)).mono ?_
  rintro e w' ⟨rfl, rfl⟩
  go_wp2_with fail
  go_region
  go_wp2_with fail
  go_ret
  refine ⟨?_, by go_grown⟩
  exact ret_str (bytes_join z)
end Go.Proofs.Ytcbifllencnbaaa.WPut

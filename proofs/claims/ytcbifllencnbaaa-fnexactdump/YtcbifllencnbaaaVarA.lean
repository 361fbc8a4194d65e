import Derived.Test.YtcbifllencnbaaaPutB
namespace Go.Proofs.Ytcbifllencnbaaa.WPut
open Go.RowKit
set_option linter.unusedVariables false
/-- The bytes of a varint of at most k bytes. -/
def pvL : Nat → Int → List Int
  | 0, _ => []
  | k + 1, n => if n < 128 then [n] else (n % 128 + 128) :: pvL k (n / 128)
theorem pvL_big (k : Nat) (n : Int) (h : 128 ≤ n) : pvL (k + 1) n = (n % 128 + 128) :: pvL k (n / 128) := by
  show (if n < 128 then [n] else _) = _
  rw [if_neg (by omega)]
theorem pvL_small (k : Nat) (n : Int) (h : n < 128) : pvL (k + 1) n = [n] := by
  show (if n < 128 then [n] else _) = _
  rw [if_pos h]
theorem str_cons (x : Int) (xs : List Int) : strOfNums [x] ++ strOfNums xs = strOfNums (x :: xs) := ByteArray.mk_append_mk _ _
theorem pvL_len (k : Nat) : ∀ n, (pvL k n).length ≤ k := by
  induction k with
  | zero => intro n; simp [pvL]
  | succ k ih => intro n; unfold pvL; split <;> simp; exact ih _
set_option maxRecDepth 100000 in
set_option maxHeartbeats 400000 in
theorem specPutVarint_in (k : Nat) : ∀ (n : Int) (w : World), 0 ≤ n → n ≤ 16777215 → n < 128 ^ (k + 1) → k ≤ 4 →
    Calls Try.prog 22 #[.int .i64 n] w fun e w' => e = .returned (.string (strOfNums (pvL (k + 1) n))) ∧ Below w.heap.size w w' := by
  induction k with
  | zero =>
    intro n w h0 h1 h2 _
    have h3 : n < 128 := by simpa using h2
    clear h2
    go_enter Try.func22, Try.ntmps22
    go_wp2_with fail
    refine (l1Byte_any n _ h0 (by omega)).mono ?_
    rintro e w1 ⟨rfl, b1⟩
    go_wp2_with fail
    go_ret
    exact ⟨ret_str (by rw [pvL_small _ _ (by omega)]), b1⟩
  | succ k ih =>
    intro n w h0 h1 h2 h4
    by_cases h3 : n < 128
    · clear ih h2
      go_enter Try.func22, Try.ntmps22
      go_wp2_with fail
      refine (l1Byte_any n _ h0 (by omega)).mono ?_
      rintro e w1 ⟨rfl, b1⟩
      go_wp2_with fail
      go_ret
      exact ⟨ret_str (by rw [pvL_small _ _ (by omega)]), b1⟩
    · have h5 : n / 128 < 128 ^ (k + 1) := by
        rw [Int.pow_succ] at h2
        exact Int.ediv_lt_of_lt_mul (by omega) h2
      have IH : Hid (∀ (n : Int) (w : World), 0 ≤ n → n ≤ 16777215 → n < 128 ^ (k + 1) → k ≤ 4 → Calls Try.prog 22 #[.int .i64 n] w fun e w' => e = .returned (.string (strOfNums (pvL (k + 1) n))) ∧ Below w.heap.size w w') := ih
      have H5 : Hid (n / 128 < 128 ^ (k + 1)) := h5
      clear ih h2 h5
      go_enter Try.func22, Try.ntmps22
      go_wp2_with fail
      refine (l1Byte_any (n % 128 + 128) _ (by omega) (by omega)).mono ?_
      rintro e w1 ⟨rfl, b1⟩
      go_wp2_with fail
      refine (IH.out (n / 128) _ (by omega) (by omega) H5.out (by omega)).mono ?_
      rintro e w2 ⟨rfl, b2⟩
      have b3 := b1.trans (b2.mono b1.size)
      have z1 : (strOfNums [n % 128 + 128]).size = 1 := strOfNums_size _
      have z2 : (strOfNums (pvL (k + 1) (n / 128))).size ≤ 5 := by rw [strOfNums_size]; have := pvL_len (k + 1) (n / 128); omega
      go_wp2_with fail
      go_ret
      exact ⟨ret_str (by rw [str_cons, pvL_big (k + 1) n (by omega)]), b3⟩
set_option maxRecDepth 100000 in
set_option maxHeartbeats 400000 in
theorem specPutVarint_out (n : Int) (w : World) (h : n < 0 ∨ 16777215 < n) :
    Calls Try.prog 22 #[.int .i64 n] w fun e w' => e = .returned (.string ByteArray.empty) ∧ Below w.heap.size w w' := by
  by_cases h1 : n < 0
  · clear h
    go_enter Try.func22, Try.ntmps22
    go_wp2_with fail
    go_ret
    exact ⟨rfl, Below.refl _ _⟩
  · have h2 : 16777215 < n := by omega
    clear h
    go_enter Try.func22, Try.ntmps22
    go_wp2_with fail
    go_ret
    exact ⟨rfl, Below.refl _ _⟩
/-- What has been written, and what is still to come. -/
def PutV (n : Int) (k : Nat) (m : Int) (xs : List Int) : Prop := xs.length + k = 4 ∧ m < 128 ^ (k + 1) ∧ xs ++ pvL (k + 1) m = pvL 5 n
theorem PutV.lt {n m : Int} {k : Nat} {xs : List Int} (h : PutV n k m xs) (hm : 128 ≤ m) : 0 < k := by
  cases k with
  | zero => have := h.2.1; simp at this; omega
  | succ k => omega
theorem PutV.step {n m : Int} {k : Nat} {xs : List Int} (h : PutV n (k + 1) m xs) (hm : 128 ≤ m) : PutV n k (m / 128) (xs ++ [m % 128 + 128]) := by
  obtain ⟨h1, h2, h3⟩ := h
  refine ⟨by simp; omega, ?_, ?_⟩
  · rw [Int.pow_succ] at h2
    exact Int.ediv_lt_of_lt_mul (by omega) h2
  · rw [← h3, pvL_big _ _ hm]; simp
theorem PutV.done {n m : Int} {k : Nat} {xs : List Int} (h : PutV n k m xs) (hm : m < 128) : xs ++ [m] = pvL 5 n := by
  rw [← h.2.2, pvL_small _ _ hm]
set_option maxRecDepth 100000 in
set_option maxHeartbeats 400000 in
theorem implPutVarint_in (n : Int) (w : World) (h0 : 0 ≤ n) (h1 : n ≤ 16777215) :
    Calls Try.prog 67 #[.int .i64 n] w fun e w' => e = .returned (.string (strOfNums (pvL 5 n))) ∧ Below w.heap.size w w' := by
  obtain ⟨i0, hi, hz0, hz1, hz2⟩ := info_parts info5
  go_enter Try.func67, Try.ntmps67
  go_wp2_with fail
  go_loopw [0, 3] (fun u v wr => ∃ (k : Nat) (m : Int) (xs : List Int), 0 ≤ m ∧ m ≤ 16777215 ∧ u = .int .i64 m ∧ PutV n k m xs ∧ wr.ownsRow w.heap.size 5 1 v xs.length (xs.map (Value.int .u8)) ∧ Below w.heap.size w wr)
    (fun u _ _ => (intOf u).toNat)
  case atStart => exact ⟨4, n, [], h0, h1, rfl, ⟨rfl, by omega, rfl⟩, World.ownsRow_nil _ _ _ _, Below.refl _ _⟩
  case round =>
    obtain ⟨k, m, xs, hm0, hm1, rfl, hp, hown, hbel⟩ := hrel
    have hl : xs.length ≤ 4 := by have := hp.1; omega
    by_cases hlt : 128 ≤ m
    · go_wp2_with (at_builtin; refine wpList_append_own _ rfl (.tmp 12) (.tmp 17) 36 rfl w.heap.size 5 i0 (.int .u8 0) 1 1 Try.underlying36 hi hz0 hz1 hz2 rfl (by decide) _ _ _ rfl (hown.alloc _) ⟨wr.heap.size, 0, none⟩ 1 1 [.int .u8 (m % 128 + 128)] rfl rfl ?c1 ?c2 ?c3 ?c4 ?c5 ?_)
      case c1 =>
        intro j u hj
        match j, hj with
        | 0, hj => simp at hj; subst hj; simp [Addr.add]
      case c2 => intro u hu; simp at hu; subst hu; rfl
      case c3 => unfold maxLen; omega
      case c4 => omega
      case c5 => have := hbel.size; simp; omega
      intro v' w1 hown' hgrow _
      have hb1 : Below w.heap.size w w1 := Below.grown (hbel.alloc hbel.size _) hgrow (by have := hbel.size; simp; omega) (fun q hq => (hown.lt q hq).1)
      have hown1 : w1.ownsRow w.heap.size 5 1 v' (xs ++ [m % 128 + 128]).length ((xs ++ [m % 128 + 128]).map (Value.int .u8)) := by simpa using hown'
      obtain ⟨k, rfl⟩ : ∃ j, k = j + 1 := ⟨k - 1, by have := hp.lt hlt; omega⟩
      have hp1 := hp.step hlt
      clear hown' hgrow hown hbel hp
      go_wp2_with fail
      go_roundw
      case rel => exact ⟨k, m / 128, xs ++ [m % 128 + 128], by omega, by omega, rfl, hp1, hown1, hb1⟩
      case measure => simp [intOf]; omega
    · go_wp2_with (at_builtin; refine wpList_append_own _ rfl (.tmp 21) (.tmp 24) 36 rfl w.heap.size 5 i0 (.int .u8 0) 1 1 Try.underlying36 hi hz0 hz1 hz2 rfl (by decide) _ _ _ rfl (hown.alloc _) ⟨wr.heap.size, 0, none⟩ 1 1 [.int .u8 m] rfl rfl ?d1 ?d2 ?d3 ?d4 ?d5 ?_)
      case d2 => rfl
      case d3 => unfold maxLen; omega
      case d4 => omega
      case d5 => have := hbel.size; omega
      intro v' w1 hown' hgrow _
      have hb1 : Below w.heap.size w w1 := Below.grown (hbel.alloc hbel.size _) hgrow (by have := hbel.size; simp; omega) (fun q hq => (hown.lt q hq).1)
      have hown1 : w1.ownsRow w.heap.size 5 1 v' (xs ++ [m]).length ((xs ++ [m]).map (Value.int .u8)) := by simpa using hown'
      have hcv : (convert 36 9 v').run Try.prog w1 = .ok (.string (strOfNums (xs ++ [m]))) w1 := conv_own hown1
      have hd : Hid (xs ++ [m] = pvL 5 n) := hp.done (by omega)
      clear hown' hgrow hown hbel hp hown1
      go_wp2_with fail
      go_ret
      exact ⟨ret_str (by rw [hd.out]), hb1⟩
set_option maxRecDepth 100000 in
set_option maxHeartbeats 400000 in
theorem implPutVarint_out (n : Int) (w : World) (h : n < 0 ∨ 16777215 < n) :
    Calls Try.prog 67 #[.int .i64 n] w fun e w' => e = .returned (.string ByteArray.empty) ∧ Below w.heap.size w w' := by
  by_cases h1 : n < 0
  · clear h
    go_enter Try.func67, Try.ntmps67
    go_wp2_with fail
    go_ret
    exact ⟨rfl, Below.refl _ _⟩
  · have h2 : 16777215 < n := by omega
    clear h
    go_enter Try.func67, Try.ntmps67
    go_wp2_with fail
    go_ret
    exact ⟨rfl, Below.refl _ _⟩
/-- What PutVarint answers. -/
def pv (n : Int) : ByteArray := if n < 0 ∨ 16777215 < n then ByteArray.empty else strOfNums (pvL 5 n)
theorem pv_out {n : Int} (h : n < 0 ∨ 16777215 < n) : pv n = ByteArray.empty := if_pos h
theorem pv_in {n : Int} (h : ¬ (n < 0 ∨ 16777215 < n)) : pv n = strOfNums (pvL 5 n) := if_neg h
theorem specPutVarint (n : Int) (w : World) : Calls Try.prog 22 #[.int .i64 n] w fun e w' => e = .returned (.string (pv n)) ∧ Below w.heap.size w w' := by
  by_cases h : n < 0 ∨ 16777215 < n
  · rw [pv_out h]; exact specPutVarint_out n w h
  · rw [pv_in h]; exact specPutVarint_in 4 n w (by omega) (by omega) (by omega) (by omega)
theorem implPutVarint (n : Int) (w : World) : Calls Try.prog 67 #[.int .i64 n] w fun e w' => e = .returned (.string (pv n)) ∧ Below w.heap.size w w' := by
  by_cases h : n < 0 ∨ 16777215 < n
  · rw [pv_out h]; exact implPutVarint_out n w h
  · rw [pv_in h]; exact implPutVarint_in n w (by omega) (by omega)
end Go.Proofs.Ytcbifllencnbaaa.WPut

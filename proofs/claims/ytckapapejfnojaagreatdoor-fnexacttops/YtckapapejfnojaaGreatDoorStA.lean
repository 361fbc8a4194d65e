import Derived.Test.YtckapapejfnojaaGreatDoorChG
import Derived.Laws.BytesArg
namespace Go.Proofs.YtckapapejfnojaaGreatDoor
open Go.RowKit
set_option linter.unusedVariables false
set_option linter.unusedSimpArgs false

/-- a list that lies in block B alone, from its beginning; the block is the program's own. -/
def OwnArr (w : World) (v : Value) (z n : Nat) (C : Nat → Nat → Value) (B : Nat) : Prop :=
  ∃ ao cap, v = .slice ao n cap ∧ n ≤ 9223372036854775807 ∧ (0 < n → ao = some ⟨B, 0, none⟩ ∧ ∃ t m g, w.rowIs B t m g ∧ n * z ≤ m ∧ Filled g z n C)
theorem OwnArr.is {w : World} {v : Value} {z n B : Nat} {C : Nat → Nat → Value} (h : OwnArr w v z n C B) : IsArr (· = B) w v z n C := by
  obtain ⟨ao, cap, rfl, hn, h⟩ := h
  refine ⟨ao, cap, rfl, hn, fun hp => ?_⟩
  obtain ⟨rfl, t, m, g, hr, hm, hF⟩ := h hp
  refine ⟨B, 0, rfl, rfl, fun i hi j hj => ?_⟩
  have hlt := lt_mul_of hi hj
  have hc := hr.cell (show i * z + j < m by omega)
  rw [hF i hi j hj] at hc
  simpa [Nat.add_assoc] using hc
theorem OwnArr.keep {w w' : World} {v : Value} {z n B : Nat} {C : Nat → Nat → Value} (h : OwnArr w v z n C B) (hk : 0 < n → w'.heap[B]? = w.heap[B]?) : OwnArr w' v z n C B := by
  obtain ⟨ao, cap, rfl, hn, h⟩ := h
  refine ⟨ao, cap, rfl, hn, fun hp => ?_⟩
  obtain ⟨rfl, t, m, g, hr, hm, hF⟩ := h hp
  exact ⟨rfl, t, m, g, hr.of_block (hk hp), hm, hF⟩
theorem OwnArr.lt {w : World} {v : Value} {z n B : Nat} {C : Nat → Nat → Value} (h : OwnArr w v z n C B) (hp : 0 < n) : B < w.heap.size := by
  obtain ⟨ao, cap, rfl, hn, h⟩ := h
  obtain ⟨rfl, t, m, g, hr, hm, hF⟩ := h hp
  exact hr.lt

/-- only block B has been written to; new blocks may have come. -/
structure Only (B : Nat) (w w' : World) : Prop where
  os : w'.os = w.os
  tape : w'.tape = w.tape
  output : w'.output = w.output
  size : w.heap.size ≤ w'.heap.size
  block : ∀ k, k < w.heap.size → k ≠ B → w'.heap[k]? = w.heap[k]?
theorem Only.refl (B : Nat) (w : World) : Only B w w := ⟨rfl, rfl, rfl, Nat.le_refl _, fun _ _ _ => rfl⟩
theorem Only.trans {B : Nat} {a b c : World} (h : Only B a b) (k : Only B b c) : Only B a c :=
  ⟨k.os.trans h.os, k.tape.trans h.tape, k.output.trans h.output, Nat.le_trans h.size k.size, fun i hi hne => (k.block i (Nat.lt_of_lt_of_le hi h.size) hne).trans (h.block i hi hne)⟩
theorem Only.of_below {B : Nat} {a b : World} (h : Below a.heap.size a b) : Only B a b := ⟨h.os, h.tape, h.output, h.size, fun k hk _ => h.block k hk⟩
theorem Only.setCell {B : Nat} (w : World) (off : Nat) (u : Value) : Only B w (w.setCell ⟨B, off, none⟩ u) :=
  have h := (Below.refl 0 w).setCell (p := ⟨B, off, none⟩) (Nat.zero_le _) u
  ⟨h.os, h.tape, h.output, h.size, fun k _ hne => Below.heap_setCell w _ u k hne⟩

/-! ### the text of a number -/
def digs : Nat → Int → List Int → List Int
  | 0, _, acc => acc
  | f + 1, k, acc => if k ≤ 0 then acc else digs f (k / 10) ((48 + k % 10) :: acc)
theorem digs_len : ∀ (f : Nat) (k : Int) (acc : List Int), (digs f k acc).length ≤ f + acc.length
  | 0, _, acc => by simp [digs]
  | f + 1, k, acc => by
    unfold digs
    split
    · omega
    · have := digs_len f (k / 10) ((48 + k % 10) :: acc)
      simp at this
      omega
/-- 'm' and the digits. -/
def mt (k : Int) : ByteArray := strOfNums [109] ++ strOfNums (digs 20 k [])
theorem mt_size (k : Int) : (mt k).size ≤ 9223372036854775807 := by
  unfold mt
  rw [ByteArray.size_append, strOfNums_size, strOfNums_size]
  have := digs_len 20 k []
  simp at this ⊢
  omega
theorem conv_one (w : World) (n : Int) : (convert 194 9 (.slice (some ⟨w.heap.size, 0, none⟩) 1 1)).run Tryz.prog (w.alloc (.cells #[.int .u8 n] 5)) = .ok (.string (strOfNums [n])) (w.alloc (.cells #[.int .u8 n] 5)) := by
  refine run_convert_bytes_arg _ 194 5 Tryz.underlying194 Tryz.underlying5 _ 0 1 1 [n] rfl (fun i hi => ?_) 9 Tryz.underlying9
  obtain rfl : i = 0 := by omega
  simp [go_sem]
theorem str_cons (x : Int) (xs : List Int) : strOfNums [x] ++ strOfNums xs = strOfNums (x :: xs) := ByteArray.mk_append_mk _ _
set_option maxRecDepth 100000 in
set_option maxHeartbeats 1000000 in
theorem markText_in (k : Int) (w : World) (h0 : 1 ≤ k) (h1 : k ≤ 4611686018427387904) :
    Calls Tryz.prog 61 #[.int .i64 k] w fun e w' => e = .returned (.string (mt k)) ∧ Below w.heap.size w w' := by
  have hK : Hid (digs 20 k [] = digs 20 k []) := rfl
  go_enter Tryz.func61, Tryz.ntmps61
  go_wp2_with fail
  go_loopw [0, 3] (fun kv out wr => ∃ (f : Nat) (k' : Int) (acc : List Int), kv = .int .i64 k' ∧ out = .string (strOfNums acc) ∧ 0 ≤ k' ∧ k' ≤ 4611686018427387904 ∧ k' < 10 ^ f ∧ f + acc.length = 20 ∧ Below w.heap.size w wr ∧ Hid (digs f k' acc = digs 20 k [])) (fun kv _ _ => (intOf kv).toNat)
  case atStart => exact ⟨20, k, [], rfl, rfl, by omega, h1, by omega, rfl, Below.refl _ _, rfl⟩
  case round =>
    obtain ⟨f, k', acc, rfl, rfl, k0, k1, kf, hf, hB, hD⟩ := hrel
    by_cases hk : 0 < k'
    · obtain ⟨f, rfl⟩ : ∃ g, f = g + 1 := ⟨f - 1, by
        cases f with
        | zero => simp at kf; omega
        | succ f => rfl⟩
      have hcv := conv_one wr (48 + k' % 10)
      have hD' : Hid (digs f (k' / 10) ((48 + k' % 10) :: acc) = digs 20 k []) := by
        have := hD.out
        rw [digs, if_neg (by omega)] at this
        exact this
      have kf' : k' / 10 < 10 ^ f := by
        rw [Int.pow_succ] at kf
        omega
      have s1 : (strOfNums [48 + k' % 10]).size = 1 := strOfNums_size _
      have s2 : (strOfNums acc).size ≤ 20 := by rw [strOfNums_size]; omega
      have hsc := str_cons (48 + k' % 10) acc
      clear hD kf
      go_wp2_with fail
      go_roundw
      case rel => exact ⟨f, k' / 10, (48 + k' % 10) :: acc, rfl, rfl, by omega, by omega, kf', by simp; omega, hB.alloc hB.size _, hD'⟩
      case measure => simp [intOf]; omega
    · have hacc : Hid (mt k = strOfNums [109] ++ strOfNums acc) := by
        have h := hD.out
        have hz : digs f k' acc = acc := by
          cases f with
          | zero => rfl
          | succ f => rw [digs, if_pos (by omega)]
        rw [hz] at h
        show strOfNums [109] ++ strOfNums (digs 20 k []) = _
        rw [← h]
      have s2 : (strOfNums acc).size ≤ 20 := by rw [strOfNums_size]; omega
      clear hD kf
      go_wp2_with fail
      go_ret
      exact ⟨by rw [hacc.out]; rfl, hB⟩

set_option maxRecDepth 100000 in
set_option maxHeartbeats 1000000 in
theorem markUint32S_in (n : Nat) (v : Value) (C0 : Nat → Nat → Value) (B : Nat) (k : Int) (w : World) (hv : OwnArr w v 1 n C0 B) (hn : n ≤ 1048576) (h0 : 1 ≤ k) (h1 : k ≤ 1152921504606846976) :
    Calls Tryz.prog 58 #[v, .int .i64 k] w fun e w' => e = .returned (.int .i64 (k + 1 * n)) ∧ OwnArr w' v 1 n (fun i _ => .int .u32 ((k + (i : Int)) % 4294967296)) B ∧ Only B w w' := by
  obtain ⟨ao, cap, rfl, hm, hv⟩ := hv
  by_cases hn0 : n = 0
  · subst hn0
    go_enter Tryz.func58, Tryz.ntmps58
    go_wp2_with fail
    go_loopw [1, 5] (fun kv i wr => kv = .int .i64 k ∧ i = .int .i64 0 ∧ w = wr) (fun _ i _ => 0)
    case atStart => exact ⟨rfl, rfl, rfl⟩
    case round =>
      obtain ⟨rfl, rfl, rfl⟩ := hrel
      go_wp2_with fail
      go_ret
      exact ⟨by simp, ⟨ao, cap, rfl, hm, fun h => by omega⟩, Only.refl _ _⟩
  obtain ⟨rfl, t, m, g0, hr0, hm0, -⟩ := hv (by omega)
  clear hv
  go_enter Tryz.func58, Tryz.ntmps58
  go_wp2_with fail
  go_loopw [1, 5] (fun kv i wr => ∃ (i' : Nat) (g : Nat → Value), kv = .int .i64 (k + 1 * (i' : Int)) ∧ i = .int .i64 (i' : Int) ∧ i' ≤ n ∧ Only B w wr ∧ Hid (wr.rowIs B t m g ∧ Filled g 1 i' (fun i _ => .int .u32 ((k + (i : Int)) % 4294967296)))) (fun _ i _ => n - (intOf i).toNat)
  case atStart => exact ⟨0, g0, by simp, rfl, by omega, Only.refl _ _, hr0, fun i hi => by omega⟩
  case round =>
    obtain ⟨i', g, rfl, rfl, q1, q2, q3⟩ := hrel
    by_cases hi : i' < n
    · have hbd : i' * 1 + 1 ≤ m := by omega
      have d0 := q3.out.1.cell (show i' * 1 + 0 < m by omega)
      have e0 := q3.out.1.frozen (i' * 1 + 0)
      simp only [Nat.add_zero, Nat.mul_one] at d0 e0
      go_wp2_with fail
      go_roundw
      case rel =>
        have hrow := (q3.out.1.set (i' * 1 + 0) ((.int .u32 ((k + (i' : Int)) % 4294967296))))
        have honly := (q2.trans (Only.setCell _ (i' * 1 + 0) ((.int .u32 ((k + (i' : Int)) % 4294967296)))))
        simp only [Nat.add_zero, Nat.mul_one] at hrow honly
        refine ⟨i' + 1, _, by simp; omega, rfl, by omega, honly, hrow, fun a ha j hj => ?_⟩
        by_cases hki : a = i'
        · subst hki
          obtain rfl : j = 0 := by omega
          simp
        · have := q3.out.2 a (by omega) j hj
          dsimp only
          rw [if_neg (show a * 1 + j ≠ i' by omega)]
          exact this
      case measure => simp [intOf]; omega
    · obtain rfl : i' = n := by omega
      go_wp2_with fail
      go_ret
      exact ⟨by simp, ⟨_, cap, rfl, hm, fun _ => ⟨rfl, t, m, g, q3.out.1, hm0, q3.out.2⟩⟩, q2⟩

set_option maxRecDepth 100000 in
set_option maxHeartbeats 1000000 in
theorem markIntS_in (n : Nat) (v : Value) (C0 : Nat → Nat → Value) (B : Nat) (k : Int) (w : World) (hv : OwnArr w v 1 n C0 B) (hn : n ≤ 1048576) (h0 : 1 ≤ k) (h1 : k ≤ 1152921504606846976) :
    Calls Tryz.prog 16 #[v, .int .i64 k] w fun e w' => e = .returned (.int .i64 (k + 1 * n)) ∧ OwnArr w' v 1 n (fun i _ => .int .i64 (k + (i : Int))) B ∧ Only B w w' := by
  obtain ⟨ao, cap, rfl, hm, hv⟩ := hv
  by_cases hn0 : n = 0
  · subst hn0
    go_enter Tryz.func16, Tryz.ntmps16
    go_wp2_with fail
    go_loopw [1, 5] (fun kv i wr => kv = .int .i64 k ∧ i = .int .i64 0 ∧ w = wr) (fun _ i _ => 0)
    case atStart => exact ⟨rfl, rfl, rfl⟩
    case round =>
      obtain ⟨rfl, rfl, rfl⟩ := hrel
      go_wp2_with fail
      go_ret
      exact ⟨by simp, ⟨ao, cap, rfl, hm, fun h => by omega⟩, Only.refl _ _⟩
  obtain ⟨rfl, t, m, g0, hr0, hm0, -⟩ := hv (by omega)
  clear hv
  go_enter Tryz.func16, Tryz.ntmps16
  go_wp2_with fail
  go_loopw [1, 5] (fun kv i wr => ∃ (i' : Nat) (g : Nat → Value), kv = .int .i64 (k + 1 * (i' : Int)) ∧ i = .int .i64 (i' : Int) ∧ i' ≤ n ∧ Only B w wr ∧ Hid (wr.rowIs B t m g ∧ Filled g 1 i' (fun i _ => .int .i64 (k + (i : Int))))) (fun _ i _ => n - (intOf i).toNat)
  case atStart => exact ⟨0, g0, by simp, rfl, by omega, Only.refl _ _, hr0, fun i hi => by omega⟩
  case round =>
    obtain ⟨i', g, rfl, rfl, q1, q2, q3⟩ := hrel
    by_cases hi : i' < n
    · have hbd : i' * 1 + 1 ≤ m := by omega
      have d0 := q3.out.1.cell (show i' * 1 + 0 < m by omega)
      have e0 := q3.out.1.frozen (i' * 1 + 0)
      simp only [Nat.add_zero, Nat.mul_one] at d0 e0
      go_wp2_with fail
      go_roundw
      case rel =>
        have hrow := (q3.out.1.set (i' * 1 + 0) ((.int .i64 (k + (i' : Int)))))
        have honly := (q2.trans (Only.setCell _ (i' * 1 + 0) ((.int .i64 (k + (i' : Int))))))
        simp only [Nat.add_zero, Nat.mul_one] at hrow honly
        refine ⟨i' + 1, _, by simp; omega, rfl, by omega, honly, hrow, fun a ha j hj => ?_⟩
        by_cases hki : a = i'
        · subst hki
          obtain rfl : j = 0 := by omega
          simp
        · have := q3.out.2 a (by omega) j hj
          dsimp only
          rw [if_neg (show a * 1 + j ≠ i' by omega)]
          exact this
      case measure => simp [intOf]; omega
    · obtain rfl : i' = n := by omega
      go_wp2_with fail
      go_ret
      exact ⟨by simp, ⟨_, cap, rfl, hm, fun _ => ⟨rfl, t, m, g, q3.out.1, hm0, q3.out.2⟩⟩, q2⟩

set_option maxRecDepth 100000 in
set_option maxHeartbeats 1000000 in
theorem markStringS_in (n : Nat) (v : Value) (C0 : Nat → Nat → Value) (B : Nat) (k : Int) (w : World) (hv : OwnArr w v 1 n C0 B) (hn : n ≤ 1048576) (h0 : 1 ≤ k) (h1 : k ≤ 1152921504606846976) :
    Calls Tryz.prog 62 #[v, .int .i64 k] w fun e w' => e = .returned (.int .i64 (k + 1 * n)) ∧ OwnArr w' v 1 n (fun i _ => .string (mt (k + (i : Int)))) B ∧ Only B w w' := by
  obtain ⟨ao, cap, rfl, hm, hv⟩ := hv
  by_cases hn0 : n = 0
  · subst hn0
    go_enter Tryz.func62, Tryz.ntmps62
    go_wp2_with fail
    go_loopw [1, 5] (fun kv i wr => kv = .int .i64 k ∧ i = .int .i64 0 ∧ w = wr) (fun _ i _ => 0)
    case atStart => exact ⟨rfl, rfl, rfl⟩
    case round =>
      obtain ⟨rfl, rfl, rfl⟩ := hrel
      go_wp2_with fail
      go_ret
      exact ⟨by simp, ⟨ao, cap, rfl, hm, fun h => by omega⟩, Only.refl _ _⟩
  obtain ⟨rfl, t, m, g0, hr0, hm0, -⟩ := hv (by omega)
  clear hv
  go_enter Tryz.func62, Tryz.ntmps62
  go_wp2_with fail
  go_loopw [1, 5] (fun kv i wr => ∃ (i' : Nat) (g : Nat → Value), kv = .int .i64 (k + 1 * (i' : Int)) ∧ i = .int .i64 (i' : Int) ∧ i' ≤ n ∧ Only B w wr ∧ Hid (wr.rowIs B t m g ∧ Filled g 1 i' (fun i _ => .string (mt (k + (i : Int)))))) (fun _ i _ => n - (intOf i).toNat)
  case atStart => exact ⟨0, g0, by simp, rfl, by omega, Only.refl _ _, hr0, fun i hi => by omega⟩
  case round =>
    obtain ⟨i', g, rfl, rfl, q1, q2, q3⟩ := hrel
    by_cases hi : i' < n
    · have hbd : i' * 1 + 1 ≤ m := by omega
      have d0 := q3.out.1.cell (show i' * 1 + 0 < m by omega)
      have e0 := q3.out.1.frozen (i' * 1 + 0)
      simp only [Nat.add_zero, Nat.mul_one] at d0 e0
      go_wp2_with fail
      refine (markText_in (k + (i' : Int)) _ (by omega) (by omega)).mono ?_
      rintro e w1 ⟨rfl, b1⟩
      have q2' : Only B w w1 := q2.trans (Only.of_below b1)
      have hr1 := q3.out.1.of_block (w' := w1) (b1.block _ q3.out.1.lt)
      have hr1' : Hid (w1.rowIs B t m g) := hr1
      clear d0 e0
      have d0 := hr1.cell (show i' * 1 + 0 < m by omega)
      have e0 := hr1.frozen (i' * 1 + 0)
      simp only [Nat.add_zero, Nat.mul_one] at d0 e0
      clear hr1
      go_wp2_with fail
      go_roundw
      case rel =>
        have hrow := (hr1'.out.set (i' * 1 + 0) ((.string (mt (k + (i' : Int))))))
        have honly := (q2'.trans (Only.setCell _ (i' * 1 + 0) ((.string (mt (k + (i' : Int)))))))
        simp only [Nat.add_zero, Nat.mul_one] at hrow honly
        refine ⟨i' + 1, _, by simp; omega, rfl, by omega, honly, hrow, fun a ha j hj => ?_⟩
        by_cases hki : a = i'
        · subst hki
          obtain rfl : j = 0 := by omega
          simp
        · have := q3.out.2 a (by omega) j hj
          dsimp only
          rw [if_neg (show a * 1 + j ≠ i' by omega)]
          exact this
      case measure => simp [intOf]; omega
    · obtain rfl : i' = n := by omega
      go_wp2_with fail
      go_ret
      exact ⟨by simp, ⟨_, cap, rfl, hm, fun _ => ⟨rfl, t, m, g, q3.out.1, hm0, q3.out.2⟩⟩, q2⟩

set_option maxRecDepth 100000 in
set_option maxHeartbeats 1000000 in
theorem markUpS_in (n : Nat) (v : Value) (C0 : Nat → Nat → Value) (B : Nat) (k : Int) (w : World) (hv : OwnArr w v 2 n C0 B) (hn : n ≤ 1048576) (h0 : 1 ≤ k) (h1 : k ≤ 1152921504606846976) :
    Calls Tryz.prog 60 #[v, .int .i64 k] w fun e w' => e = .returned (.int .i64 (k + 2 * n)) ∧ OwnArr w' v 2 n (fun i j => match j with | 0 => .bool ((k + 2 * (i : Int)) % 3 == 0) | _ => .int .i64 (k + 2 * (i : Int) + 1)) B ∧ Only B w w' := by
  obtain ⟨ao, cap, rfl, hm, hv⟩ := hv
  by_cases hn0 : n = 0
  · subst hn0
    go_enter Tryz.func60, Tryz.ntmps60
    go_wp2_with fail
    go_loopw [1, 5] (fun kv i wr => kv = .int .i64 k ∧ i = .int .i64 0 ∧ w = wr) (fun _ i _ => 0)
    case atStart => exact ⟨rfl, rfl, rfl⟩
    case round =>
      obtain ⟨rfl, rfl, rfl⟩ := hrel
      go_wp2_with fail
      go_ret
      exact ⟨by simp, ⟨ao, cap, rfl, hm, fun h => by omega⟩, Only.refl _ _⟩
  obtain ⟨rfl, t, m, g0, hr0, hm0, -⟩ := hv (by omega)
  clear hv
  go_enter Tryz.func60, Tryz.ntmps60
  go_wp2_with fail
  go_loopw [1, 5] (fun kv i wr => ∃ (i' : Nat) (g : Nat → Value), kv = .int .i64 (k + 2 * (i' : Int)) ∧ i = .int .i64 (i' : Int) ∧ i' ≤ n ∧ Only B w wr ∧ Hid (wr.rowIs B t m g ∧ Filled g 2 i' (fun i j => match j with | 0 => .bool ((k + 2 * (i : Int)) % 3 == 0) | _ => .int .i64 (k + 2 * (i : Int) + 1)))) (fun _ i _ => n - (intOf i).toNat)
  case atStart => exact ⟨0, g0, by simp, rfl, by omega, Only.refl _ _, hr0, fun i hi => by omega⟩
  case round =>
    obtain ⟨i', g, rfl, rfl, q1, q2, q3⟩ := hrel
    by_cases hi : i' < n
    · have hbd : i' * 2 + 2 ≤ m := by omega
      have d0 := q3.out.1.cell (show i' * 2 + 0 < m by omega)
      have e0 := q3.out.1.frozen (i' * 2 + 0)
      have d1 := q3.out.1.cell (show i' * 2 + 1 < m by omega)
      have e1 := q3.out.1.frozen (i' * 2 + 1)
      simp only [Nat.add_zero, Nat.mul_one] at d0 e0 d1 e1
      go_wp2_with fail
      go_roundw
      case rel =>
        have hrow := ((q3.out.1.set (i' * 2 + 0) ((.bool ((k + 2 * (i' : Int)) % 3 == 0)))).set (i' * 2 + 1) ((.int .i64 (k + 2 * (i' : Int) + 1))))
        have honly := ((q2.trans (Only.setCell _ (i' * 2 + 0) ((.bool ((k + 2 * (i' : Int)) % 3 == 0))))).trans (Only.setCell _ (i' * 2 + 1) ((.int .i64 (k + 2 * (i' : Int) + 1)))))
        simp only [Nat.add_zero, Nat.mul_one] at hrow honly
        refine ⟨i' + 1, _, by congr 1; omega, rfl, by omega, honly, hrow, fun a ha j hj => ?_⟩
        by_cases hki : a = i'
        · subst hki
          rcases (show j = 0 ∨ j = 1 by omega) with rfl | rfl <;> simp
        · have := q3.out.2 a (by omega) j hj
          dsimp only
          rw [if_neg (show a * 2 + j ≠ i' * 2 + 1 by omega)]
          rw [if_neg (show a * 2 + j ≠ i' * 2 by omega)]
          exact this
      case measure => simp [intOf]; omega
    · obtain rfl : i' = n := by omega
      go_wp2_with fail
      go_ret
      exact ⟨rfl, ⟨_, cap, rfl, hm, fun _ => ⟨rfl, t, m, g, q3.out.1, hm0, q3.out.2⟩⟩, q2⟩

set_option maxRecDepth 100000 in
set_option maxHeartbeats 1000000 in
theorem markValueS_in (n : Nat) (v : Value) (C0 : Nat → Nat → Value) (B : Nat) (k : Int) (w : World) (hv : OwnArr w v 3 n C0 B) (hn : n ≤ 1048576) (h0 : 1 ≤ k) (h1 : k ≤ 1152921504606846976) :
    Calls Tryz.prog 59 #[v, .int .i64 k] w fun e w' => e = .returned (.int .i64 (k + 3 * n)) ∧ OwnArr w' v 3 n (fun i j => match j with | 0 => .int .i64 (k + 3 * (i : Int)) | 1 => .int .i64 (k + 3 * (i : Int) + 1) | _ => .string (mt (k + 3 * (i : Int) + 1 + 1))) B ∧ Only B w w' := by
  obtain ⟨ao, cap, rfl, hm, hv⟩ := hv
  by_cases hn0 : n = 0
  · subst hn0
    go_enter Tryz.func59, Tryz.ntmps59
    go_wp2_with fail
    go_loopw [1, 5] (fun kv i wr => kv = .int .i64 k ∧ i = .int .i64 0 ∧ w = wr) (fun _ i _ => 0)
    case atStart => exact ⟨rfl, rfl, rfl⟩
    case round =>
      obtain ⟨rfl, rfl, rfl⟩ := hrel
      go_wp2_with fail
      go_ret
      exact ⟨by simp, ⟨ao, cap, rfl, hm, fun h => by omega⟩, Only.refl _ _⟩
  obtain ⟨rfl, t, m, g0, hr0, hm0, -⟩ := hv (by omega)
  clear hv
  go_enter Tryz.func59, Tryz.ntmps59
  go_wp2_with fail
  go_loopw [1, 5] (fun kv i wr => ∃ (i' : Nat) (g : Nat → Value), kv = .int .i64 (k + 3 * (i' : Int)) ∧ i = .int .i64 (i' : Int) ∧ i' ≤ n ∧ Only B w wr ∧ Hid (wr.rowIs B t m g ∧ Filled g 3 i' (fun i j => match j with | 0 => .int .i64 (k + 3 * (i : Int)) | 1 => .int .i64 (k + 3 * (i : Int) + 1) | _ => .string (mt (k + 3 * (i : Int) + 1 + 1))))) (fun _ i _ => n - (intOf i).toNat)
  case atStart => exact ⟨0, g0, by simp, rfl, by omega, Only.refl _ _, hr0, fun i hi => by omega⟩
  case round =>
    obtain ⟨i', g, rfl, rfl, q1, q2, q3⟩ := hrel
    by_cases hi : i' < n
    · have hbd : i' * 3 + 3 ≤ m := by omega
      have d0 := q3.out.1.cell (show i' * 3 + 0 < m by omega)
      have e0 := q3.out.1.frozen (i' * 3 + 0)
      have d1 := q3.out.1.cell (show i' * 3 + 1 < m by omega)
      have e1 := q3.out.1.frozen (i' * 3 + 1)
      have d2 := q3.out.1.cell (show i' * 3 + 2 < m by omega)
      have e2 := q3.out.1.frozen (i' * 3 + 2)
      simp only [Nat.add_zero, Nat.mul_one] at d0 e0 d1 e1 d2 e2
      have hrA := (q3.out.1.set (i' * 3 + 0) (.int .i64 (k + 3 * (i' : Int)))).set (i' * 3 + 1) (.int .i64 (k + 3 * (i' : Int) + 1))
      have hoA := (q2.trans (Only.setCell _ (i' * 3 + 0) (.int .i64 (k + 3 * (i' : Int))))).trans (Only.setCell _ (i' * 3 + 1) (.int .i64 (k + 3 * (i' : Int) + 1)))
      simp only [Nat.add_zero] at hrA hoA
      have hrA' : Hid _ := hrA
      have hoA' : Hid _ := hoA
      clear hrA hoA
      go_wp2_with fail
      refine (markText_in (k + 3 * (i' : Int) + 1 + 1) _ (by omega) (by omega)).mono ?_
      rintro e w1 ⟨rfl, b1⟩
      have q2' : Only B w w1 := hoA'.out.trans (Only.of_below b1)
      have hr1 := World.rowIs.of_block (w' := w1) hrA'.out (b1.block _ (World.rowIs.lt hrA'.out))
      have hr1' : Hid (w1.rowIs B t m _) := hr1
      clear hrA' hoA' d0 e0 d1 e1 d2 e2 b1
      have d2 := hr1.cell (show i' * 3 + 2 < m by omega)
      have e2 := hr1.frozen (i' * 3 + 2)
      rw [if_neg (by omega), if_neg (by omega)] at d2
      clear hr1
      go_wp2_with fail
      go_roundw
      case rel =>
        refine ⟨i' + 1, _, by congr 1; omega, rfl, by omega, q2'.trans (Only.setCell _ (i' * 3 + 2) (.string (mt (k + 3 * (i' : Int) + 1 + 1)))), hr1'.out.set (i' * 3 + 2) (.string (mt (k + 3 * (i' : Int) + 1 + 1))), fun a ha j hj => ?_⟩
        by_cases hki : a = i'
        · subst hki
          rcases (show j = 0 ∨ j = 1 ∨ j = 2 by omega) with rfl | rfl | rfl <;> simp
        · have := q3.out.2 a (by omega) j hj
          dsimp only
          rw [if_neg (show a * 3 + j ≠ i' * 3 + 2 by omega)]
          rw [if_neg (show a * 3 + j ≠ i' * 3 + 1 by omega)]
          rw [if_neg (show a * 3 + j ≠ i' * 3 by omega)]
          exact this
      case measure => simp [intOf]; omega
    · obtain rfl : i' = n := by omega
      go_wp2_with fail
      go_ret
      exact ⟨rfl, ⟨_, cap, rfl, hm, fun _ => ⟨rfl, t, m, g, q3.out.1, hm0, q3.out.2⟩⟩, q2⟩
end Go.Proofs.YtckapapejfnojaaGreatDoor

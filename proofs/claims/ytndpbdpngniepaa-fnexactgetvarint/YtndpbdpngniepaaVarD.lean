import Derived.Test.YtndpbdpngniepaaVarA
import Derived.Lib.Strings
namespace Go.Proofs.Ytndpbdpngniepaa
open Go.RowKit
set_option linter.unusedVariables false
/-- The number that a list of bytes says, seven bits a byte. -/
def dec : List Int → Int
  | [] => 0
  | b :: bs => b % 128 + 128 * dec bs
/-- All bytes but the last have 128 added. -/
def proper : List Int → Prop
  | [] => False
  | [m] => 0 ≤ m ∧ m < 128
  | x :: y :: xs => 128 ≤ x ∧ x ≤ 255 ∧ proper (y :: xs)
set_option maxRecDepth 100000 in
theorem dec_nonneg : ∀ l : List Int, 0 ≤ dec l
  | [] => by simp [dec]
  | b :: bs => by have := dec_nonneg bs; simp only [dec]; omega
set_option maxRecDepth 100000 in
theorem pvL_dec : ∀ (l : List Int) (k : Nat), proper l → l.length ≤ k → (pvL k (dec l)).length = l.length → pvL k (dec l) = l
  | [], k, h, _, _ => h.elim
  | [m], k, h, hk, _ => by
    obtain ⟨j, rfl⟩ : ∃ j, k = j + 1 := ⟨k - 1, by simp at hk; omega⟩
    have e : dec [m] = m := by have := h.1; have := h.2; simp only [dec]; omega
    rw [e, pvL_small _ _ h.2]
  | x :: y :: xs, k, h, hk, hl => by
    obtain ⟨j, rfl⟩ : ∃ j, k = j + 1 := ⟨k - 1, by simp at hk; omega⟩
    obtain ⟨h1, h2, h3⟩ := h
    have hd := dec_nonneg (y :: xs)
    have e : dec (x :: y :: xs) = x % 128 + 128 * dec (y :: xs) := rfl
    by_cases hz : dec (y :: xs) = 0
    · have : dec (x :: y :: xs) < 128 := by rw [e, hz]; omega
      rw [pvL_small _ _ this] at hl
      simp at hl
    · have hb : 128 ≤ dec (x :: y :: xs) := by rw [e]; omega
      have e1 : dec (x :: y :: xs) % 128 + 128 = x := by rw [e]; omega
      have e2 : dec (x :: y :: xs) / 128 = dec (y :: xs) := by rw [e]; omega
      rw [pvL_big _ _ hb, e1, e2] at hl ⊢
      rw [pvL_dec (y :: xs) j h3 (by simp at hk ⊢; omega) (by simpa using hl)]
set_option maxRecDepth 100000 in
theorem back_map (l : List UInt8) : (l.map fun c => (c.toNat : Int)).map (fun n => UInt8.ofNat n.toNat) = l := by
  rw [List.map_map]
  conv => rhs; rw [← List.map_id l]
  refine List.map_congr_left fun c _ => ?_
  simp
set_option maxRecDepth 100000 in
theorem agree (l : List UInt8) (N : Int) (hp : proper (l.map fun c => (c.toNat : Int))) (h5 : l.length ≤ 5) (hN : dec (l.map fun c => (c.toNat : Int)) = N) :
    ((pv N).size = l.length) ↔ (pv N).data.toList = l := by
  constructor
  · intro hs
    have hl : 0 < l.length := by
      cases l with
      | nil => exact hp.elim
      | cons _ _ => simp
    have hin : ¬ (N < 0 ∨ 16777215 < N) := fun h => by rw [pv_out h] at hs; simp at hs; omega
    rw [pv_in hin] at hs ⊢
    rw [strOfNums_size] at hs
    have e : pvL 5 N = l.map fun c => (c.toNat : Int) := by
      rw [← hN] at hs ⊢
      exact pvL_dec _ 5 hp (by simpa using h5) (by simpa using hs)
    rw [e, strOfNums_data, back_map]
  · intro hs
    have h2 := congrArg List.length hs
    exact (Array.length_toList (xs := (pv N).data)).symm.trans h2
set_option maxRecDepth 100000 in
theorem agreeB (r : ByteArray) (n : Nat) (l : List UInt8) (N : Int) (hl : (r.extract 0 n).data.toList = l) (hn : l.length = n) (hp : proper (l.map fun c => (c.toNat : Int))) (h5 : n ≤ 5) (hN : dec (l.map fun c => (c.toNat : Int)) = N) :
    ((pv N).toList == (r.extract 0 n).toList) = (((pv N).size : Int) == n) := by
  have h := agree l N hp (by omega) hN
  rw [ByteArray.toList_eq, ByteArray.toList_eq, hl, Bool.eq_iff_iff, beq_iff_eq, beq_iff_eq, ← h, hn]
  omega
set_option maxRecDepth 100000 in
theorem head1 (r : ByteArray) (h : 0 < r.size) : (r.extract 0 1).data.toList = [r[0]] := by
  obtain ⟨⟨l⟩⟩ := r
  match l, h with
  | x0 :: l, _ => rw [Lib.extract_data]; rfl
set_option maxRecDepth 100000 in
theorem head2 (r : ByteArray) (h : 1 < r.size) : (r.extract 0 2).data.toList = [r[0], r[1]] := by
  obtain ⟨⟨l⟩⟩ := r
  match l, h with
  | x0 :: x1 :: l, _ => rw [Lib.extract_data]; rfl
  | [x0], h => exact absurd h (by simp [ByteArray.size])
set_option maxRecDepth 100000 in
theorem head3 (r : ByteArray) (h : 2 < r.size) : (r.extract 0 3).data.toList = [r[0], r[1], r[2]] := by
  obtain ⟨⟨l⟩⟩ := r
  match l, h with
  | x0 :: x1 :: x2 :: l, _ => rw [Lib.extract_data]; rfl
  | [x0, x1], h => exact absurd h (by simp [ByteArray.size])
  | [x0], h => exact absurd h (by simp [ByteArray.size])
set_option maxRecDepth 100000 in
theorem head4 (r : ByteArray) (h : 3 < r.size) : (r.extract 0 4).data.toList = [r[0], r[1], r[2], r[3]] := by
  obtain ⟨⟨l⟩⟩ := r
  match l, h with
  | x0 :: x1 :: x2 :: x3 :: l, _ => rw [Lib.extract_data]; rfl
  | [x0, x1, x2], h => exact absurd h (by simp [ByteArray.size])
  | [x0, x1], h => exact absurd h (by simp [ByteArray.size])
  | [x0], h => exact absurd h (by simp [ByteArray.size])
set_option maxRecDepth 100000 in
theorem rest_size (s : ByteArray) (a : Nat) : (s.extract a s.size).size = s.size - a := by simp
set_option maxRecDepth 100000 in
theorem rest_get (s : ByteArray) (a j : Nat) (h : j < (s.extract a s.size).size) (h' : a + j < s.size) : (s.extract a s.size)[j] = s[a + j] := by
  simp [ByteArray.getElem_eq_getElem_data]
end Go.Proofs.Ytndpbdpngniepaa

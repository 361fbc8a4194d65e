import Derived.Test.YtkanjbopfflioaaGreatDoorG18
import Derived.Lib.Split
import Derived.Lib.SplitLaws
import Derived.Lib.CountLaws
import Derived.Lib.IndexLaws
import Derived.Lib.IndexBytes
import Derived.Lib.CutLaws
import Derived.Test.YtkanjbopfflioaaGreatDoorG37
import Derived.Lib.Strings
namespace Go.Proofs.YtkanjbopfflioaaGreatDoor
section
open Go.RowKit
set_option linter.unusedVariables false
set_option linter.unusedSimpArgs false
theorem indexB_one (s : ByteArray) (b : UInt8) : Lib.indexB s ⟨#[b]⟩ = Lib.indexByte s.data.toList b := Lib.index_one s.data.toList b
theorem cutB_no {s : ByteArray} {b : UInt8} (h : Lib.indexB s ⟨#[b]⟩ = -1) : cutB b s = [s] := by
  rw [indexB_one] at h
  unfold cutB
  rw [cutL_no b _ (fun x hx e => by
    obtain ⟨k, hk⟩ := List.getElem?_of_mem hx
    rw [e] at hk
    exact Lib.indexByte_none h k hk)]
  simp
theorem cutB_hit {s : ByteArray} {b : UInt8} {i : Nat} (h : Lib.indexB s ⟨#[b]⟩ = i) : cutB b s = s.extract 0 i :: cutB b (s.extract (i + 1) s.size) := by
  rw [indexB_one] at h
  obtain ⟨h1, h2⟩ := Lib.indexByte_some h
  have hl : s.data.toList.length = s.size := by rw [Array.length_toList]; rfl
  have hlt : i < s.size := by have := (List.getElem?_eq_some_iff.1 h1).1; omega
  have e1 : s.data.toList = s.data.toList.take i ++ b :: s.data.toList.drop (i + 1) := by
    conv => lhs; rw [← List.take_append_drop i s.data.toList]
    congr 1
    rw [List.drop_eq_getElem_cons (by omega)]
    rw [List.getElem?_eq_getElem (by omega)] at h1
    rw [Option.some.inj h1]
  have e2 : (s.extract 0 i).data.toList = s.data.toList.take i := by
    rw [extract_list s 0 i (Nat.zero_le _) (by omega)]
    simp
  have e3 : (s.extract (i + 1) s.size).data.toList = s.data.toList.drop (i + 1) := by
    rw [extract_list s (i + 1) s.size (by omega) (Nat.le_refl _)]
    exact List.take_of_length_le (by rw [List.length_drop]; omega)
  unfold cutB
  rw [e3]
  conv => lhs; rw [e1]
  rw [cutL_hit b _ _ (fun x hx e => by
    obtain ⟨k, hk⟩ := List.getElem?_of_mem hx
    have hk1 : k < i := by have := (List.getElem?_eq_some_iff.1 hk).1; simp at this; omega
    rw [List.getElem?_take_of_lt hk1, e] at hk
    exact h2 k hk1 hk)]
  rw [List.map_cons]
  congr 1
  apply ByteArray.ext
  apply Array.ext'
  rw [e2]
/-- strings.Split at one byte. -/
theorem split_cut (b : UInt8) : ∀ (k : Nat) (s : ByteArray), Lib.countB s ⟨#[b]⟩ = k → Lib.splitB ⟨#[b]⟩ 0 k s = cutB b s
  | k, s, h => by
    rcases Lib.indexB_cases s ⟨#[b]⟩ with hm | ⟨i, hi, _⟩
    · rw [Lib.splitB_miss _ _ _ _ hm, cutB_no hm]
    · have hc := Lib.countB_hit s ⟨#[b]⟩ i (Nat.le_refl 1) hi
      cases k with
      | zero => omega
      | succ k =>
        rw [Lib.splitB_hit _ _ _ _ i hi, cutB_hit hi]
        congr 1
        exact split_cut b k (s.extract (i + 1) s.size) (by have e9 : (⟨#[b]⟩ : ByteArray).size = 1 := rfl; rw [e9] at hc; omega)
theorem split_len (b : UInt8) (s : ByteArray) : (cutB b s).length = Lib.countB s ⟨#[b]⟩ + 1 := by
  rw [← split_cut b _ s rfl]
  exact Lib.splitB_all ⟨#[b]⟩ (Nat.le_refl 1) 0 _ s rfl
end
section
open Go.RowKit
set_option linter.unusedVariables false
set_option linter.unusedSimpArgs false
theorem cutB_ne (b : UInt8) (s : ByteArray) : cutB b s ≠ [] := by
  unfold cutB
  intro h
  exact cutL_ne b _ (List.map_eq_nil_iff.1 h)
theorem linesOf_nil {s : ByteArray} (h : s.size = 0) : linesOf s = [] := by
  have e : s = ⟨#[]⟩ := by
    apply ByteArray.ext
    apply Array.eq_empty_of_size_eq_zero
    exact h
  subst e
  rfl
theorem linesOf_no {s : ByteArray} (h : Lib.indexB s ⟨#[10]⟩ = -1) (h0 : 0 < s.size) : linesOf s = [s] := by
  unfold linesOf
  rw [cutB_no h, if_neg]
  simp only [List.getLast?_singleton, Option.some.injEq]
  intro e
  rw [e] at h0
  exact absurd h0 (by decide)
theorem linesOf_hit {s : ByteArray} {i : Nat} (h : Lib.indexB s ⟨#[10]⟩ = i) : linesOf s = s.extract 0 i :: linesOf (s.extract (i + 1) s.size) := by
  unfold linesOf
  rw [cutB_hit h]
  obtain ⟨c, l, hl⟩ : ∃ c l, cutB 10 (s.extract (i + 1) s.size) = c :: l := by
    cases hc : cutB 10 (s.extract (i + 1) s.size) with
    | nil => exact absurd hc (cutB_ne _ _)
    | cons c l => exact ⟨c, l, rfl⟩
  rw [hl, List.getLast?_cons_cons, List.dropLast_cons_cons]
  split <;> rfl
/-- a line without its newline. -/
def trimNL (s : ByteArray) : ByteArray := ⟨(Lib.trimSuffix s.data.toList [10]).toArray⟩
theorem trimNL_hit {s : ByteArray} {i : Nat} (h : s.data.toList[i]? = some 10) : trimNL (s.extract 0 (i + 1)) = s.extract 0 i := by
  have hl : s.data.toList.length = s.size := by rw [Array.length_toList]; rfl
  have hi : i < s.data.toList.length := (List.getElem?_eq_some_iff.1 h).1
  have e1 : (s.extract 0 (i + 1)).data.toList = s.data.toList.take i ++ [10] := by
    rw [extract_list s 0 (i + 1) (Nat.zero_le _) (by omega), List.drop_zero, Nat.sub_zero, List.take_add_one, h]
    rfl
  have e2 : (s.extract 0 i).data.toList = s.data.toList.take i := by
    rw [extract_list s 0 i (Nat.zero_le _) (by omega)]
    simp
  unfold trimNL Lib.trimSuffix
  rw [e1]
  have hsf : Lib.hasSuffix (s.data.toList.take i ++ [10]) [10] = true := by
    unfold Lib.hasSuffix
    rw [List.isSuffixOf_iff_suffix]
    exact List.suffix_append _ _
  rw [if_pos hsf]
  apply ByteArray.ext
  apply Array.ext'
  rw [e2]
  simp
theorem trimNL_no {s : ByteArray} (h : ∀ k : Nat, s.data.toList[k]? ≠ some 10) : trimNL s = s := by
  unfold trimNL Lib.trimSuffix
  have hsf : ¬ Lib.hasSuffix s.data.toList [10] = true := by
    unfold Lib.hasSuffix
    rw [List.isSuffixOf_iff_suffix]
    rintro ⟨t, ht⟩
    refine h t.length ?_
    rw [← ht]
    simp
  rw [if_neg hsf]
/-- the next line of what is left, and what is left behind it. -/
inductive NextLn (s : ByteArray) : ByteArray → ByteArray → Prop
  | hit {i : Nat} : Lib.indexB s ⟨#[10]⟩ = (i : Int) → i < s.size → NextLn s (s.extract 0 (i + 1)) (s.extract (i + 1) s.size)
  | no : Lib.indexB s ⟨#[10]⟩ = -1 → 0 < s.size → NextLn s s ⟨#[]⟩
theorem NextLn.lines {s x r : ByteArray} (h : NextLn s x r) : linesOf s = trimNL x :: linesOf r := by
  cases h with
  | hit h hi =>
    rw [linesOf_hit h, trimNL_hit]
    rw [indexB_one] at h
    exact (Lib.indexByte_some h).1
  | no h h0 =>
    rw [linesOf_no h h0, linesOf_nil (s := ⟨#[]⟩) rfl, trimNL_no]
    intro k
    rw [indexB_one] at h
    exact Lib.indexByte_none h k
theorem NextLn.less {s x r : ByteArray} (h : NextLn s x r) : r.size < s.size ∧ x.size ≤ s.size := by
  cases h with
  | hit h hi => simp only [ByteArray.size_extract]; omega
  | no h h0 => exact ⟨h0, Nat.le_refl _⟩
end
end Go.Proofs.YtkanjbopfflioaaGreatDoor

import Derived.Test.YtkanjbopfflioaaGreatDoorG00
import Derived.Deep.Cut
import Derived.Deep.CutRange
import Derived.WalkSmall
namespace Go.Proofs.YtkanjbopfflioaaGreatDoor
open Go.RowKit
set_option linter.unusedVariables false
set_option linter.unusedSimpArgs false
set_option maxRecDepth 100000
set_option maxHeartbeats 2000000
theorem hidR {p : Prop} (h : p) : Hid p := h
/-- where the digits begin. -/
def fromOf (s : ByteArray) : Nat := if s.data.toList.head? = some 45 then 1 else 0
theorem fromOf_dec (n : Int) : fromOf (dec n) = if n < 0 then 1 else 0 := by
  unfold fromOf
  rw [dec_list]
  by_cases h : n < 0
  · rw [if_pos h, if_pos h]; rfl
  · rw [if_neg h, if_neg h]
    obtain ⟨c, r, h1, h2, h3⟩ := decDigits_head n.natAbs
    rw [h1, if_neg]
    intro e
    simp only [List.head?_cons, Option.some.injEq] at e
    subst e
    simp at h2
theorem fromOf_le (s : ByteArray) : fromOf s ≤ s.size := by
  unfold fromOf
  split
  · rename_i h
    cases hl : s.data.toList with
    | nil => rw [hl] at h; cases h
    | cons c r =>
      have : s.size = s.data.toList.length := by rw [Array.length_toList]; rfl
      rw [this, hl]
      simp
  · omega
theorem get_list {s : ByteArray} {i : Nat} (h : i < s.size) : s.data.toList[i]? = some s[i] := by
  rw [Array.getElem?_toList, Array.getElem?_eq_getElem h]
  rfl
theorem dec_digit {n : Int} {i : Nat} (h1 : fromOf (dec n) ≤ i) (h2 : i < (dec n).size) : ((dec n)[i].toNat : Int) = 48 + ((n.natAbs / 10 ^ (Lib.nDigits n.natAbs - 1 - (i - fromOf (dec n))) % 10 : Nat) : Int) ∧ i - fromOf (dec n) < Lib.nDigits n.natAbs := by
  have hg := get_list h2
  have hl := dec_len n
  rw [fromOf_dec] at h1 ⊢
  rw [dec_list] at hg
  by_cases h : n < 0
  · rw [if_pos h] at hg h1 hl ⊢
    have hj : i - 1 < Lib.nDigits n.natAbs := by omega
    obtain ⟨j, rfl⟩ : ∃ j, i = j + 1 := ⟨i - 1, by omega⟩
    rw [List.getElem?_cons_succ, digit_at (by omega)] at hg
    have he := Option.some.inj hg
    refine ⟨?_, hj⟩
    rw [← he, dg_byte (by omega), Nat.add_sub_cancel]
    omega
  · rw [if_neg h] at hg h1 hl ⊢
    have hj : i - 0 < Lib.nDigits n.natAbs := by omega
    rw [digit_at (by omega)] at hg
    have he := Option.some.inj hg
    refine ⟨?_, hj⟩
    rw [← he, dg_byte (by omega), Nat.sub_zero]
    omega
theorem str_eq (a b : ByteArray) : (a.toList == b.toList) = decide (a = b) := by
  by_cases h : a = b
  · subst h; simp
  · rw [decide_eq_false h]
    simp only [ByteArray.toList_eq, beq_eq_false_iff_ne, ne_eq]
    intro e
    exact h (ByteArray.ext (Array.ext' e))
/-- what the reader of a decimal gives. -/
def IntEnds (s : ByteArray) (e : Ending) : Prop := ∃ (n : Int) (b : Bool), e = .returned (.tuple #[.int .i64 n, .bool b]) ∧ I64 n ∧ (b = true → decOf s = some n) ∧ (b = false → decOf s = none)
theorem tdiv_up {x : Int} (h : x ≤ 0) : x ≤ 10 * x.tdiv 10 ∧ 10 * x.tdiv 10 < x + 10 := by
  obtain ⟨k, rfl⟩ : ∃ k : Nat, x = -(k : Int) := ⟨x.natAbs, by omega⟩
  rw [Int.neg_tdiv, Int.tdiv_eq_ediv_of_nonneg (by omega)]
  omega
theorem l6Int_in (s : ByteArray) (hs : s.size ≤ 100000) (w : World) :
    Calls Tryz.prog 60 #[.string s] w fun e w' => IntEnds s e ∧ Below w.heap.size w w' := by
  obtain ⟨f, hf⟩ : ∃ f, fromOf s = f := ⟨_, rfl⟩
  have hfs := fromOf_le s
  rw [hf] at hfs
  have hf1 : f = 0 ∨ f = 1 := by rw [← hf]; unfold fromOf; split <;> simp
  have hneg : Hid (∀ N, s = dec N → (if N < 0 then 1 else 0) = f) := fun N e => by rw [← hf, e, fromOf_dec]
  have hfe := hidR hf
  clear hf
  go_enter Tryz.func60, Tryz.ntmps60
  go_upto_region 3 with fail
  go_cut [15] from 8 (fun sx wr => w = wr ∧ sx = .bool (decide (f = 1)))
  case first =>
    by_cases hz : 0 < s.size
    · have hzI : (0 : Int) < (s.size : Int) := by omega
      have hb : f = 1 ↔ (s[0].toNat : Int) = 45 := by
        rw [← hfe.out]
        unfold fromOf
        have := get_list hz
        rw [List.head?_eq_getElem?, this]
        constructor
        · intro h
          split at h
          · rename_i h2
            rw [Option.some.inj h2]; rfl
          · omega
        · intro h
          rw [if_pos]
          congr 1
          exact UInt8.toNat_inj.1 (by simpa using (by omega : s[0].toNat = 45))
      by_cases h45 : (s[0].toNat : Int) = 45
      · have hd : f = 1 := hb.2 h45
        have hbe : ((s[0].toNat : Int) == 45) = true := by simpa using h45
        clear hb
        go_wp2_with fail
        go_meet
        case rel => exact ⟨rfl, by simp [hd]⟩
      · have hd : ¬ f = 1 := fun e => h45 (hb.1 e)
        have hbe : ((s[0].toNat : Int) == 45) = false := by simpa using h45
        clear hb
        go_wp2_with fail
        go_meet
        case rel => exact ⟨rfl, by simp [hd]⟩
    · have hd : ¬ f = 1 := by omega
      have hzI : ¬ (0 : Int) < (s.size : Int) := by omega
      go_wp2_with fail
      go_meet
      case rel => exact ⟨rfl, by simp [hd]⟩
  obtain ⟨hw9, hs9⟩ := hcut
  subst hw9
  subst hs9
  go_upto_if 15 with fail
  go_cut [5] from 8 (fun sx wr => w = wr ∧ sx = .int .i64 (f : Int))
  case first =>
    rcases hf1 with rfl | rfl
    · have hd : decide ((0 : Nat) = 1) = false := by decide
      rw [hd]
      go_wp2_with fail
      go_meet
      case rel => exact ⟨rfl, rfl⟩
    · have hd : decide ((1 : Nat) = 1) = true := by decide
      rw [hd]
      go_wp2_with fail
      go_meet
      case rel => exact ⟨rfl, rfl⟩
  obtain ⟨hw9, hs9⟩ := hcut
  subst hw9
  subst hs9
  go_upto_region 5 with fail
  go_cut [26] from 8 (fun sx wr => w = wr ∧ sx = .bool (decide (s.size = f ∨ f + 19 < s.size)))
  case first =>
    by_cases h1 : s.size = f
    · have hbe : ((s.size : Int) == (f : Int)) = true := by simp; omega
      go_wp2_with fail
      go_meet
      case rel => exact ⟨rfl, by simp [h1]⟩
    · have hbe : ((s.size : Int) == (f : Int)) = false := by simp; omega
      by_cases h2 : f + 19 < s.size
      · have hI : (s.size : Int) > (f : Int) + 19 := by omega
        go_wp2_with fail
        go_meet
        case rel => exact ⟨rfl, by simp [h1, h2]⟩
      · have hI : ¬ (s.size : Int) > (f : Int) + 19 := by omega
        go_wp2_with fail
        go_meet
        case rel => exact ⟨rfl, by simp [h1, h2]⟩
  obtain ⟨hw9, hs9⟩ := hcut
  subst hw9
  subst hs9
  by_cases hlen : s.size = f ∨ f + 19 < s.size
  · have hno : Hid (decOf s = none) := by
      cases hd : decOf s with
      | none => rfl
      | some n =>
        exfalso
        obtain ⟨hn, he⟩ := decOf_some hd
        have h1 := hneg.out n he
        have h2 := dec_len n
        rw [← he] at h2
        have h3 := Lib.nDigits_pos n.natAbs
        have h4 := nDigits_le (u := n.natAbs) (by unfold I64 at hn; omega)
        split at h1 <;> split at h2 <;> omega
    rw [decide_eq_true hlen]
    go_wp2_with fail
    exact bodyPost_ret (v := .tuple #[.int .i64 0, .bool false]) (by simp [results, Tryz.results60, go_sem]) rfl ⟨⟨0, false, rfl, by unfold I64; omega, by simp, fun _ => hno.out⟩, Below.refl _ _⟩
  rw [decide_eq_false hlen]
  go_wp2_with fail
  go_loopw [4, 6, 7] (fun nv iv _ wr => ∃ (m : Int) (i : Nat), nv = .int .i64 m ∧ iv = .int .i64 (i : Int) ∧ f ≤ i ∧ i ≤ s.size ∧ -9223372036854775808 ≤ m ∧ m ≤ 0 ∧ w = wr ∧ Hid (∀ N, I64 N → s = dec N → m = -((preV N.natAbs (i - f) : Nat) : Int))) (fun _ iv _ _ => s.size - (intOf iv).toNat)
  case atStart => exact ⟨0, f, rfl, rfl, Nat.le_refl _, hfs, by omega, by omega, rfl, fun N _ _ => by rw [Nat.sub_self, preV_zero]; rfl⟩
  case round =>
    obtain ⟨m, i, rfl, rfl, hi1, hi2, hm1, hm2, hwr, hI⟩ := hrel
    subst hwr
    by_cases hlt : i < s.size
    · have hlI : (i : Int) < (s.size : Int) := by omega
      have hc8 : (s[i].toNat : Int) ≤ 255 := by have := s[i].toNat_lt; omega
      have hdig : Hid (∀ N, I64 N → s = dec N → (48 ≤ (s[i].toNat : Int) ∧ (s[i].toNat : Int) ≤ 57) ∧ -(m * 10 - ((s[i].toNat : Int) - 48)) = ((preV N.natAbs (i + 1 - f) : Nat) : Int)) := fun N hN he => by
        have h1 := hI.out N hN he
        have h2 := hfe.out
        subst he
        rw [← h2] at h1 hi1 ⊢
        obtain ⟨h3, h4⟩ := dec_digit hi1 hlt
        have h5 := preV_succ h4
        have e1 : i + 1 - fromOf (dec N) = (i - fromOf (dec N)) + 1 := by omega
        rw [e1, h5, h3, h1]
        refine ⟨by omega, ?_⟩
        push_cast
        omega
      by_cases hbad : (s[i].toNat : Int) < 48 ∨ (s[i].toNat : Int) > 57
      · have hno : Hid (decOf s = none) := by
          cases hd : decOf s with
          | none => rfl
          | some n =>
            exfalso
            obtain ⟨hn, he⟩ := decOf_some hd
            have := (hdig.out n hn he).1
            omega
        clear hdig hI
        by_cases h48 : (s[i].toNat : Int) < 48
        · go_wp2_with fail
          exact bodyPost_ret (v := .tuple #[.int .i64 0, .bool false]) (by simp [results, Tryz.results60, go_sem]) rfl ⟨⟨0, false, rfl, by unfold I64; omega, by simp, fun _ => hno.out⟩, Below.refl _ _⟩
        · have h57 : (s[i].toNat : Int) > 57 := by omega
          go_wp2_with fail
          exact bodyPost_ret (v := .tuple #[.int .i64 0, .bool false]) (by simp [results, Tryz.results60, go_sem]) rfl ⟨⟨0, false, rfl, by unfold I64; omega, by simp, fun _ => hno.out⟩, Below.refl _ _⟩
      · have h48 : ¬ (s[i].toNat : Int) < 48 := by omega
        have h57 : ¬ (s[i].toNat : Int) > 57 := by omega
        have hup := tdiv_up (x := -9223372036854775808 + ((s[i].toNat : Int) - 48)) (by omega)
        by_cases hq : m < (-9223372036854775808 + ((s[i].toNat : Int) - 48)).tdiv 10
        · have hno : Hid (decOf s = none) := by
            cases hd : decOf s with
            | none => rfl
            | some n =>
              exfalso
              obtain ⟨hn, he⟩ := decOf_some hd
              have h1 := (hdig.out n hn he).2
              have h2 := preV_le n.natAbs (i + 1 - f)
              unfold I64 at hn
              omega
          clear hdig hI
          go_wp2_with fail
          exact bodyPost_ret (v := .tuple #[.int .i64 0, .bool false]) (by simp [results, Tryz.results60, go_sem]) rfl ⟨⟨0, false, rfl, by unfold I64; omega, by simp, fun _ => hno.out⟩, Below.refl _ _⟩
        · have hwa : wrap64 (m * 10) = m * 10 := (by unfold wrap64; omega)
          have hwb : wrap64 (m * 10 - ((s[i].toNat : Int) - 48)) = m * 10 - ((s[i].toNat : Int) - 48) := (by unfold wrap64; omega)
          have hnx : Hid (∀ N, I64 N → s = dec N → m * 10 - ((s[i].toNat : Int) - 48) = -((preV N.natAbs (i + 1 - f) : Nat) : Int)) := fun N hN he => by
            have := (hdig.out N hN he).2
            omega
          clear hdig hI
          go_wp2_with fail
          go_roundw
          case rel => exact ⟨m * 10 - ((s[i].toNat : Int) - 48), i + 1, by first | rfl | rw [hwa, hwb], by go_num, by omega, by omega, by omega, by omega, by trivial, hnx.out⟩
          case measure => simp only [intOf]; omega
    · obtain rfl : i = s.size := by omega
      have hlI : ¬ ((s.size : Nat) : Int) < (s.size : Int) := by omega
      have hres : ∀ x : Int, (I64 (if f = 0 then -m else m) → x = (if f = 0 then -m else m)) → I64 x → ∀ b : Bool, b = decide (dec x = s) → (b = true → decOf s = some x) ∧ (b = false → decOf s = none) := by
        intro x hx0 hI64 b hb
        subst hb
        constructor
        · intro h
          have he := of_decide_eq_true h
          rw [← he]
          exact decOf_dec hI64
        · intro h
          cases hd : decOf s with
          | none => rfl
          | some n =>
            exfalso
            obtain ⟨hn, he⟩ := decOf_some hd
            have h1 := hI.out n hn he
            have h2 := hneg.out n he
            have h3 : preV n.natAbs (s.size - f) = n.natAbs := by
              have h4 := dec_len n
              rw [← he, h2] at h4
              rw [h4, Nat.add_sub_cancel_left]
              exact preV_all _
            rw [h3] at h1
            have hmn : (if f = 0 then -m else m) = n := by
              split at h2 <;> split <;> omega
            rw [hmn] at hx0
            have hxn := hx0 hn
            rw [hxn, ← he] at h
            simp at h
      replace hres := hidR hres
      clear hI hneg hfe
      rcases hf1 with rfl | rfl
      · have hIx : -9223372036854775808 ≤ wrap64 (-m) ∧ wrap64 (-m) ≤ 9223372036854775807 := by unfold wrap64; omega
        have hfin := hidR (hres.out (wrap64 (-m)) (fun h => by unfold I64 at h; unfold wrap64; simp only [if_true] at h ⊢; omega) hIx _ rfl)
        have hsh := hidR (specShowInt (wrap64 (-m)) hIx.1 hIx.2 w)
        go_wp2_with fail
        generalize wrap64 (-m) = x at hIx hfin hsh ⊢
        refine Calls.mono hsh.out ?_
        rintro e y ⟨rfl, b1⟩
        clear hsh
        go_wp2_with fail
        refine bodyPost_ret (v := .tuple #[.int .i64 x, .bool (decide (dec x = s))]) ?_ rfl ⟨⟨x, _, rfl, hIx, hfin.out⟩, b1⟩
        simp [results, Tryz.results60, go_sem, str_eq]
      · have hIx : -9223372036854775808 ≤ m ∧ m ≤ 9223372036854775807 := by omega
        have hfin := hidR (hres.out m (fun h => by simp) hIx _ rfl)
        have hsh := hidR (specShowInt m hIx.1 hIx.2 w)
        go_wp2_with fail
        refine Calls.mono hsh.out ?_
        rintro e y ⟨rfl, b1⟩
        clear hsh
        go_wp2_with fail
        refine bodyPost_ret (v := .tuple #[.int .i64 m, .bool (decide (dec m = s))]) ?_ rfl ⟨⟨m, _, rfl, hIx, hfin.out⟩, b1⟩
        simp [results, Tryz.results60, go_sem, str_eq]
end Go.Proofs.YtkanjbopfflioaaGreatDoor

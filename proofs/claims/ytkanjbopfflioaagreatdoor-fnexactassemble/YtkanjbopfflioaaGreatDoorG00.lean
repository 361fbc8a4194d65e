import Derived.Test.YtkanjbopfflioaaGreatDoorRows
import Derived.Lib.ItoaMem
import Derived.Lib.ItoaLen
import Derived.Laws.Concat
import Derived.Below
import Derived.WalkSmall
import Derived.WalkKit
import Derived.ProofKit
import Derived.Handy
import Derived.Tactics2
import Derived.Deep.RegionHeld3
import Derived.Laws.Strings2
import Derived.Lib.ParseIntB
import Derived.Lib.ParseIntBTie
import Derived.Test.YtkanjbopfflioaaGreatDoorChecked
import Derived.OpenShut
import Derived.WalkLawsBesides
import Derived.WalkSpells
import Derived.Laws.BitsAllLaws
import Derived.Laws.BytesArg
import Derived.Laws.OwnMore
import Derived.Deep.OwnRows
import Derived.Shelf.RegionOpen
namespace Go.Proofs.YtkanjbopfflioaaGreatDoor
section
open Go.RowKit
set_option linter.unusedVariables false
set_option linter.unusedSimpArgs false
set_option maxRecDepth 100000
set_option maxHeartbeats 1000000
/-- the ten digits. -/
def tenDigits : ByteArray := ⟨#[48, 49, 50, 51, 52, 53, 54, 55, 56, 57]⟩
theorem digits_step {u : Nat} (h : ¬ u < 10) : Lib.decDigits u = Lib.decDigits (u / 10) ++ [UInt8.ofNat (48 + u % 10)] := by
  rw [Lib.decDigits, dif_neg h]
theorem digit_fin : ∀ i : Fin 10, (⟨#[48, 49, 50, 51, 52, 53, 54, 55, 56, 57]⟩ : ByteArray).extract i.val (i.val + 1) = ⟨#[UInt8.ofNat (48 + i.val)]⟩ := by decide +kernel
/-- one digit. -/
def dgt (u : Nat) : ByteArray := ⟨#[UInt8.ofNat (48 + u % 10)]⟩
theorem digit_piece (u : Nat) (W : World) : (Instr.slice 9 (.string ⟨#[48, 49, 50, 51, 52, 53, 54, 55, 56, 57]⟩) (some (.int .i64 ((u : Int) % 10))) (some (.int .i64 ((u : Int) % 10 + 1))) none).run Tryz.prog W = .ok (.string (dgt u)) W := by
  rw [run_slice_string W 9 _ .i64 .i64 _ _ Tryz.underlying9 (by omega) (by omega) (by simp [ByteArray.size]; omega)]
  have e1 : ((u : Int) % 10).toNat = u % 10 := by omega
  have e2 : ((u : Int) % 10 + 1).toNat = u % 10 + 1 := by omega
  rw [e1, e2, digit_fin ⟨u % 10, Nat.mod_lt _ (by decide)⟩, dgt]
theorem ba_append (l : List UInt8) (b : UInt8) : (⟨l.toArray⟩ : ByteArray) ++ ⟨#[b]⟩ = ⟨(l ++ [b]).toArray⟩ := by
  apply ByteArray.ext
  simp
/-- the model's digits. -/
theorem showDown (u : Nat) : ∀ (n : Int) (hn : n = -(u : Int)) (h0 : -9223372036854775808 ≤ n) (h1 : n ≤ 0) (w : World),
    Calls Tryz.prog 137 #[.int .i64 n] w fun e w' => e = .returned (.string ⟨(Lib.decDigits u).toArray⟩) ∧ Below w.heap.size w w' := by
  induction u using Nat.strongRecOn with
  | _ u ih =>
    intro n hn h0 h1 w
    have hs := digit_piece u
    have m0 : (0 : Int) ≤ (u : Int) % 10 := by omega
    have m1 : (u : Int) % 10 ≤ 9 := by omega
    by_cases h : u < 10
    · have hx : -10 < n := by omega
      clear ih
      go_enter Tryz.func137, Tryz.ntmps137
      go_wp2_with fail
      refine bodyPost_ret (v := .string (dgt u)) (by simp [results, Tryz.results137, go_sem]) rfl ⟨?_, by go_grown⟩
      rw [Lib.decDigits_one h, dgt, Nat.mod_eq_of_lt h]
    · have hr := ih (u / 10) (by omega) (-((u : Int) / 10)) (by omega) (by omega) (by omega)
      have hx : n ≤ -10 := by omega
      have w1 : IntKind.i64.wrap (-((u : Int) / 10)) = -((u : Int) / 10) := by rw [IntKind.wrap_i64]; omega
      have w2 : IntKind.i64.wrap ((u : Int) % 10 + 1) = (u : Int) % 10 + 1 := by rw [IntKind.wrap_i64]; omega
      clear ih
      have hd : Lib.decDigits u = Lib.decDigits (u / 10) ++ [UInt8.ofNat (48 + u % 10)] := digits_step h
      have hl := Lib.nDigits_le20 (u / 10) (by omega)
      rw [← Lib.decDigits_length] at hl
      generalize Lib.decDigits (u / 10) = ds at hr hd hl
      have hcat : ∀ W, (Op.stringOp .add (⟨ds.toArray⟩ : ByteArray) (dgt u)).run Tryz.prog W = .ok (.string (⟨ds.toArray⟩ ++ dgt u)) W := fun W => run_string_add_sum W _ _ (by simp [ByteArray.size, dgt]; omega)
      go_enter Tryz.func137, Tryz.ntmps137
      go_wp2_with fail
      go_region_held3 (fun _ => True) (trivial) (first | (go_at_call 137; refine (hr _).mono ?_; rintro e w1 ⟨rfl, b1⟩))
      go_wp2_with fail
      refine bodyPost_ret (v := .string (⟨ds.toArray⟩ ++ dgt u)) (by simp [results, Tryz.results137, go_sem]) rfl ⟨?_, ?_⟩
      · rw [hd, dgt, ba_append]
      · exact (Below.refl w.heap.size w).drew.trans b1
end
section
open Go.RowKit
set_option linter.unusedVariables false
set_option linter.unusedSimpArgs false
set_option maxRecDepth 100000
set_option maxHeartbeats 1000000
/-- the decimal of a number. -/
def dec (n : Int) : ByteArray := ⟨(Lib.itoa n).toArray⟩
theorem dec_pos {n : Int} (h : 0 ≤ n) : dec n = ⟨(Lib.decDigits n.toNat).toArray⟩ := by
  unfold dec Lib.itoa
  rw [if_neg (by omega)]
theorem ba_cons (l : List UInt8) (b : UInt8) : (⟨#[b]⟩ : ByteArray) ++ ⟨l.toArray⟩ = ⟨(b :: l).toArray⟩ := by
  apply ByteArray.ext
  simp
theorem dec_neg {n : Int} (h : n < 0) : dec n = ⟨#[45]⟩ ++ ⟨(Lib.decDigits n.natAbs).toArray⟩ := by
  unfold dec Lib.itoa
  rw [if_pos h, ba_cons]
theorem specShowInt (n : Int) (h0 : -9223372036854775808 ≤ n) (h1 : n ≤ 9223372036854775807) (w : World) :
    Calls Tryz.prog 119 #[.int .i64 n] w fun e w' => e = .returned (.string (dec n)) ∧ Below w.heap.size w w' := by
  by_cases h : 0 ≤ n
  · have hr := showDown n.toNat (-n) (by omega) (by omega) (by omega)
    rw [dec_pos h]
    generalize (⟨(Lib.decDigits n.toNat).toArray⟩ : ByteArray) = d at hr ⊢
    have w1 : IntKind.i64.wrap (-n) = -n := by rw [IntKind.wrap_i64]; omega
    go_enter Tryz.func119, Tryz.ntmps119
    go_wp2_with (go_at_call 137; refine (hr _).mono ?_; rintro e w1 ⟨rfl, b1⟩)
    go_ret
    exact ⟨rfl, b1⟩
  · have hr := showDown n.natAbs n (by omega) (by omega) (by omega)
    rw [dec_neg (by omega)]
    have hl := Lib.nDigits_le20 n.natAbs (by omega)
    rw [← Lib.decDigits_length] at hl
    generalize Lib.decDigits n.natAbs = d at hr hl ⊢
    have hcat : ∀ W, (Op.stringOp .add (⟨#[45]⟩ : ByteArray) ⟨d.toArray⟩).run Tryz.prog W = .ok (.string (⟨#[45]⟩ ++ ⟨d.toArray⟩)) W := fun W => run_string_add_sum W _ _ (by simp [ByteArray.size]; omega)
    go_enter Tryz.func119, Tryz.ntmps119
    go_wp2_with (go_at_call 137; refine (hr _).mono ?_; rintro e w1 ⟨rfl, b1⟩)
    go_ret
    exact ⟨rfl, b1⟩
end
section
open Go.RowKit
set_option linter.unusedVariables false
set_option linter.unusedSimpArgs false
/-- a number of 64 bits. -/
def I64 (n : Int) : Prop := -9223372036854775808 ≤ n ∧ n ≤ 9223372036854775807
theorem pm_cons (M acc : Nat) (c : UInt8) (l : List UInt8) : Lib.parseUintM M acc (c :: l) = if 48 ≤ c.toNat ∧ c.toNat ≤ 57 then (if 1844674407370955162 ≤ acc then .range else if M < acc * 10 + (c.toNat - 48) then .range else Lib.parseUintM M (acc * 10 + (c.toNat - 48)) l) else .syntax := rfl
theorem pm_app (M : Nat) (r : List UInt8) : ∀ (l : List UInt8) (acc a : Nat), Lib.parseUintM M acc l = .ok a → Lib.parseUintM M acc (l ++ r) = Lib.parseUintM M a r
  | [], acc, a, h => by
    simp only [Lib.parseUintM] at h
    cases h
    rfl
  | c :: l, acc, a, h => by
    rw [pm_cons] at h
    rw [List.cons_append, pm_cons]
    by_cases h1 : 48 ≤ c.toNat ∧ c.toNat ≤ 57
    · rw [if_pos h1] at h ⊢
      by_cases h2 : 1844674407370955162 ≤ acc
      · rw [if_pos h2] at h; cases h
      · rw [if_neg h2] at h ⊢
        by_cases h3 : M < acc * 10 + (c.toNat - 48)
        · rw [if_pos h3] at h; cases h
        · rw [if_neg h3] at h ⊢
          exact pm_app M r l _ a h
    · rw [if_neg h1] at h; cases h
theorem dg_byte {d : Nat} (h : d < 10) : (UInt8.ofNat (48 + d)).toNat = 48 + d := by
  rw [UInt8.toNat_ofNat']
  omega
theorem pm_dec : ∀ (u : Nat), u ≤ 18446744073709551615 → Lib.parseUintM 18446744073709551615 0 (Lib.decDigits u) = .ok u := by
  intro u
  induction u using Nat.strongRecOn with
  | _ u ih =>
    intro hu
    by_cases h : u < 10
    · rw [Lib.decDigits, dif_pos h]
      unfold Lib.parseUintM
      rw [dg_byte h, if_pos (by omega), if_neg (by omega), if_neg (by omega)]
      unfold Lib.parseUintM
      congr 1
      omega
    · rw [Lib.decDigits, dif_neg h, pm_app _ _ _ _ _ (ih (u / 10) (by omega) (by omega))]
      unfold Lib.parseUintM
      rw [dg_byte (by omega), if_pos (by omega), if_neg (by omega), if_neg (by omega)]
      unfold Lib.parseUintM
      congr 1
      omega
theorem decDigits_ne (u : Nat) : Lib.decDigits u ≠ [] := by
  rw [Lib.decDigits]
  split <;> simp
theorem decDigits_head (u : Nat) : ∃ c r, Lib.decDigits u = c :: r ∧ 48 ≤ c.toNat ∧ c.toNat ≤ 57 := by
  induction u using Nat.strongRecOn with
  | _ u ih =>
    by_cases h : u < 10
    · exact ⟨_, [], by rw [Lib.decDigits, dif_pos h], by rw [dg_byte h]; omega, by rw [dg_byte h]; omega⟩
    · obtain ⟨c, r, h1, h2, h3⟩ := ih (u / 10) (by omega)
      exact ⟨c, r ++ [UInt8.ofNat (48 + u % 10)], by rw [Lib.decDigits, dif_neg h, h1]; rfl, h2, h3⟩
/-- what is written is read. -/
theorem parse_dec {n : Int} (h : I64 n) : Lib.parseIntB 64 (dec n).data.toList = .ok n := by
  have e : (dec n).data.toList = Lib.itoa n := rfl
  rw [e]
  unfold I64 at h
  by_cases hn : n < 0
  · obtain ⟨u, hu⟩ : ∃ u : Nat, n = -(u : Int) := ⟨n.natAbs, by omega⟩
    subst hu
    have hi : Lib.itoa (-(u : Int)) = 45 :: Lib.decDigits u := by
      unfold Lib.itoa
      rw [if_pos hn]
      simp
    rw [hi, Lib.parseIntB_minus]
    unfold Lib.parseUintB
    rw [if_neg (decDigits_ne _), show 2 ^ 64 - 1 = 18446744073709551615 from rfl, pm_dec u (by omega)]
    simp only [Lib.signedC]
    rw [if_neg (by omega)]
  · obtain ⟨u, hu⟩ : ∃ u : Nat, n = (u : Int) := ⟨n.toNat, by omega⟩
    subst hu
    have hi : Lib.itoa (u : Int) = Lib.decDigits u := by
      unfold Lib.itoa
      rw [if_neg hn]
      simp
    obtain ⟨c, r, h1, h2, h3⟩ := decDigits_head u
    rw [hi, h1, Lib.parseIntB_plain _ _ _ (by omega) (by omega), ← h1]
    unfold Lib.parseUintB
    rw [if_neg (decDigits_ne _), show 2 ^ 64 - 1 = 18446744073709551615 from rfl, pm_dec u (by omega)]
    simp only [Lib.signlessC]
    rw [if_neg (by omega)]
theorem dec_inj {m n : Int} (hm : I64 m) (hn : I64 n) (h : dec m = dec n) : m = n := by
  have h1 := parse_dec hm
  rw [h, parse_dec hn] at h1
  exact (by injection h1 with h2; exact h2.symm)
/-- the number that a word says. -/
noncomputable def decOf (s : ByteArray) : Option Int := by
  classical
  exact if h : ∃ n, I64 n ∧ s = dec n then some h.choose else none
theorem decOf_dec {n : Int} (h : I64 n) : decOf (dec n) = some n := by
  classical
  unfold decOf
  have hx : ∃ m, I64 m ∧ dec n = dec m := ⟨n, h, rfl⟩
  rw [dif_pos hx]
  congr 1
  exact (dec_inj h hx.choose_spec.1 hx.choose_spec.2).symm
theorem decOf_some {s : ByteArray} {n : Int} (h : decOf s = some n) : I64 n ∧ s = dec n := by
  classical
  unfold decOf at h
  by_cases hx : ∃ n, I64 n ∧ s = dec n
  · rw [dif_pos hx] at h
    have := hx.choose_spec
    rw [Option.some.inj h] at this
    exact this
  · rw [dif_neg hx] at h
    cases h
theorem decOf_none {s : ByteArray} (h : decOf s = none) (n : Int) (hn : I64 n) : s ≠ dec n := fun e => by
  rw [e, decOf_dec hn] at h
  cases h
end
section
open Go.RowKit
set_option linter.unusedVariables false
set_option linter.unusedSimpArgs false
/-- what the first j digits of u say. -/
def preV (u j : Nat) : Nat := u / 10 ^ (Lib.nDigits u - j)
theorem preV_zero (u : Nat) : preV u 0 = 0 := by
  unfold preV
  exact Nat.div_eq_of_lt (Lib.lt_pow_nDigits u)
theorem preV_all (u : Nat) : preV u (Lib.nDigits u) = u := by
  unfold preV
  rw [Nat.sub_self, Nat.pow_zero, Nat.div_one]
theorem preV_succ {u j : Nat} (h : j < Lib.nDigits u) : preV u (j + 1) = 10 * preV u j + u / 10 ^ (Lib.nDigits u - 1 - j) % 10 := by
  unfold preV
  have e1 : Lib.nDigits u - (j + 1) = Lib.nDigits u - 1 - j := by omega
  have e2 : Lib.nDigits u - j = (Lib.nDigits u - 1 - j) + 1 := by omega
  rw [e1, e2, Nat.pow_succ, ← Nat.div_div_eq_div_mul]
  omega
theorem preV_le (u j : Nat) : preV u j ≤ u := Nat.div_le_self _ _
theorem digit_at {u j : Nat} (h : j < Lib.nDigits u) : (Lib.decDigits u)[j]? = some (UInt8.ofNat (48 + u / 10 ^ (Lib.nDigits u - 1 - j) % 10)) := by
  rw [Lib.decDigits_eq, List.getElem?_map, List.getElem?_range h]
  rfl
theorem nDigits_le {u : Nat} (h : u ≤ 9223372036854775808) : Lib.nDigits u ≤ 19 := by
  by_cases hc : Lib.nDigits u ≤ 19
  · exact hc
  · exfalso
    have hx : ∀ (k v : Nat), k < Lib.nDigits v → 10 ^ k ≤ v ∨ k = 0 := by
      intro k
      induction k with
      | zero => intro v _; exact .inr rfl
      | succ k ih =>
        intro v hv
        by_cases hv10 : v < 10
        · rw [Lib.nDigits_small hv10] at hv; omega
        · rw [Lib.nDigits_big hv10] at hv
          rcases ih (v / 10) (by omega) with h1 | h1
          · left
            rw [Nat.pow_succ]
            omega
          · left
            subst h1
            simp
            omega
    rcases hx 19 u (by omega) with h1 | h1
    · have : (10 : Nat) ^ 19 = 10000000000000000000 := by decide
      omega
    · omega
/-- what is less than nothing is written with a sign. -/
theorem dec_list (n : Int) : (dec n).data.toList = if n < 0 then 45 :: Lib.decDigits n.natAbs else Lib.decDigits n.natAbs := by
  have e : (dec n).data.toList = Lib.itoa n := rfl
  rw [e]
  unfold Lib.itoa
  by_cases h : n < 0
  · rw [if_pos h, if_pos h]
  · rw [if_neg h, if_neg h]
    congr 1
    omega
theorem dec_len (n : Int) : (dec n).size = (if n < 0 then 1 else 0) + Lib.nDigits n.natAbs := by
  have e : (dec n).size = (dec n).data.toList.length := by rw [Array.length_toList]; rfl
  rw [e, dec_list]
  split
  · rw [List.length_cons, Lib.decDigits_length]; omega
  · rw [Lib.decDigits_length]; omega
end
section

/-- 'Fo K n k i e h': from number i on stand k trees one behind the other, the last one ends at e, and the highest has h prototypes above one another. -/
inductive Fo (K : Nat → Int) (n : Nat) : Nat → Nat → Nat → Nat → Prop
  | nil {i : Nat} : Fo K n 0 i i 0
  | cons {k i m e h1 h2 : Nat} : i < n → 0 ≤ K i → Fo K n (K i).toNat (i + 1) m h1 → Fo K n k m e h2 → Fo K n (k + 1) i e (max (h1 + 1) h2)

theorem Fo.le {K : Nat → Int} {n k i e h : Nat} (t : Fo K n k i e h) : i + k ≤ e ∧ (0 < k → e ≤ n) := by
  induction t with
  | nil => exact ⟨by omega, by omega⟩
  | @cons k i m e h1 h2 hi hk t1 t2 ih1 ih2 =>
    refine ⟨by omega, fun _ => ?_⟩
    by_cases hk0 : 0 < k
    · exact ih2.2 hk0
    · obtain rfl : k = 0 := by omega
      cases t2
      by_cases hk1 : 0 < (K i).toNat
      · exact ih1.2 hk1
      · have h0 : (K i).toNat = 0 := by omega
        rw [h0] at t1
        cases t1
        omega

theorem Fo.det {K : Nat → Int} {n k i e h : Nat} (t : Fo K n k i e h) : ∀ {e' h' : Nat}, Fo K n k i e' h' → e = e' ∧ h = h' := by
  induction t with
  | nil => intro e' h' t'; cases t'; exact ⟨rfl, rfl⟩
  | cons hi hk t1 t2 ih1 ih2 =>
    intro e' h' t'
    cases t' with
    | cons hi' hk' t1' t2' =>
      obtain ⟨rfl, rfl⟩ := ih1 t1'
      obtain ⟨rfl, rfl⟩ := ih2 t2'
      exact ⟨rfl, rfl⟩

theorem Fo.split {K : Nat → Int} {n : Nat} : ∀ (a b : Nat) {i e h : Nat}, Fo K n (a + b) i e h → ∃ m h1 h2, Fo K n a i m h1 ∧ Fo K n b m e h2 ∧ h = max h1 h2 := by
  intro a
  induction a with
  | zero => intro b i e h t; rw [Nat.zero_add] at t; exact ⟨i, 0, h, .nil, t, by omega⟩
  | succ a ih =>
    intro b i e h t
    rw [Nat.add_right_comm] at t
    cases t with
    | cons hi hk t1 t2 =>
      obtain ⟨m', g1, g2, u1, u2, rfl⟩ := ih b t2
      exact ⟨m', _, g2, .cons hi hk t1 u1, u2, by omega⟩

theorem Fo.join {K : Nat → Int} {n a i m h1 : Nat} (t : Fo K n a i m h1) : ∀ {b e h2 : Nat}, Fo K n b m e h2 → Fo K n (a + b) i e (max h1 h2) := by
  induction t with
  | nil => intro b e h2 t; rw [Nat.zero_add, Nat.zero_max]; exact t
  | @cons k i m e g1 g2 hi hk t1 t2 ih1 ih2 =>
    intro b e' h2 t
    rw [Nat.add_right_comm, Nat.max_assoc]
    exact .cons hi hk t1 (ih2 t)

/-- one tree: its root's children. -/
theorem Fo.one {K : Nat → Int} {n i e h : Nat} (t : Fo K n 1 i e h) : ∃ g, h = g + 1 ∧ i < n ∧ 0 ≤ K i ∧ Fo K n (K i).toNat (i + 1) e g := by
  cases t with
  | @cons k i m e h1 h2 hi hk t1 t2 =>
    cases t2
    exact ⟨h1, by omega, hi, hk, t1⟩

theorem Fo.mk1 {K : Nat → Int} {n i e g : Nat} (hi : i < n) (hk : 0 ≤ K i) (t : Fo K n (K i).toNat (i + 1) e g) : Fo K n 1 i e (g + 1) := by
  have := Fo.cons hi hk t (Fo.nil (K := K) (n := n) (i := e))
  rwa [Nat.max_eq_left (by omega)] at this

/-- every number within has its own tree. -/
theorem Fo.within {K : Nat → Int} {n k i e h : Nat} (t : Fo K n k i e h) : ∀ j, i ≤ j → j < e → ∃ e' h', Fo K n 1 j e' h' := by
  induction t with
  | nil => intro j h1 h2; omega
  | @cons k i m e h1 h2 hi hk t1 t2 ih1 ih2 =>
    intro j hj he
    by_cases hji : j = i
    · subst hji; exact ⟨m, h1 + 1, Fo.mk1 hi hk t1⟩
    · by_cases hjm : j < m
      · exact ih1 j (by omega) hjm
      · exact ih2 j (by omega) he

/-- the answer of the model's walk down: the end, or -1 where there is no tree within the limits. -/
def EndIs (K : Nat → Int) (n i a : Nat) (r : Int) : Prop :=
  (∃ e h, Fo K n 1 i e h ∧ a + h ≤ 64 ∧ r = (e : Int)) ∨ (r = -1 ∧ ∀ e h, Fo K n 1 i e h → 64 < a + h)

/-- what has come when k children have been gone over: their end, or -1. -/
def KidsIs (K : Nat → Int) (n i a k : Nat) (r : Int) : Prop :=
  (∃ e h, Fo K n k (i + 1) e h ∧ a + 1 + h ≤ 64 ∧ r = (e : Int)) ∨ (r = -1 ∧ ∀ e h, Fo K n (K i).toNat (i + 1) e h → 64 < a + 1 + h)

theorem KidsIs.start {K : Nat → Int} {n i a : Nat} (ha : a < 64) : KidsIs K n i a 0 ((i : Int) + 1) :=
  .inl ⟨i + 1, 0, .nil, by omega, by simp⟩

theorem KidsIs.step {K : Nat → Int} {n i a k e : Nat} {h : Nat} {r : Int} (t : Fo K n k (i + 1) e h) (hh : a + 1 + h ≤ 64) (hk : (k : Int) < K i) (hr : EndIs K n e (a + 1) r) : KidsIs K n i a (k + 1) r := by
  rcases hr with ⟨e', h', t', hh', rfl⟩ | ⟨rfl, hno⟩
  · exact .inl ⟨e', _, Fo.join t t', by omega, rfl⟩
  · refine .inr ⟨rfl, fun e2 h2 t2 => ?_⟩
    obtain ⟨d, hd⟩ : ∃ d, (K i).toNat = k + (1 + d) := ⟨(K i).toNat - k - 1, by omega⟩
    rw [hd] at t2
    obtain ⟨m, g1, g2, u1, u2, rfl⟩ := Fo.split k (1 + d) t2
    obtain ⟨rfl, rfl⟩ := t.det u1
    obtain ⟨m', g3, g4, u3, u4, rfl⟩ := Fo.split 1 d u2
    have := hno _ _ u3
    omega

theorem KidsIs.done {K : Nat → Int} {n i a k : Nat} {r : Int} (hi : i < n) (hk0 : 0 ≤ K i) (hr : KidsIs K n i a k r) (hk : r < 0 ∨ K i = (k : Int)) : EndIs K n i a r := by
  rcases hr with ⟨e, h, t, hh, rfl⟩ | ⟨rfl, hno⟩
  · have hkk : (K i).toNat = k := by omega
    rw [← hkk] at t
    exact .inl ⟨e, h + 1, Fo.mk1 hi hk0 t, by omega, rfl⟩
  · refine .inr ⟨rfl, fun e h t => ?_⟩
    obtain ⟨g, rfl, _, _, t'⟩ := t.one
    have := hno _ _ t'
    omega

theorem EndIs.none {K : Nat → Int} {n i a : Nat} (h : n ≤ i ∨ 64 ≤ a ∨ K i < 0) : EndIs K n i a (-1) := by
  refine .inr ⟨rfl, fun e h' t => ?_⟩
  obtain ⟨g, rfl, hi, hk, _⟩ := t.one
  omega

theorem EndIs.det {K : Nat → Int} {n i a : Nat} {r r' : Int} (h : EndIs K n i a r) (h' : EndIs K n i a r') : r = r' := by
  rcases h with ⟨e, g, t, hh, rfl⟩ | ⟨rfl, hno⟩ <;> rcases h' with ⟨e', g', t', hh', rfl⟩ | ⟨rfl, hno'⟩
  · rw [(t.det t').1]
  · have := hno' _ _ t; omega
  · have := hno _ _ t'; omega
  · rfl

/-! ### the stack of ends -/

def pop (i : Nat) : List Nat → List Nat
  | [] => []
  | x :: s => if x ≤ i then pop i s else x :: s

/-- the stack ahead of number i. -/
def st (E : Nat → Nat) : Nat → List Nat
  | 0 => []
  | i + 1 => E i :: pop i (st E i)

def depth (E : Nat → Nat) (i : Nat) : Nat := (pop i (st E i)).length

theorem pop_all {i : Nat} {s : List Nat} (h : ∀ x ∈ s, i < x) : pop i s = s := by
  cases s with
  | nil => rfl
  | cons x s => rw [pop, if_neg]; have := h x (by simp); omega

theorem Fo.depths {K : Nat → Int} {n : Nat} {E : Nat → Nat} (hE : ∀ i, i < n → ∃ h, Fo K n 1 i (E i) h) {k i e h : Nat} (t : Fo K n k i e h) :
    ∀ s : List Nat, (∀ x ∈ s, e ≤ x) → pop i (st E i) = pop i s →
      pop e (st E e) = pop e s ∧ ((∀ j, i ≤ j → j < e → depth E j < 64) ↔ (k = 0 ∨ s.length + h ≤ 64)) := by
  induction t with
  | @nil i =>
    intro s _ hp
    exact ⟨hp, ⟨fun _ => .inl rfl, fun _ j h1 h2 => by omega⟩⟩
  | @cons k i m e h1 h2 hi hk t1 t2 ih1 ih2 =>
    intro s hx hp
    have l1 := t1.le.1
    have l2 := t2.le.1
    have z1 : (K i).toNat = 0 → h1 = 0 := fun h0 => by rw [h0] at t1; cases t1; rfl
    have z2 : k = 0 → h2 = 0 := fun h0 => by subst h0; cases t2; rfl
    have hEm : E i = m := by
      obtain ⟨h', u⟩ := hE i hi
      exact (u.det (Fo.mk1 hi hk t1)).1
    have hps : pop i s = s := pop_all fun x hxs => by have := hx x hxs; omega
    rw [hps] at hp
    have hst : st E (i + 1) = m :: s := by rw [st, hp, hEm]
    have hd : depth E i = s.length := by rw [depth, hp]
    obtain ⟨p1, q1⟩ := ih1 (m :: s) (by
      intro x hx'
      rcases List.mem_cons.1 hx' with rfl | hx'
      · exact Nat.le_refl _
      · have := hx x hx'; omega) (by rw [hst])
    have p1' : pop m (st E m) = pop m s := by rw [p1, pop, if_pos (Nat.le_refl _)]
    obtain ⟨p2, q2⟩ := ih2 s hx p1'
    simp only [List.length_cons] at q1
    refine ⟨p2, ⟨fun hall => .inr ?_, fun hle j hj1 hj2 => ?_⟩⟩
    · have a0 := hall i (Nat.le_refl _) (by omega)
      have a1 := q1.1 fun j hj1 hj2 => hall j (by omega) (by omega)
      have a2 := q2.1 fun j hj1 hj2 => hall j (by omega) (by omega)
      omega
    · have hle' : s.length + max (h1 + 1) h2 ≤ 64 := by omega
      by_cases hji : j = i
      · subst hji; omega
      · by_cases hjm : j < m
        · exact q1.2 (.inr (by omega)) j (by omega) hjm
        · exact q2.2 (.inr (by omega)) j (by omega) hj2

theorem depth_iff {K : Nat → Int} {n h : Nat} {E : Nat → Nat} (hE : ∀ i, i < n → ∃ h, Fo K n 1 i (E i) h) (t : Fo K n 1 0 n h) : (∀ j, j < n → depth E j < 64) ↔ h ≤ 64 := by
  have := (t.depths hE [] (by simp) rfl).2
  simp only [List.length_nil, Nat.zero_add, Nat.zero_le, true_implies] at this
  rw [this]
  omega

end
section
open Go.RowKit
set_option linter.unusedVariables false
set_option linter.unusedSimpArgs false

/-- a slice's content: so many things, by index. -/
structure Sl (α : Type) where
  n : Nat
  f : Nat → α
structure VD where
  kind : Int
  num : Int
  text : ByteArray
structure UD where
  stack : Bool
  index : Int
structure PD where
  params : Int
  vararg : Bool
  regs : Int
  code : Sl Int
  consts : Sl VD
  ups : Sl UD
  kids : Int
  name : ByteArray
  lines : Sl Int
  upNames : Sl ByteArray

/-- the slice value v: n elements of z cells each, in a block of which av holds; cell j of element i holds C i j. -/
def IsArr (av : Nat → Prop) (w : World) (v : Value) (z n : Nat) (C : Nat → Nat → Value) : Prop :=
  ∃ ao cap, v = .slice ao n cap ∧ n ≤ 9223372036854775807 ∧
    (0 < n → ∃ b o, ao = some ⟨b, o, none⟩ ∧ av b ∧ ∀ i, i < n → ∀ j, j < z → w.cell? ⟨b, o + i * z + j, none⟩ = some (C i j))

theorem IsArr.keep {av : Nat → Prop} {w w' : World} {v : Value} {z n : Nat} {C : Nat → Nat → Value} (h : IsArr av w v z n C) (hk : ∀ b, av b → w'.heap[b]? = w.heap[b]?) : IsArr av w' v z n C := by
  obtain ⟨ao, cap, rfl, h1, h2⟩ := h
  refine ⟨ao, cap, rfl, h1, fun hn => ?_⟩
  obtain ⟨b, o, rfl, hb, hc⟩ := h2 hn
  exact ⟨b, o, rfl, hb, fun i hi j hj => (World.cell?_of_block (w := w) (hk b hb)).trans (hc i hi j hj)⟩
theorem IsArr.mono {av av' : Nat → Prop} {w : World} {v : Value} {z n : Nat} {C : Nat → Nat → Value} (h : IsArr av w v z n C) (hm : ∀ b, av b → av' b) : IsArr av' w v z n C := by
  obtain ⟨ao, cap, rfl, h1, h2⟩ := h
  refine ⟨ao, cap, rfl, h1, fun hn => ?_⟩
  obtain ⟨b, o, rfl, hb, hc⟩ := h2 hn
  exact ⟨b, o, rfl, hm b hb, hc⟩

def iC (k : IntKind) (f : Nat → Int) : Nat → Nat → Value := fun i _ => .int k (f i)
def sC (f : Nat → ByteArray) : Nat → Nat → Value := fun i _ => .string (f i)
def vC (f : Nat → VD) : Nat → Nat → Value := fun i j => match j with
  | 0 => .int .i64 (f i).kind
  | 1 => .int .i64 (f i).num
  | _ => .string (f i).text
def uC (f : Nat → UD) : Nat → Nat → Value := fun i j => match j with
  | 0 => .bool (f i).stack
  | _ => .int .i64 (f i).index

def IsInts (k : IntKind) (av : Nat → Prop) (w : World) (v : Value) (s : Sl Int) : Prop := IsArr av w v 1 s.n (iC k s.f)
def IsStrs (av : Nat → Prop) (w : World) (v : Value) (s : Sl ByteArray) : Prop := IsArr av w v 1 s.n (sC s.f) ∧ ∀ i, i < s.n → (s.f i).size ≤ 9223372036854775807
def IsVals (av : Nat → Prop) (w : World) (v : Value) (s : Sl VD) : Prop := IsArr av w v 3 s.n (vC s.f) ∧ ∀ i, i < s.n → (s.f i).text.size ≤ 9223372036854775807
def IsUps (av : Nat → Prop) (w : World) (v : Value) (s : Sl UD) : Prop := IsArr av w v 2 s.n (uC s.f)

/-- a prototype's value. -/
structure IsProto (av : Nat → Prop) (w : World) (a3 a4 a5 a8 a9 : Value) (p : PD) : Prop where
  code : IsInts .u32 av w a3 p.code
  consts : IsVals av w a4 p.consts
  ups : IsUps av w a5 p.ups
  lines : IsInts .i64 av w a8 p.lines
  upNames : IsStrs av w a9 p.upNames
  name : p.name.size ≤ 9223372036854775807

theorem IsProto.keep {av : Nat → Prop} {w w' : World} {a3 a4 a5 a8 a9 : Value} {p : PD} (h : IsProto av w a3 a4 a5 a8 a9 p) (hk : ∀ b, av b → w'.heap[b]? = w.heap[b]?) : IsProto av w' a3 a4 a5 a8 a9 p :=
  ⟨IsArr.keep h.code hk, ⟨IsArr.keep h.consts.1 hk, h.consts.2⟩, IsArr.keep h.ups hk, IsArr.keep h.lines hk, ⟨IsArr.keep h.upNames.1 hk, h.upNames.2⟩, h.name⟩
theorem IsProto.mono {av av' : Nat → Prop} {w : World} {a3 a4 a5 a8 a9 : Value} {p : PD} (h : IsProto av w a3 a4 a5 a8 a9 p) (hm : ∀ b, av b → av' b) : IsProto av' w a3 a4 a5 a8 a9 p :=
  ⟨IsArr.mono h.code hm, ⟨IsArr.mono h.consts.1 hm, h.consts.2⟩, IsArr.mono h.ups hm, IsArr.mono h.lines hm, ⟨IsArr.mono h.upNames.1 hm, h.upNames.2⟩, h.name⟩

def pAgg (p : PD) (a3 a4 a5 a8 a9 : Value) : Value :=
  .agg #[.int .i64 p.params, .bool p.vararg, .int .i64 p.regs, a3, a4, a5, .int .i64 p.kids, .string p.name, a8, a9]

/-- cell j of a prototype. -/
def pC (p : Nat → PD) (a3 a4 a5 a8 a9 : Nat → Value) : Nat → Nat → Value := fun i j => match j with
  | 0 => .int .i64 (p i).params
  | 1 => .bool (p i).vararg
  | 2 => .int .i64 (p i).regs
  | 3 => a3 i
  | 4 => a4 i
  | 5 => a5 i
  | 6 => .int .i64 (p i).kids
  | 7 => .string (p i).name
  | 8 => a8 i
  | _ => a9 i

def IsProtos (av : Nat → Prop) (w : World) (v : Value) (ps : Sl PD) : Prop :=
  ∃ a3 a4 a5 a8 a9 : Nat → Value, IsArr av w v 10 ps.n (pC ps.f a3 a4 a5 a8 a9) ∧ ∀ i, i < ps.n → IsProto av w (a3 i) (a4 i) (a5 i) (a8 i) (a9 i) (ps.f i)

theorem IsProtos.keep {av : Nat → Prop} {w w' : World} {v : Value} {ps : Sl PD} (h : IsProtos av w v ps) (hk : ∀ b, av b → w'.heap[b]? = w.heap[b]?) : IsProtos av w' v ps := by
  obtain ⟨a3, a4, a5, a8, a9, h1, h2⟩ := h
  exact ⟨a3, a4, a5, a8, a9, h1.keep hk, fun i hi => (h2 i hi).keep hk⟩
theorem IsProtos.mono {av av' : Nat → Prop} {w : World} {v : Value} {ps : Sl PD} (h : IsProtos av w v ps) (hm : ∀ b, av b → av' b) : IsProtos av' w v ps := by
  obtain ⟨a3, a4, a5, a8, a9, h1, h2⟩ := h
  exact ⟨a3, a4, a5, a8, a9, h1.mono hm, fun i hi => (h2 i hi).mono hm⟩
theorem IsProtos.below {n : Nat} {w w' : World} {v : Value} {ps : Sl PD} (h : IsProtos (· < n) w v ps) (b : Below n w w') : IsProtos (· < n) w' v ps := h.keep fun k hk => b.block k hk
theorem IsProto.below {n : Nat} {w w' : World} {a3 a4 a5 a8 a9 : Value} {p : PD} (h : IsProto (· < n) w a3 a4 a5 a8 a9 p) (b : Below n w w') : IsProto (· < n) w' a3 a4 a5 a8 a9 p := h.keep fun k hk => b.block k hk
theorem IsArr.below {m : Nat} {w w' : World} {v : Value} {z n : Nat} {C : Nat → Nat → Value} (h : IsArr (· < m) w v z n C) (b : Below m w w') : IsArr (· < m) w' v z n C := h.keep fun k hk => b.block k hk
/-- the same, said of the later world's size. -/
theorem IsProtos.later {w w' : World} {v : Value} {ps : Sl PD} (h : IsProtos (· < w.heap.size) w v ps) (b : Below w.heap.size w w') : IsProtos (· < w'.heap.size) w' v ps :=
  (h.below b).mono fun k hk => Nat.lt_of_lt_of_le hk b.size
theorem IsProto.later {w w' : World} {a3 a4 a5 a8 a9 : Value} {p : PD} (h : IsProto (· < w.heap.size) w a3 a4 a5 a8 a9 p) (b : Below w.heap.size w w') : IsProto (· < w'.heap.size) w' a3 a4 a5 a8 a9 p :=
  (h.below b).mono fun k hk => Nat.lt_of_lt_of_le hk b.size
theorem IsArr.later {w w' : World} {v : Value} {z n : Nat} {C : Nat → Nat → Value} (h : IsArr (· < w.heap.size) w v z n C) (b : Below w.heap.size w w') : IsArr (· < w'.heap.size) w' v z n C :=
  (h.below b).mono fun k hk => Nat.lt_of_lt_of_le hk b.size

/-- how long lists may be: what the size test leaves. -/
structure SmallP (p : PD) : Prop where
  code : p.code.n ≤ 1048576
  consts : p.consts.n ≤ 1048576
  ups : p.ups.n ≤ 1048576
  lines : p.lines.n ≤ 1048576
  upNames : p.upNames.n ≤ 1048576
def SmallC (ps : Sl PD) : Prop := ps.n ≤ 1048576 ∧ ∀ i, i < ps.n → SmallP (ps.f i)
end
section
open Go.RowKit
set_option linter.unusedVariables false
set_option linter.unusedSimpArgs false
def Filled (g : Nat → Value) (z i : Nat) (C : Nat → Nat → Value) : Prop := ∀ i', i' < i → ∀ j, j < z → g (i' * z + j) = C i' j

theorem isArr_of_row {w : World} {B : Nat} {e : TypeId} {z n : Nat} {g : Nat → Value} {C : Nat → Nat → Value} {av : Nat → Prop} (h : w.rowIs B e (n * z) g) (hF : Filled g z n C) (hav : av B) (hn : n ≤ 9223372036854775807) :
    IsArr av w (.slice (some ⟨B, 0, none⟩) n n) z n C := by
  refine ⟨_, _, rfl, hn, fun _ => ⟨B, 0, rfl, hav, fun i hi j hj => ?_⟩⟩
  have hlt : i * z + j < n * z := by
    have := Nat.mul_le_mul_right z (show i + 1 ≤ n from hi)
    rw [Nat.succ_mul] at this
    omega
  have hc := h.cell hlt
  rw [hF i hi j hj] at hc
  simpa [Nat.add_assoc] using hc

theorem lt_mul_of {i n j z : Nat} (hi : i < n) (hj : j < z) : i * z + j < n * z := by
  have := Nat.mul_le_mul_right z (show i + 1 ≤ n from hi)
  rw [Nat.succ_mul] at this
  omega

/-- the world behind 'make'. -/
def madeW (w : World) (z : Value) (n size : Nat) (e : TypeId) : World := w.alloc (.cells (madeCells z.cells (n * size)) e)
theorem run_make_rows (t e : TypeId) (z : Value) (size bytes : Nat) (ht : Tryz.prog.underlying t = some (.slice e)) (hinfo : (Tryz.prog.info? e).map (fun i => (i.zero, i.size, i.bytes)) = some (some z, size, bytes))
    (n : Nat) (hbytes : bytes * n ≤ 281474976710656) (h63 : n ≤ 9223372036854775807) (w : World) :
    (Instr.makeSlice t (.int .i64 (n : Int)) (.int .i64 (n : Int))).run Tryz.prog w = .ok (.slice (some ⟨w.heap.size, 0, none⟩) n n) (madeW w z n size e) := by
  obtain ⟨i, hi, hzz⟩ := Option.map_eq_some_iff.1 hinfo
  simp only [Prod.mk.injEq] at hzz
  obtain ⟨hz, hs, hb⟩ := hzz
  have hb' : (i.bytes : Int) * (n : Int) ≤ 281474976710656 := by
    have h : ((i.bytes * n : Nat) : Int) ≤ 281474976710656 := by rw [hb]; omega
    rwa [Int.natCast_mul] at h
  have hr := run_make (P := Tryz.prog) w t e i z ht hi hz .i64 .i64 n n (by omega) (Int.le_refl _) hb' (by omega)
  simp only [Int.toNat_natCast, hs] at hr
  exact hr
theorem rowIs_madeW (w : World) (z : Value) (n size : Nat) (t : TypeId) : ∃ g, (madeW w z n size t).rowIs w.heap.size t (n * size) g := by
  refine ⟨fun i => (madeCells z.cells (n * size))[i]!, madeCells z.cells (n * size), Go.Deep.blk_alloc_new _ _, size_madeCells _ _, fun i hi => ?_⟩
  show _ = some (madeCells z.cells (n * size))[i]!
  rw [getElem!_pos _ _ (by rw [size_madeCells]; exact hi)]
  simp
theorem below_madeW (w : World) (z : Value) (n size : Nat) (t : TypeId) : Below w.heap.size w (madeW w z n size t) := (Below.refl _ _).alloc (Nat.le_refl _) _

/-- block b is a row that holds just these. -/
def RowL (w : World) (b : Nat) (t : TypeId) (L : List Value) : Prop := w.rowIs b t L.length (fun j => L.getD j undef)
theorem RowL.new (w : World) (L : List Value) (t : TypeId) : RowL (w.alloc (.cells L.toArray t)) w.heap.size t L :=
  World.rowIs_alloc w L.toArray t _ (fun i hi => by
    simp at hi
    simp [List.getD, hi])
theorem RowL.alloc {w : World} {b : Nat} {t : TypeId} {L : List Value} (h : RowL w b t L) (o : Obj) : RowL (w.alloc o) b t L := World.rowIs.alloc h o
theorem RowL.call {w w' : World} {b : Nat} {t : TypeId} {L : List Value} (h : RowL w b t L) (hb : Below w.heap.size w w') : RowL w' b t L := World.rowIs.of_block h (hb.block _ (World.rowIs.lt h))
theorem RowL.other {w : World} {b : Nat} {t : TypeId} {L : List Value} (h : RowL w b t L) {a : Addr} (ha : b ≠ a.block) (v : Value) : RowL (w.setCell a v) b t L := World.rowIs.setOther h ha v
theorem RowL.set {w : World} {b : Nat} {t : TypeId} {L : List Value} (h : RowL w b t L) (k : Nat) (v : Value) : RowL (w.setCell ⟨b, k, none⟩ v) b t (L.set k v) := by
  have := World.rowIs.set h k v
  unfold RowL
  rw [List.length_set]
  refine this.congr fun i hi => ?_
  by_cases e : i = k
  · subst e
    simp [List.getD, hi]
  · simp [List.getD, e, List.getElem?_set, Ne.symm e]
theorem RowL.cell {w : World} {b : Nat} {t : TypeId} {L : List Value} (h : RowL w b t L) (k : Nat) {v : Value} (hk : L[k]? = some v) : w.cell? ⟨b, k, none⟩ = some v := by
  obtain ⟨hlt, hv⟩ := List.getElem?_eq_some_iff.1 hk
  have := World.rowIs.cell h hlt
  rw [this]
  simp [List.getD, hk]
theorem RowL.frozen {w : World} {b : Nat} {t : TypeId} {L : List Value} (h : RowL w b t L) (k : Nat) : w.frozen? ⟨b, k, none⟩ = false := World.rowIs.frozen h k

theorem IsArr.call {lo : Nat} {w w' : World} {v : Value} {z n : Nat} {C : Nat → Nat → Value} (h : IsArr (fun b => lo ≤ b ∧ b < w.heap.size) w v z n C) (hb : Below w.heap.size w w') : IsArr (fun b => lo ≤ b ∧ b < w'.heap.size) w' v z n C :=
  (h.keep fun b hb' => hb.block b hb'.2).mono fun b hb' => ⟨hb'.1, Nat.lt_of_lt_of_le hb'.2 hb.size⟩
theorem IsArr.store {lo : Nat} {w : World} {v : Value} {z n : Nat} {C : Nat → Nat → Value} (h : IsArr (fun b => lo ≤ b ∧ b < w.heap.size) w v z n C) {a : Addr} (ha : a.block < lo) (u : Value) : IsArr (fun b => lo ≤ b ∧ b < (w.setCell a u).heap.size) (w.setCell a u) v z n C := by
  refine (h.keep (w' := w.setCell a u) fun b hb' => Below.heap_setCell w a u b (by omega)).mono fun b hb' => ⟨hb'.1, ?_⟩
  rw [World.size_setCell]
  exact hb'.2
end
section
open Go.RowKit Go.Shelf
set_option linter.unusedVariables false
set_option linter.unusedSimpArgs false
theorem take_dst {P : Program} {ops : Array Oper} {Q : Exit → Act → World → Prop} {md : Region.Mode} {S : World → Prop} (i d : Nat) (v : Value) {oi : Oper} {fuel : Nat} {listed : Array Bool} {a : Act} {w : World} (hi : ops[i]? = some oi)
    (hs : Region.noSelect ops = true) (hf : Region.free md ops listed i = true) (hr : (Region.ready md ops listed).contains i = true)
    (hQ : ∀ c a w, Q (.panic c) (a.put oi.dst v) w → Q (.panic c) a w) (hy : YieldsIf P ops S oi v a) (hS : S w) (hd : oi.dst = some d)
    (h : wpAnyH P md ops Q S fuel (listed.setIfInBounds i true) (a.put (some d) v) w) : wpAnyH P md ops Q S (fuel + 1) listed a w :=
  wpAnyH_take hi hs hf hr hQ hy hS (by rw [hd]; exact h)
end
end Go.Proofs.YtkanjbopfflioaaGreatDoor

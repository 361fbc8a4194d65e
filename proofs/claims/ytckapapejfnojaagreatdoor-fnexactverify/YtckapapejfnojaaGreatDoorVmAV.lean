import Derived.Test.YtckapapejfnojaaGreatDoorUxEV
import Derived.Test.YtckapapejfnojaaGreatDoorGFV
namespace Go.Proofs.YtckapapejfnojaaGreatDoor
open Go.RowKit
set_option linter.unusedVariables false
set_option linter.unusedSimpArgs false
set_option maxRecDepth 100000
set_option maxHeartbeats 1000000
def isI (v : Value) (x : Int) : Bool := match v with
  | .int .i64 y => y == x
  | _ => false
theorem isI_eq {v : Value} {x : Int} (h : isI v x = true) : v = .int .i64 x := by
  unfold isI at h
  split at h
  · simp at h; rw [h]
  · simp at h
def isF (v : Value) (k : Nat) : Bool := match v with
  | .func (.func y) a b => y == k && a.size == 0 && b.size == 0
  | _ => false
theorem isF_eq {v : Value} {k : Nat} (h : isF v k = true) : v = .func (.func k) #[] #[] := by
  unfold isF at h
  split at h
  · next y a b =>
    simp at h
    obtain ⟨⟨h1, h2⟩, h3⟩ := h
    subst h1 h2 h3
    rfl
  · simp at h
/-- what the parts are for. -/
def aU (n : Nat) : Int := if n = 18 ∨ 34 ≤ n then 0 else if n = 19 ∨ n = 20 then 2 else 1
def bU (n : Nat) : Int := if n = 3 then 2 else if n = 4 ∨ n = 5 then 4 else if n = 1 ∨ n = 6 ∨ n = 18 ∨ n = 21 ∨ n = 25 ∨ n = 26 ∨ n = 27 ∨ n = 28 ∨ 33 ≤ n then 0 else 1
def cU (n : Nat) : Int := if n = 21 then 2 else if (7 ≤ n ∧ n ≤ 14) ∨ n = 19 ∨ n = 20 ∨ n = 22 ∨ n = 30 ∨ n = 31 then 1 else 0
def sU (n : Nat) : Int := if n = 1 then 3 else if n = 25 then 5 else if n = 18 ∨ n = 27 ∨ n = 28 then 6 else 0
theorem us0 : ∀ n, n < 64 → usC n 0 = .int .i64 (aU n) := fun n h => isI_eq ((by decide : ∀ n, n < 64 → isI (usC n 0) (aU n) = true) n h)
theorem us1 : ∀ n, n < 64 → usC n 1 = .int .i64 (bU n) := fun n h => isI_eq ((by decide : ∀ n, n < 64 → isI (usC n 1) (bU n) = true) n h)
theorem us2 : ∀ n, n < 64 → usC n 2 = .int .i64 (cU n) := fun n h => isI_eq ((by decide : ∀ n, n < 64 → isI (usC n 2) (cU n) = true) n h)
theorem us3 : ∀ n, n < 64 → usC n 3 = .int .i64 (sU n) := fun n h => isI_eq ((by decide : ∀ n, n < 64 → isI (usC n 3) (sU n) = true) n h)
def isB (v : Value) (x : Bool) : Bool := match v with
  | .bool y => y == x
  | _ => false
theorem isB_eq {v : Value} {x : Bool} (h : isB v x = true) : v = .bool x := by
  unfold isB at h
  split at h
  · simp at h; rw [h]
  · simp at h
theorem us4 : ∀ n, n < 64 → usC n 4 = .bool (decide (n = 24)) := fun n h => isB_eq ((by decide : ∀ n, n < 64 → isB (usC n 4) (decide (n = 24)) = true) n h)
/-- how many registers: the function's number. -/
def rF (n : Nat) : Nat :=
  if n = 19 ∨ n = 20 then 79 else if n = 2 then 85 else if n = 27 ∨ n = 28 then 91 else if n = 0 ∨ n = 15 ∨ n = 16 ∨ n = 17 ∨ n = 29 ∨ n = 32 then 77 else if 7 ≤ n ∧ n ≤ 14 then 78
  else if n = 22 ∨ n = 30 then 82 else if n = 31 then 94 else if n = 23 ∨ n = 24 then 87 else 76
theorem us5 : ∀ n, n < 34 → n ≠ 18 → usC n 5 = .func (.func (rF n)) #[] #[] := fun n h h' => isF_eq (((by decide : ∀ n, n < 34 → (n = 18 ∨ isF (usC n 5) (rF n) = true)) n h).resolve_left h')
theorem us5n : usC 18 5 = .nilFunc := rfl
theorem us9a : ∀ n, n < 34 → (n = 19 ∨ n = 20 ∨ n = 21) → usC n 9 = .func (.func 81) #[] #[] := by
  rintro n - (rfl | rfl | rfl) <;> rfl
theorem us9b : usC 27 9 = .func (.func 93) #[] #[] := rfl
theorem us9n : ∀ n, n < 34 → ¬ (n = 19 ∨ n = 20 ∨ n = 21) → n ≠ 27 → usC n 9 = .nilFunc := fun n h h1 h2 => isNilF_eq (by
  have := (by decide : ∀ n, n < 34 → ((n = 19 ∨ n = 20 ∨ n = 21) ∨ n = 27 ∨ isNilF (usC n 9) = true)) n h
  rcases this with h' | h' | h'
  · exact absurd h' h1
  · exact absurd h' h2
  · exact h')
theorem us7a : ∀ n, n < 64 → (n = 22 ∨ n = 30) → usC n 7 = .func (.func 83) #[] #[] := by
  rintro n - (rfl | rfl) <;> rfl
theorem us7b : ∀ n, n < 64 → (n = 23 ∨ n = 31) → usC n 7 = .func (.func 89) #[] #[] := by
  rintro n - (rfl | rfl) <;> rfl
theorem us7n : ∀ n, n < 64 → ¬ (n = 22 ∨ n = 30 ∨ n = 23 ∨ n = 31) → usC n 7 = .nilFunc := fun n h h1 => isNilF_eq (by
  have := (by decide : ∀ n, n < 64 → ((n = 22 ∨ n = 30 ∨ n = 23 ∨ n = 31) ∨ isNilF (usC n 7) = true)) n h
  rcases this with h' | h'
  · exact absurd h' h1
  · exact h')
/-- a part may hold this number. -/
def Allow (u x : Int) : Prop := (u = 0 → x = 0) ∧ (u = 2 → x ≤ 1)
theorem field_iff (n : Nat) (hn : n ≤ 33) (a b c : Int) (va : Bool) : FieldOk n a b c va ↔ ((n = 24 → va = true) ∧ Allow (aU n) a ∧ (sU n ≠ 0 ∨ (Allow (bU n) b ∧ Allow (cU n) c))) := by
  unfold Allow aU bU cU sU
  constructor
  · intro h
    have h0 := h.c0
    have h1 := h.b0
    have h2 := h.a0
    have h3 := h.a1
    have h4 := h.b1
    have h5 := h.c1
    have h6 := h.va
    refine ⟨fun h' => h6 (by omega), ?_, ?_⟩
    · constructor
      · intro h'; split at h'
        · exact h2 (by omega)
        · split at h' <;> omega
      · intro h'; split at h'
        · omega
        · split at h'
          · exact h3 (by omega)
          · omega
    · by_cases k : n = 1 ∨ n = 25 ∨ n = 18 ∨ n = 27 ∨ n = 28
      · left; repeat' split
        all_goals omega
      · right
        refine ⟨⟨fun h' => ?_, fun h' => ?_⟩, ⟨fun h' => ?_, fun h' => ?_⟩⟩
        · repeat' split at h'
          all_goals first | omega | exact h1 (by omega)
        · repeat' split at h'
          all_goals first | omega | exact h4 (by omega)
        · repeat' split at h'
          all_goals first | omega | exact h0 (by omega)
        · repeat' split at h'
          all_goals first | omega | exact h5 (by omega)
  · rintro ⟨h1, h2, h3⟩
    have hs : ∀ k, ¬ (n = 1 ∨ n = 25 ∨ n = 18 ∨ n = 27 ∨ n = 28) → k = k → ((((if n = 3 then (2 : Int) else if n = 4 ∨ n = 5 then 4 else if n = 1 ∨ n = 6 ∨ n = 18 ∨ n = 21 ∨ n = 25 ∨ n = 26 ∨ n = 27 ∨ n = 28 ∨ 33 ≤ n then 0 else 1) = 0 → b = 0) ∧ ((if n = 3 then (2 : Int) else if n = 4 ∨ n = 5 then 4 else if n = 1 ∨ n = 6 ∨ n = 18 ∨ n = 21 ∨ n = 25 ∨ n = 26 ∨ n = 27 ∨ n = 28 ∨ 33 ≤ n then 0 else 1) = 2 → b ≤ 1)) ∧ (((if n = 21 then (2 : Int) else if (7 ≤ n ∧ n ≤ 14) ∨ n = 19 ∨ n = 20 ∨ n = 22 ∨ n = 30 ∨ n = 31 then 1 else 0) = 0 → c = 0) ∧ ((if n = 21 then (2 : Int) else if (7 ≤ n ∧ n ≤ 14) ∨ n = 19 ∨ n = 20 ∨ n = 22 ∨ n = 30 ∨ n = 31 then 1 else 0) = 2 → c ≤ 1))) := fun (_ : Nat) k _ => h3.resolve_left (by rw [if_neg (by omega), if_neg (by omega), if_neg (by omega)]; omega)
    refine ⟨fun h => ?_, fun h => ?_, fun h => ?_, fun h => ?_, fun h => ?_, fun h => ?_, fun h => h1 (by omega)⟩
    · exact (hs 0 (by omega) rfl).2.1 (by rw [if_neg (by omega), if_neg (by omega)])
    · refine (hs 0 (by omega) rfl).1.1 ?_
      rw [if_neg (by omega), if_neg (by omega), if_pos (by omega)]
    · exact h2.1 (by rw [if_pos (by omega)])
    · exact h2.2 (by rw [if_neg (by omega), if_pos (by omega)])
    · exact (hs 0 (by omega) rfl).1.2 (by rw [if_pos (by omega)])
    · exact (hs 0 (by omega) rfl).2.2 (by rw [if_pos (by omega)])
theorem allows_in (u x : Int) (w : World) (hu : 0 ≤ u) (hu2 : u ≤ 6) : Calls Tryz.prog 164 #[.int .i64 u, .int .i64 x] w fun e w' => Says e (Allow u x) ∧ w = w' := by
  by_cases h0 : u = 0
  · subst h0
    go_enter Tryz.func164, Tryz.ntmps164
    go_wp2
    go_ret
    exact ⟨⟨_, rfl, by unfold Allow; simp⟩, rfl⟩
  · have n0 : (u == 0) = false := by simp [h0]
    by_cases h2 : u = 2
    · subst h2
      go_enter Tryz.func164, Tryz.ntmps164
      go_wp2
      go_ret
      exact ⟨⟨_, rfl, by unfold Allow; simp⟩, rfl⟩
    · have n2 : (u == 2) = false := by simp [h2]
      have hy : Hid (Allow u x) := ⟨fun h => absurd h h0, fun h => absurd h h2⟩
      go_enter Tryz.func164, Tryz.ntmps164
      go_wp2
      go_ret
      exact ⟨says_yes hy.out, rfl⟩
end Go.Proofs.YtckapapejfnojaaGreatDoor

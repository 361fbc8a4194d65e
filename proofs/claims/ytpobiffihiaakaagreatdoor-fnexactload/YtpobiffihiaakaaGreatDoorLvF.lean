import Derived.Test.YtpobiffihiaakaaGreatDoorLvE
import Derived.Test.YtpobiffihiaakaaGreatDoorGB
namespace Go.Proofs.YtpobiffihiaakaaGreatDoor
open Go.RowKit
set_option linter.unusedVariables false
/-- what GetVarint answers can be said by a function of the place. -/
theorem vrOk_any (s : ByteArray) (hs : s.size ≤ 1048576) : ∃ V, VrOk s V := by
  have h : ∀ a, ∃ v : Option (Int × Nat), a ≤ s.size →
      (∀ w, Calls Tryz.prog 41 #[.string s, .int .i64 (a : Int)] w fun e w' => e = .returned (vrE v) ∧ Below w.heap.size w w') ∧
      (∀ w, Calls Tryz.prog 85 #[.string s, .int .i64 (a : Int)] w fun e w' => e = .returned (vrE v) ∧ Below w.heap.size w w') ∧
      ∀ n q, v = some (n, q) → 0 ≤ n ∧ n ≤ 16777215 ∧ a < q ∧ q ≤ s.size := by
    intro a
    by_cases ha : a ≤ s.size
    · obtain ⟨x, y, t, h1, h2, h3, h4⟩ := WPut.both_any s a hs ha
      cases t with
      | true =>
        obtain ⟨⟨b1, b2⟩, b3, b4⟩ := h3 rfl
        obtain ⟨q, rfl⟩ : ∃ q : Nat, y = q := ⟨y.toNat, by omega⟩
        refine ⟨some (x, q), fun _ => ⟨h1, h2, ?_⟩⟩
        intro n q' e
        cases e
        omega
      | false =>
        obtain ⟨rfl, rfl⟩ := h4 rfl
        exact ⟨none, fun _ => ⟨h1, h2, fun n q e => by cases e⟩⟩
    · exact ⟨none, fun h => absurd h ha⟩
  let V : Nat → Option (Int × Nat) := fun a => if a ≤ s.size then (h a).choose else none
  have hV : ∀ a, a ≤ s.size → V a = (h a).choose := fun a ha => if_pos ha
  refine ⟨V, ⟨fun a ha w => ?_, fun a ha w => ?_, fun a n q e => ?_⟩⟩
  · rw [hV a ha]; exact ((h a).choose_spec ha).1 w
  · rw [hV a ha]; exact ((h a).choose_spec ha).2.1 w
  · by_cases ha : a ≤ s.size
    · rw [hV a ha] at e; exact ((h a).choose_spec ha).2.2 n q e
    · have : V a = none := if_neg ha
      rw [this] at e
      cases e
end Go.Proofs.YtpobiffihiaakaaGreatDoor

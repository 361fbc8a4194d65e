import Derived.Test.YtenonpajjlppjaaGreatDoorGC
import Derived.Test.YtenonpajjlppjaaGreatDoorLjO
import Derived.Test.YtenonpajjlppjaaGreatDoorLjU
namespace Go.Proofs.YtenonpajjlppjaaGreatDoor
open Go.RowKit
set_option linter.unusedVariables false
set_option linter.unusedSimpArgs false
set_option maxRecDepth 100000
set_option maxHeartbeats 2000000
theorem hidR {p : Prop} (h : p) : Hid p := h
/-- an operation's name. -/
def nm (k : Nat) : ByteArray := names.getD k ⟨#[]⟩
theorem nm_fin : ∀ k : Fin 34, (nm k.val).size ≤ 20 := by decide
theorem nm_size {k : Nat} (h : k < 34) : (nm k).size ≤ 20 := nm_fin ⟨k, h⟩
theorem nm_of {k : Nat} (hk : k < 34) {r : ByteArray} (h : nameOf (k : Int) r) : r = nm k := by
  rcases h with ⟨j, hj, e, hr⟩ | ⟨hn, _⟩
  · obtain rfl : k = j := by omega
    unfold nm
    rw [List.getD, hr]
    rfl
  · exact absurd ⟨by omega, by omega⟩ hn
theorem specName (k : Nat) (hk : k < 34) (w : World) : Calls Tryz.prog 69 #[.int .i64 (k : Int)] w fun e w' => e = .returned (.string (nm k)) ∧ Below w.heap.size w w' :=
  (specOpName_in (k : Int) w).mono fun e w' ⟨⟨r, he, hr⟩, hb⟩ => ⟨by rw [he, nm_of hk hr], hb⟩
theorem implName (k : Nat) (hk : k < 34) (w : World) (hN : Named w) : Calls Tryz.prog 95 #[.int .i64 (k : Int)] w fun e w' => e = .returned (.string (nm k)) ∧ Below w.heap.size w w' :=
  (implOpName_in (k : Int) w hN).mono fun e w' ⟨⟨r, he, hr⟩, hb⟩ => ⟨by rw [he, nm_of hk hr], hb⟩
/-- is it written with A and S? -/
def WideOp (k : Nat) : Prop := k = 1 ∨ k = 18 ∨ k = 25 ∨ k = 27 ∨ k = 28
instance (k : Nat) : Decidable (WideOp k) := by unfold WideOp; infer_instance
theorem l6Wide_in (k : Nat) (hk : k < 34) (w : World) : Calls Tryz.prog 68 #[.int .i64 (k : Int)] w fun e w' => e = .returned (.bool (decide (WideOp k))) ∧ Below w.heap.size w w' := by
  have key : ∀ (n : Nat), n = k → Calls Tryz.prog 68 #[.int .i64 (k : Int)] w fun e w' => e = .returned (.bool (decide (WideOp k))) ∧ Below w.heap.size w w' := by
    intro n hn
    have hk' : n < 34 := by omega
    subst hn
    by_cases h1 : n = 1
    · subst h1
      go_enter Tryz.func68, Tryz.ntmps68
      go_wp2_with fail
      go_ret
      exact ⟨rfl, by go_grown⟩
    by_cases h2 : n = 18
    · subst h2
      go_enter Tryz.func68, Tryz.ntmps68
      go_wp2_with fail
      go_ret
      exact ⟨rfl, by go_grown⟩
    by_cases h3 : n = 25
    · subst h3
      go_enter Tryz.func68, Tryz.ntmps68
      go_wp2_with fail
      go_ret
      exact ⟨rfl, by go_grown⟩
    by_cases h4 : n = 27
    · subst h4
      go_enter Tryz.func68, Tryz.ntmps68
      go_wp2_with fail
      go_ret
      exact ⟨rfl, by go_grown⟩
    have e1 : ((n : Int) == 1) = false := by have : (n : Int) ≠ 1 := by omega
                                             simpa using this
    have e2 : ((n : Int) == 18) = false := by have : (n : Int) ≠ 18 := by omega
                                              simpa using this
    have e3 : ((n : Int) == 25) = false := by have : (n : Int) ≠ 25 := by omega
                                              simpa using this
    have e4 : ((n : Int) == 27) = false := by have : (n : Int) ≠ 27 := by omega
                                              simpa using this
    have e5 : decide (WideOp n) = ((n : Int) == 28) := by
      by_cases h5 : n = 28
      · subst h5; rfl
      · have : (n : Int) ≠ 28 := by omega
        have hw : ¬ WideOp n := by unfold WideOp; omega
        simp [hw, this]
    rw [e5]
    go_enter Tryz.func68, Tryz.ntmps68
    go_wp2_with fail
    go_ret
    exact ⟨rfl, by go_grown⟩
  exact key k rfl
end Go.Proofs.YtenonpajjlppjaaGreatDoor

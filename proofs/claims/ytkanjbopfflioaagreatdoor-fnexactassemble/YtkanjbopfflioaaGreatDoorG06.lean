import Derived.Test.YtkanjbopfflioaaGreatDoorG03
import Derived.Test.YtkanjbopfflioaaGreatDoorLjU
namespace Go.Proofs.YtkanjbopfflioaaGreatDoor
section
open Go.RowKit
set_option linter.unusedVariables false
set_option linter.unusedSimpArgs false
set_option maxRecDepth 100000
set_option maxHeartbeats 2000000
/-- an operation's name. -/
def nm (k : Nat) : ByteArray := names.getD k ⟨#[]⟩
theorem nm_fin : ∀ k : Fin 34, (nm k.val).size ≤ 20 := by decide
theorem nm_size {k : Nat} (h : k < 34) : (nm k).size ≤ 20 := nm_fin ⟨k, h⟩
theorem nm_of {k : Nat} (hk : k < 34) {r : ByteArray} (h : nameOf (k : Int) r) : r = nm k := by
  rcases h with ⟨j, hj, e, hr⟩ | ⟨hn, _⟩
  · obtain rfl : k = j := by omega
    unfold nm
    rw [List.getD, hr]
    rfl
  · exact absurd ⟨by omega, by omega⟩ hn
theorem implName (k : Nat) (hk : k < 34) (w : World) (hN : Named w) : Calls Tryz.prog 39 #[.int .i64 (k : Int)] w fun e w' => e = .returned (.string (nm k)) ∧ Below w.heap.size w w' :=
  (implOpName_in (k : Int) w hN).mono fun e w' ⟨⟨r, he, hr⟩, hb⟩ => ⟨by rw [he, nm_of hk hr], hb⟩
/-- is it written with A and S? -/
def WideOp (k : Nat) : Prop := k = 1 ∨ k = 18 ∨ k = 25 ∨ k = 27 ∨ k = 28
instance (k : Nat) : Decidable (WideOp k) := by unfold WideOp; infer_instance
theorem l6Wide_in (k : Nat) (hk : k < 34) (w : World) : Calls Tryz.prog 63 #[.int .i64 (k : Int)] w fun e w' => e = .returned (.bool (decide (WideOp k))) ∧ Below w.heap.size w w' := by
  have key : ∀ (n : Nat), n = k → Calls Tryz.prog 63 #[.int .i64 (k : Int)] w fun e w' => e = .returned (.bool (decide (WideOp k))) ∧ Below w.heap.size w w' := by
    intro n hn
    have hk' : n < 34 := by omega
    subst hn
    by_cases h1 : n = 1
    · subst h1
      go_enter Tryz.func63, Tryz.ntmps63
      go_wp2_with fail
      go_ret
      exact ⟨rfl, by go_grown⟩
    by_cases h2 : n = 18
    · subst h2
      go_enter Tryz.func63, Tryz.ntmps63
      go_wp2_with fail
      go_ret
      exact ⟨rfl, by go_grown⟩
    by_cases h3 : n = 25
    · subst h3
      go_enter Tryz.func63, Tryz.ntmps63
      go_wp2_with fail
      go_ret
      exact ⟨rfl, by go_grown⟩
    by_cases h4 : n = 27
    · subst h4
      go_enter Tryz.func63, Tryz.ntmps63
      go_wp2_with fail
      go_ret
      exact ⟨rfl, by go_grown⟩
    have e1 : ((n : Int) == 1) = false := by have : (n : Int) ≠ 1 := by omega
                                             simpa using this
    have e2 : ((n : Int) == 18) = false := by have : (n : Int) ≠ 18 := by omega
                                              simpa using this
    have e3 : ((n : Int) == 25) = false := by have : (n : Int) ≠ 25 := by omega
                                              simpa using this
    have e4 : ((n : Int) == 27) = false := by have : (n : Int) ≠ 27 := by omega
                                              simpa using this
    have e5 : decide (WideOp n) = ((n : Int) == 28) := by
      by_cases h5 : n = 28
      · subst h5; rfl
      · have : (n : Int) ≠ 28 := by omega
        have hw : ¬ WideOp n := by unfold WideOp; omega
        simp [hw, this]
    rw [e5]
    go_enter Tryz.func63, Tryz.ntmps63
    go_wp2_with fail
    go_ret
    exact ⟨rfl, by go_grown⟩
  exact key k rfl
end
section
open Go.RowKit
set_option linter.unusedVariables false
set_option linter.unusedSimpArgs false
set_option maxRecDepth 100000
set_option maxHeartbeats 2000000
/-- the number of an operation's name; -1 if it is none. -/
def OpIs (name : ByteArray) (r : Int) : Prop := (∃ k : Nat, k < 34 ∧ r = (k : Int) ∧ nm k = name) ∨ (r = -1 ∧ ∀ k, k < 34 → nm k ≠ name)
theorem nm_at {k : Nat} (h : k < 34) : names[k]? = some (nm k) := by
  unfold nm
  rw [List.getD, List.getElem?_eq_getElem (by rw [names_len]; exact h)]
  rfl
theorem opCode_in (name : ByteArray) (w : World) :
    Calls Tryz.prog 62 #[.string name] w fun e w' => (∃ r, e = .returned (.int .i64 r) ∧ OpIs name r) ∧ Below w.heap.size w w' := by
  have hn := hidR (l2Names_in w)
  have R0 := RowL.new w cells34.toList 9
  rw [Array.toArray_toList] at R0
  have hcell : Hid (∀ k, k < 34 → (w.alloc (.cells cells34 9)).cell? ⟨w.heap.size, k, none⟩ = some (.string (nm k))) := fun k hk => by
    refine R0.cell k ?_
    rw [cells34_eq, List.getElem?_map, nm_at hk]
    rfl
  have bA : Below w.heap.size w (w.alloc (.cells cells34 9)) := (Below.refl _ _).alloc (Nat.le_refl _) _
  replace bA := hidR bA
  have hlt := R0.lt
  clear R0
  go_enter Tryz.func62, Tryz.ntmps62
  go_wp2_with fail
  refine Calls.mono hn.out ?_
  rintro e y ⟨rfl, rfl⟩
  clear hn
  generalize w.alloc (.cells cells34 9) = w1 at hcell bA hlt ⊢
  go_wp2_with fail
  go_loopw [4] (fun iv wr => ∃ k : Nat, iv = .int .i64 (k : Int) ∧ k ≤ 34 ∧ w1 = wr ∧ Hid (∀ j, j < k → nm j ≠ name)) (fun iv _ => 34 - (intOf iv).toNat)
  case atStart => exact ⟨0, rfl, by omega, rfl, fun j h => absurd h (by omega)⟩
  case round =>
    obtain ⟨k, rfl, hk, hwr, hno⟩ := hrel
    subst hwr
    by_cases hlt2 : k < 34
    · have hlI : (k : Int) < 34 := by omega
      have hc := hcell.out k hlt2
      by_cases he : nm k = name
      · have hr : Hid (OpIs name (k : Int)) := .inl ⟨k, hlt2, rfl, he⟩
        have hbe : ((nm k).toList == name.toList) = true := by rw [str_eq, decide_eq_true he]
        clear he
        go_wp2_with fail
        exact bodyPost_ret (v := .int .i64 (k : Int)) (by simp [results, Tryz.results62, go_sem]) rfl ⟨⟨_, rfl, hr.out⟩, bA.out⟩
      · have hbe : ((nm k).toList == name.toList) = false := by rw [str_eq, decide_eq_false he]
        have hno2 : Hid (∀ j, j < k + 1 → nm j ≠ name) := fun j hj => by
          by_cases e : j = k
          · subst e; exact he
          · exact hno.out j (by omega)
        clear he hno
        go_wp2_with fail
        go_roundw
        case rel => exact ⟨k + 1, by go_num, by omega, by trivial, hno2.out⟩
        case measure => simp only [intOf]; omega
    · obtain rfl : k = 34 := by omega
      go_wp2_with fail
      exact bodyPost_ret (v := .int .i64 (-1)) (by simp [results, Tryz.results62, go_sem]) rfl ⟨⟨_, rfl, .inr ⟨rfl, hno.out⟩⟩, bA.out⟩
end
end Go.Proofs.YtkanjbopfflioaaGreatDoor

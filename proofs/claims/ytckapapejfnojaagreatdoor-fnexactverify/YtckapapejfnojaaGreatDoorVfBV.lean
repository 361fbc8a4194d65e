import Derived.Deep.QuietTactic
import Derived.BigQuiet
import Derived.Deep.Cut
import Derived.Deep.RegionHeld3
import Derived.Test.YtckapapejfnojaaGreatDoorGAV
import Derived.Test.YtckapapejfnojaaGreatDoorTpAV
import Derived.Test.YtckapapejfnojaaGreatDoorVfAV
namespace Go.Proofs.YtckapapejfnojaaGreatDoor
open Go.RowKit
set_option linter.unusedVariables false
set_option linter.unusedSimpArgs false
set_option maxRecDepth 100000
set_option maxHeartbeats 1000000
theorem field_rs (n : Nat) (hn : n ≤ 63) (p : PD) (ac : Option Addr) (cc : Nat) (o4 : Option Addr) (c4 : Nat) (o5 : Option Addr) (c5 : Nat) (o8 : Option Addr) (c8 : Nat) (o9 : Option Addr) (c9 : Nat) (a b c s : Int) (w : World) (l107 : hasC (useS n) 107 = false) (l99 : hasC (useS n) 99 = false) (l106 : hasC (useS n) 106 = false) (l114 : hasC (useS n) 114 = true) (l110 : hasC (useS n) 110 = false) (l52 : hasC (useS n) 52 = false) (l49 : hasC (useS n) 49 = false) (l115 : hasC (useS n) 115 = true) (l117 : hasC (useS n) 117 = false) (l48 : hasC (useS n) 48 = false) (l118 : hasC (useS n) 118 = false) (l116 : hasC (useS n) 116 = false) (l50 : hasC (useS n) 50 = false) (l119 : hasC (useS n) 119 = false) (l86 : hasC (useS n) 86 = false) :
    Calls Tryz.prog 100 #[prV p ac cc o4 c4 o5 c5 o8 c8 o9 c9, insV n a b c s] w fun e w' => Says e (c = 0) ∧ Below w.heap.size w w' := by
  have hz := useS_size n (by omega)
  by_cases hc0 : c = 0
  · have ec0 : (c != 0) = false := by simp [hc0]
    go_enter Tryz.func100, Tryz.ntmps100
    go_wp2_with (first | (go_at_call 105; refine (l4Use_in n _ hn).mono ?_; rintro e y ⟨rfl, b1⟩; have hb9 := below2 b1; obtain ⟨hc9, hf9⟩ := bcell9 b1; clear b1) | (go_at_call 104; refine (l4Has_I _ _ _ hz (by omega)).mono ?_; rintro e y2 ⟨rfl, rfl⟩))
    go_ret
    exact ⟨says_yes hc0, by assumption⟩
  · have ec0 : (c != 0) = true := by simp [hc0]
    go_enter Tryz.func100, Tryz.ntmps100
    go_wp2_with (first | (go_at_call 105; refine (l4Use_in n _ hn).mono ?_; rintro e y ⟨rfl, b1⟩; have hb9 := below2 b1; obtain ⟨hc9, hf9⟩ := bcell9 b1; clear b1) | (go_at_call 104; refine (l4Has_I _ _ _ hz (by omega)).mono ?_; rintro e y2 ⟨rfl, rfl⟩))
    go_ret
    exact ⟨says_no (fun h => hc0 h), by assumption⟩
theorem field_rk (n : Nat) (hn : n ≤ 63) (p : PD) (ac : Option Addr) (cc : Nat) (o4 : Option Addr) (c4 : Nat) (o5 : Option Addr) (c5 : Nat) (o8 : Option Addr) (c8 : Nat) (o9 : Option Addr) (c9 : Nat) (a b c s : Int) (w : World) (l107 : hasC (useS n) 107 = true) (l99 : hasC (useS n) 99 = false) (l106 : hasC (useS n) 106 = false) (l114 : hasC (useS n) 114 = true) (l110 : hasC (useS n) 110 = false) (l52 : hasC (useS n) 52 = false) (l49 : hasC (useS n) 49 = false) (l115 : hasC (useS n) 115 = false) (l117 : hasC (useS n) 117 = false) (l48 : hasC (useS n) 48 = false) (l118 : hasC (useS n) 118 = false) (l116 : hasC (useS n) 116 = false) (l50 : hasC (useS n) 50 = false) (l119 : hasC (useS n) 119 = false) (l86 : hasC (useS n) 86 = false) :
    Calls Tryz.prog 100 #[prV p ac cc o4 c4 o5 c5 o8 c8 o9 c9, insV n a b c s] w fun e w' => Says e (True) ∧ Below w.heap.size w w' := by
  have hz := useS_size n (by omega)
  go_enter Tryz.func100, Tryz.ntmps100
  go_wp2_with (first | (go_at_call 105; refine (l4Use_in n _ hn).mono ?_; rintro e y ⟨rfl, b1⟩; have hb9 := below2 b1; obtain ⟨hc9, hf9⟩ := bcell9 b1; clear b1) | (go_at_call 104; refine (l4Has_I _ _ _ hz (by omega)).mono ?_; rintro e y2 ⟨rfl, rfl⟩))
  go_ret
  exact ⟨says_yes trivial, by assumption⟩
theorem field_n (n : Nat) (hn : n ≤ 63) (p : PD) (ac : Option Addr) (cc : Nat) (o4 : Option Addr) (c4 : Nat) (o5 : Option Addr) (c5 : Nat) (o8 : Option Addr) (c8 : Nat) (o9 : Option Addr) (c9 : Nat) (a b c s : Int) (w : World) (l107 : hasC (useS n) 107 = false) (l99 : hasC (useS n) 99 = false) (l106 : hasC (useS n) 106 = false) (l114 : hasC (useS n) 114 = false) (l110 : hasC (useS n) 110 = true) (l52 : hasC (useS n) 52 = false) (l49 : hasC (useS n) 49 = false) (l115 : hasC (useS n) 115 = false) (l117 : hasC (useS n) 117 = false) (l48 : hasC (useS n) 48 = false) (l118 : hasC (useS n) 118 = false) (l116 : hasC (useS n) 116 = false) (l50 : hasC (useS n) 50 = false) (l119 : hasC (useS n) 119 = false) (l86 : hasC (useS n) 86 = false) :
    Calls Tryz.prog 100 #[prV p ac cc o4 c4 o5 c5 o8 c8 o9 c9, insV n a b c s] w fun e w' => Says e (c = 0) ∧ Below w.heap.size w w' := by
  have hz := useS_size n (by omega)
  by_cases hc0 : c = 0
  · have ec0 : (c != 0) = false := by simp [hc0]
    go_enter Tryz.func100, Tryz.ntmps100
    go_wp2_with (first | (go_at_call 105; refine (l4Use_in n _ hn).mono ?_; rintro e y ⟨rfl, b1⟩; have hb9 := below2 b1; obtain ⟨hc9, hf9⟩ := bcell9 b1; clear b1) | (go_at_call 104; refine (l4Has_I _ _ _ hz (by omega)).mono ?_; rintro e y2 ⟨rfl, rfl⟩))
    go_ret
    exact ⟨says_yes hc0, by assumption⟩
  · have ec0 : (c != 0) = true := by simp [hc0]
    go_enter Tryz.func100, Tryz.ntmps100
    go_wp2_with (first | (go_at_call 105; refine (l4Use_in n _ hn).mono ?_; rintro e y ⟨rfl, b1⟩; have hb9 := below2 b1; obtain ⟨hc9, hf9⟩ := bcell9 b1; clear b1) | (go_at_call 104; refine (l4Has_I _ _ _ hz (by omega)).mono ?_; rintro e y2 ⟨rfl, rfl⟩))
    go_ret
    exact ⟨says_no (fun h => hc0 h), by assumption⟩
theorem field_rz (n : Nat) (hn : n ≤ 63) (p : PD) (ac : Option Addr) (cc : Nat) (o4 : Option Addr) (c4 : Nat) (o5 : Option Addr) (c5 : Nat) (o8 : Option Addr) (c8 : Nat) (o9 : Option Addr) (c9 : Nat) (a b c s : Int) (w : World) (l107 : hasC (useS n) 107 = false) (l99 : hasC (useS n) 99 = false) (l106 : hasC (useS n) 106 = false) (l114 : hasC (useS n) 114 = true) (l110 : hasC (useS n) 110 = false) (l52 : hasC (useS n) 52 = false) (l49 : hasC (useS n) 49 = false) (l115 : hasC (useS n) 115 = false) (l117 : hasC (useS n) 117 = false) (l48 : hasC (useS n) 48 = true) (l118 : hasC (useS n) 118 = false) (l116 : hasC (useS n) 116 = false) (l50 : hasC (useS n) 50 = false) (l119 : hasC (useS n) 119 = false) (l86 : hasC (useS n) 86 = false) :
    Calls Tryz.prog 100 #[prV p ac cc o4 c4 o5 c5 o8 c8 o9 c9, insV n a b c s] w fun e w' => Says e (c = 0 ∧ b ≤ 1) ∧ Below w.heap.size w w' := by
  have hz := useS_size n (by omega)
  by_cases hc0 : c = 0
  · have ec0 : (c != 0) = false := by simp [hc0]
    by_cases hb1 : b ≤ 1
    · have eb1 : ¬ (1 < b) := by omega
      go_enter Tryz.func100, Tryz.ntmps100
      go_wp2_with (first | (go_at_call 105; refine (l4Use_in n _ hn).mono ?_; rintro e y ⟨rfl, b1⟩; have hb9 := below2 b1; obtain ⟨hc9, hf9⟩ := bcell9 b1; clear b1) | (go_at_call 104; refine (l4Has_I _ _ _ hz (by omega)).mono ?_; rintro e y2 ⟨rfl, rfl⟩))
      go_ret
      exact ⟨says_yes ⟨hc0, hb1⟩, by assumption⟩
    · have eb1 : 1 < b := by omega
      go_enter Tryz.func100, Tryz.ntmps100
      go_wp2_with (first | (go_at_call 105; refine (l4Use_in n _ hn).mono ?_; rintro e y ⟨rfl, b1⟩; have hb9 := below2 b1; obtain ⟨hc9, hf9⟩ := bcell9 b1; clear b1) | (go_at_call 104; refine (l4Has_I _ _ _ hz (by omega)).mono ?_; rintro e y2 ⟨rfl, rfl⟩))
      go_ret
      exact ⟨says_no (fun h => by omega), by assumption⟩
  · have ec0 : (c != 0) = true := by simp [hc0]
    go_enter Tryz.func100, Tryz.ntmps100
    go_wp2_with (first | (go_at_call 105; refine (l4Use_in n _ hn).mono ?_; rintro e y ⟨rfl, b1⟩; have hb9 := below2 b1; obtain ⟨hc9, hf9⟩ := bcell9 b1; clear b1) | (go_at_call 104; refine (l4Has_I _ _ _ hz (by omega)).mono ?_; rintro e y2 ⟨rfl, rfl⟩))
    go_ret
    exact ⟨says_no (fun h => hc0 h.1), by assumption⟩
theorem field_ru (n : Nat) (hn : n ≤ 63) (p : PD) (ac : Option Addr) (cc : Nat) (o4 : Option Addr) (c4 : Nat) (o5 : Option Addr) (c5 : Nat) (o8 : Option Addr) (c8 : Nat) (o9 : Option Addr) (c9 : Nat) (a b c s : Int) (w : World) (l107 : hasC (useS n) 107 = false) (l99 : hasC (useS n) 99 = false) (l106 : hasC (useS n) 106 = false) (l114 : hasC (useS n) 114 = true) (l110 : hasC (useS n) 110 = false) (l52 : hasC (useS n) 52 = false) (l49 : hasC (useS n) 49 = false) (l115 : hasC (useS n) 115 = false) (l117 : hasC (useS n) 117 = true) (l48 : hasC (useS n) 48 = false) (l118 : hasC (useS n) 118 = false) (l116 : hasC (useS n) 116 = false) (l50 : hasC (useS n) 50 = false) (l119 : hasC (useS n) 119 = false) (l86 : hasC (useS n) 86 = false) :
    Calls Tryz.prog 100 #[prV p ac cc o4 c4 o5 c5 o8 c8 o9 c9, insV n a b c s] w fun e w' => Says e (c = 0) ∧ Below w.heap.size w w' := by
  have hz := useS_size n (by omega)
  by_cases hc0 : c = 0
  · have ec0 : (c != 0) = false := by simp [hc0]
    go_enter Tryz.func100, Tryz.ntmps100
    go_wp2_with (first | (go_at_call 105; refine (l4Use_in n _ hn).mono ?_; rintro e y ⟨rfl, b1⟩; have hb9 := below2 b1; obtain ⟨hc9, hf9⟩ := bcell9 b1; clear b1) | (go_at_call 104; refine (l4Has_I _ _ _ hz (by omega)).mono ?_; rintro e y2 ⟨rfl, rfl⟩))
    go_ret
    exact ⟨says_yes hc0, by assumption⟩
  · have ec0 : (c != 0) = true := by simp [hc0]
    go_enter Tryz.func100, Tryz.ntmps100
    go_wp2_with (first | (go_at_call 105; refine (l4Use_in n _ hn).mono ?_; rintro e y ⟨rfl, b1⟩; have hb9 := below2 b1; obtain ⟨hc9, hf9⟩ := bcell9 b1; clear b1) | (go_at_call 104; refine (l4Has_I _ _ _ hz (by omega)).mono ?_; rintro e y2 ⟨rfl, rfl⟩))
    go_ret
    exact ⟨says_no (fun h => hc0 h), by assumption⟩
theorem field_r (n : Nat) (hn : n ≤ 63) (p : PD) (ac : Option Addr) (cc : Nat) (o4 : Option Addr) (c4 : Nat) (o5 : Option Addr) (c5 : Nat) (o8 : Option Addr) (c8 : Nat) (o9 : Option Addr) (c9 : Nat) (a b c s : Int) (w : World) (l107 : hasC (useS n) 107 = false) (l99 : hasC (useS n) 99 = false) (l106 : hasC (useS n) 106 = false) (l114 : hasC (useS n) 114 = true) (l110 : hasC (useS n) 110 = false) (l52 : hasC (useS n) 52 = false) (l49 : hasC (useS n) 49 = false) (l115 : hasC (useS n) 115 = false) (l117 : hasC (useS n) 117 = false) (l48 : hasC (useS n) 48 = false) (l118 : hasC (useS n) 118 = false) (l116 : hasC (useS n) 116 = false) (l50 : hasC (useS n) 50 = false) (l119 : hasC (useS n) 119 = false) (l86 : hasC (useS n) 86 = false) :
    Calls Tryz.prog 100 #[prV p ac cc o4 c4 o5 c5 o8 c8 o9 c9, insV n a b c s] w fun e w' => Says e (b = 0 ∧ c = 0) ∧ Below w.heap.size w w' := by
  have hz := useS_size n (by omega)
  by_cases hb0 : b = 0
  · have eb0 : (b != 0) = false := by simp [hb0]
    by_cases hc0 : c = 0
    · have ec0 : (c != 0) = false := by simp [hc0]
      go_enter Tryz.func100, Tryz.ntmps100
      go_wp2_with (first | (go_at_call 105; refine (l4Use_in n _ hn).mono ?_; rintro e y ⟨rfl, b1⟩; have hb9 := below2 b1; obtain ⟨hc9, hf9⟩ := bcell9 b1; clear b1) | (go_at_call 104; refine (l4Has_I _ _ _ hz (by omega)).mono ?_; rintro e y2 ⟨rfl, rfl⟩))
      go_ret
      exact ⟨says_yes ⟨hb0, hc0⟩, by assumption⟩
    · have ec0 : (c != 0) = true := by simp [hc0]
      go_enter Tryz.func100, Tryz.ntmps100
      go_wp2_with (first | (go_at_call 105; refine (l4Use_in n _ hn).mono ?_; rintro e y ⟨rfl, b1⟩; have hb9 := below2 b1; obtain ⟨hc9, hf9⟩ := bcell9 b1; clear b1) | (go_at_call 104; refine (l4Has_I _ _ _ hz (by omega)).mono ?_; rintro e y2 ⟨rfl, rfl⟩))
      go_ret
      exact ⟨says_no (fun h => hc0 h.2), by assumption⟩
  · have eb0 : (b != 0) = true := by simp [hb0]
    go_enter Tryz.func100, Tryz.ntmps100
    go_wp2_with (first | (go_at_call 105; refine (l4Use_in n _ hn).mono ?_; rintro e y ⟨rfl, b1⟩; have hb9 := below2 b1; obtain ⟨hc9, hf9⟩ := bcell9 b1; clear b1) | (go_at_call 104; refine (l4Has_I _ _ _ hz (by omega)).mono ?_; rintro e y2 ⟨rfl, rfl⟩))
    go_ret
    exact ⟨says_no (fun h => hb0 h.1), by assumption⟩
theorem field_rst (n : Nat) (hn : n ≤ 63) (p : PD) (ac : Option Addr) (cc : Nat) (o4 : Option Addr) (c4 : Nat) (o5 : Option Addr) (c5 : Nat) (o8 : Option Addr) (c8 : Nat) (o9 : Option Addr) (c9 : Nat) (a b c s : Int) (w : World) (l107 : hasC (useS n) 107 = false) (l99 : hasC (useS n) 99 = false) (l106 : hasC (useS n) 106 = false) (l114 : hasC (useS n) 114 = true) (l110 : hasC (useS n) 110 = false) (l52 : hasC (useS n) 52 = false) (l49 : hasC (useS n) 49 = false) (l115 : hasC (useS n) 115 = true) (l117 : hasC (useS n) 117 = false) (l48 : hasC (useS n) 48 = false) (l118 : hasC (useS n) 118 = false) (l116 : hasC (useS n) 116 = true) (l50 : hasC (useS n) 50 = false) (l119 : hasC (useS n) 119 = false) (l86 : hasC (useS n) 86 = false) :
    Calls Tryz.prog 100 #[prV p ac cc o4 c4 o5 c5 o8 c8 o9 c9, insV n a b c s] w fun e w' => Says e (True) ∧ Below w.heap.size w w' := by
  have hz := useS_size n (by omega)
  go_enter Tryz.func100, Tryz.ntmps100
  go_wp2_with (first | (go_at_call 105; refine (l4Use_in n _ hn).mono ?_; rintro e y ⟨rfl, b1⟩; have hb9 := below2 b1; obtain ⟨hc9, hf9⟩ := bcell9 b1; clear b1) | (go_at_call 104; refine (l4Has_I _ _ _ hz (by omega)).mono ?_; rintro e y2 ⟨rfl, rfl⟩))
  go_ret
  exact ⟨says_yes trivial, by assumption⟩
theorem field_j (n : Nat) (hn : n ≤ 63) (p : PD) (ac : Option Addr) (cc : Nat) (o4 : Option Addr) (c4 : Nat) (o5 : Option Addr) (c5 : Nat) (o8 : Option Addr) (c8 : Nat) (o9 : Option Addr) (c9 : Nat) (a b c s : Int) (w : World) (l107 : hasC (useS n) 107 = false) (l99 : hasC (useS n) 99 = false) (l106 : hasC (useS n) 106 = true) (l114 : hasC (useS n) 114 = false) (l110 : hasC (useS n) 110 = false) (l52 : hasC (useS n) 52 = false) (l49 : hasC (useS n) 49 = false) (l115 : hasC (useS n) 115 = false) (l117 : hasC (useS n) 117 = false) (l48 : hasC (useS n) 48 = false) (l118 : hasC (useS n) 118 = false) (l116 : hasC (useS n) 116 = false) (l50 : hasC (useS n) 50 = false) (l119 : hasC (useS n) 119 = false) (l86 : hasC (useS n) 86 = false) :
    Calls Tryz.prog 100 #[prV p ac cc o4 c4 o5 c5 o8 c8 o9 c9, insV n a b c s] w fun e w' => Says e (a = 0) ∧ Below w.heap.size w w' := by
  have hz := useS_size n (by omega)
  by_cases ha0 : a = 0
  · have ea0 : (a != 0) = false := by simp [ha0]
    go_enter Tryz.func100, Tryz.ntmps100
    go_wp2_with (first | (go_at_call 105; refine (l4Use_in n _ hn).mono ?_; rintro e y ⟨rfl, b1⟩; have hb9 := below2 b1; obtain ⟨hc9, hf9⟩ := bcell9 b1; clear b1) | (go_at_call 104; refine (l4Has_I _ _ _ hz (by omega)).mono ?_; rintro e y2 ⟨rfl, rfl⟩))
    go_ret
    exact ⟨says_yes ha0, by assumption⟩
  · have ea0 : (a != 0) = true := by simp [ha0]
    go_enter Tryz.func100, Tryz.ntmps100
    go_wp2_with (first | (go_at_call 105; refine (l4Use_in n _ hn).mono ?_; rintro e y ⟨rfl, b1⟩; have hb9 := below2 b1; obtain ⟨hc9, hf9⟩ := bcell9 b1; clear b1) | (go_at_call 104; refine (l4Has_I _ _ _ hz (by omega)).mono ?_; rintro e y2 ⟨rfl, rfl⟩))
    go_ret
    exact ⟨says_no (fun h => ha0 h), by assumption⟩
theorem field_ostp (n : Nat) (hn : n ≤ 63) (p : PD) (ac : Option Addr) (cc : Nat) (o4 : Option Addr) (c4 : Nat) (o5 : Option Addr) (c5 : Nat) (o8 : Option Addr) (c8 : Nat) (o9 : Option Addr) (c9 : Nat) (a b c s : Int) (w : World) (l107 : hasC (useS n) 107 = false) (l99 : hasC (useS n) 99 = false) (l106 : hasC (useS n) 106 = false) (l114 : hasC (useS n) 114 = false) (l110 : hasC (useS n) 110 = false) (l52 : hasC (useS n) 52 = false) (l49 : hasC (useS n) 49 = true) (l115 : hasC (useS n) 115 = true) (l117 : hasC (useS n) 117 = false) (l48 : hasC (useS n) 48 = false) (l118 : hasC (useS n) 118 = false) (l116 : hasC (useS n) 116 = true) (l50 : hasC (useS n) 50 = false) (l119 : hasC (useS n) 119 = false) (l86 : hasC (useS n) 86 = false) :
    Calls Tryz.prog 100 #[prV p ac cc o4 c4 o5 c5 o8 c8 o9 c9, insV n a b c s] w fun e w' => Says e (a ≤ 1) ∧ Below w.heap.size w w' := by
  have hz := useS_size n (by omega)
  by_cases ha1 : a ≤ 1
  · have ea1 : ¬ (1 < a) := by omega
    go_enter Tryz.func100, Tryz.ntmps100
    go_wp2_with (first | (go_at_call 105; refine (l4Use_in n _ hn).mono ?_; rintro e y ⟨rfl, b1⟩; have hb9 := below2 b1; obtain ⟨hc9, hf9⟩ := bcell9 b1; clear b1) | (go_at_call 104; refine (l4Has_I _ _ _ hz (by omega)).mono ?_; rintro e y2 ⟨rfl, rfl⟩))
    go_ret
    exact ⟨says_yes ha1, by assumption⟩
  · have ea1 : 1 < a := by omega
    go_enter Tryz.func100, Tryz.ntmps100
    go_wp2_with (first | (go_at_call 105; refine (l4Use_in n _ hn).mono ?_; rintro e y ⟨rfl, b1⟩; have hb9 := below2 b1; obtain ⟨hc9, hf9⟩ := bcell9 b1; clear b1) | (go_at_call 104; refine (l4Has_I _ _ _ hz (by omega)).mono ?_; rintro e y2 ⟨rfl, rfl⟩))
    go_ret
    exact ⟨says_no (fun h => by omega), by assumption⟩
theorem field_rdp (n : Nat) (hn : n ≤ 63) (p : PD) (ac : Option Addr) (cc : Nat) (o4 : Option Addr) (c4 : Nat) (o5 : Option Addr) (c5 : Nat) (o8 : Option Addr) (c8 : Nat) (o9 : Option Addr) (c9 : Nat) (a b c s : Int) (w : World) (l107 : hasC (useS n) 107 = false) (l99 : hasC (useS n) 99 = false) (l106 : hasC (useS n) 106 = false) (l114 : hasC (useS n) 114 = true) (l110 : hasC (useS n) 110 = false) (l52 : hasC (useS n) 52 = false) (l49 : hasC (useS n) 49 = false) (l115 : hasC (useS n) 115 = false) (l117 : hasC (useS n) 117 = false) (l48 : hasC (useS n) 48 = false) (l118 : hasC (useS n) 118 = false) (l116 : hasC (useS n) 116 = false) (l50 : hasC (useS n) 50 = true) (l119 : hasC (useS n) 119 = false) (l86 : hasC (useS n) 86 = false) :
    Calls Tryz.prog 100 #[prV p ac cc o4 c4 o5 c5 o8 c8 o9 c9, insV n a b c s] w fun e w' => Says e (b = 0 ∧ c ≤ 1) ∧ Below w.heap.size w w' := by
  have hz := useS_size n (by omega)
  by_cases hb0 : b = 0
  · have eb0 : (b != 0) = false := by simp [hb0]
    by_cases hc1 : c ≤ 1
    · have ec1 : ¬ (1 < c) := by omega
      go_enter Tryz.func100, Tryz.ntmps100
      go_wp2_with (first | (go_at_call 105; refine (l4Use_in n _ hn).mono ?_; rintro e y ⟨rfl, b1⟩; have hb9 := below2 b1; obtain ⟨hc9, hf9⟩ := bcell9 b1; clear b1) | (go_at_call 104; refine (l4Has_I _ _ _ hz (by omega)).mono ?_; rintro e y2 ⟨rfl, rfl⟩))
      go_ret
      exact ⟨says_yes ⟨hb0, hc1⟩, by assumption⟩
    · have ec1 : 1 < c := by omega
      go_enter Tryz.func100, Tryz.ntmps100
      go_wp2_with (first | (go_at_call 105; refine (l4Use_in n _ hn).mono ?_; rintro e y ⟨rfl, b1⟩; have hb9 := below2 b1; obtain ⟨hc9, hf9⟩ := bcell9 b1; clear b1) | (go_at_call 104; refine (l4Has_I _ _ _ hz (by omega)).mono ?_; rintro e y2 ⟨rfl, rfl⟩))
      go_ret
      exact ⟨says_no (fun h => by omega), by assumption⟩
  · have eb0 : (b != 0) = true := by simp [hb0]
    go_enter Tryz.func100, Tryz.ntmps100
    go_wp2_with (first | (go_at_call 105; refine (l4Use_in n _ hn).mono ?_; rintro e y ⟨rfl, b1⟩; have hb9 := below2 b1; obtain ⟨hc9, hf9⟩ := bcell9 b1; clear b1) | (go_at_call 104; refine (l4Has_I _ _ _ hz (by omega)).mono ?_; rintro e y2 ⟨rfl, rfl⟩))
    go_ret
    exact ⟨says_no (fun h => hb0 h.1), by assumption⟩
theorem field_rvw (n : Nat) (hn : n ≤ 63) (p : PD) (ac : Option Addr) (cc : Nat) (o4 : Option Addr) (c4 : Nat) (o5 : Option Addr) (c5 : Nat) (o8 : Option Addr) (c8 : Nat) (o9 : Option Addr) (c9 : Nat) (a b c s : Int) (w : World) (l107 : hasC (useS n) 107 = false) (l99 : hasC (useS n) 99 = false) (l106 : hasC (useS n) 106 = false) (l114 : hasC (useS n) 114 = true) (l110 : hasC (useS n) 110 = false) (l52 : hasC (useS n) 52 = false) (l49 : hasC (useS n) 49 = false) (l115 : hasC (useS n) 115 = false) (l117 : hasC (useS n) 117 = false) (l48 : hasC (useS n) 48 = false) (l118 : hasC (useS n) 118 = true) (l116 : hasC (useS n) 116 = false) (l50 : hasC (useS n) 50 = false) (l119 : hasC (useS n) 119 = true) (l86 : hasC (useS n) 86 = false) :
    Calls Tryz.prog 100 #[prV p ac cc o4 c4 o5 c5 o8 c8 o9 c9, insV n a b c s] w fun e w' => Says e (True) ∧ Below w.heap.size w w' := by
  have hz := useS_size n (by omega)
  go_enter Tryz.func100, Tryz.ntmps100
  go_wp2_with (first | (go_at_call 105; refine (l4Use_in n _ hn).mono ?_; rintro e y ⟨rfl, b1⟩; have hb9 := below2 b1; obtain ⟨hc9, hf9⟩ := bcell9 b1; clear b1) | (go_at_call 104; refine (l4Has_I _ _ _ hz (by omega)).mono ?_; rintro e y2 ⟨rfl, rfl⟩))
  go_ret
  exact ⟨says_yes trivial, by assumption⟩
theorem field_rv (n : Nat) (hn : n ≤ 63) (p : PD) (ac : Option Addr) (cc : Nat) (o4 : Option Addr) (c4 : Nat) (o5 : Option Addr) (c5 : Nat) (o8 : Option Addr) (c8 : Nat) (o9 : Option Addr) (c9 : Nat) (a b c s : Int) (w : World) (l107 : hasC (useS n) 107 = false) (l99 : hasC (useS n) 99 = false) (l106 : hasC (useS n) 106 = false) (l114 : hasC (useS n) 114 = true) (l110 : hasC (useS n) 110 = false) (l52 : hasC (useS n) 52 = false) (l49 : hasC (useS n) 49 = false) (l115 : hasC (useS n) 115 = false) (l117 : hasC (useS n) 117 = false) (l48 : hasC (useS n) 48 = false) (l118 : hasC (useS n) 118 = true) (l116 : hasC (useS n) 116 = false) (l50 : hasC (useS n) 50 = false) (l119 : hasC (useS n) 119 = false) (l86 : hasC (useS n) 86 = false) :
    Calls Tryz.prog 100 #[prV p ac cc o4 c4 o5 c5 o8 c8 o9 c9, insV n a b c s] w fun e w' => Says e (c = 0) ∧ Below w.heap.size w w' := by
  have hz := useS_size n (by omega)
  by_cases hc0 : c = 0
  · have ec0 : (c != 0) = false := by simp [hc0]
    go_enter Tryz.func100, Tryz.ntmps100
    go_wp2_with (first | (go_at_call 105; refine (l4Use_in n _ hn).mono ?_; rintro e y ⟨rfl, b1⟩; have hb9 := below2 b1; obtain ⟨hc9, hf9⟩ := bcell9 b1; clear b1) | (go_at_call 104; refine (l4Has_I _ _ _ hz (by omega)).mono ?_; rintro e y2 ⟨rfl, rfl⟩))
    go_ret
    exact ⟨says_yes hc0, by assumption⟩
  · have ec0 : (c != 0) = true := by simp [hc0]
    go_enter Tryz.func100, Tryz.ntmps100
    go_wp2_with (first | (go_at_call 105; refine (l4Use_in n _ hn).mono ?_; rintro e y ⟨rfl, b1⟩; have hb9 := below2 b1; obtain ⟨hc9, hf9⟩ := bcell9 b1; clear b1) | (go_at_call 104; refine (l4Has_I _ _ _ hz (by omega)).mono ?_; rintro e y2 ⟨rfl, rfl⟩))
    go_ret
    exact ⟨says_no (fun h => hc0 h), by assumption⟩
theorem field_rvVV (n : Nat) (hn : n ≤ 63) (p : PD) (ac : Option Addr) (cc : Nat) (o4 : Option Addr) (c4 : Nat) (o5 : Option Addr) (c5 : Nat) (o8 : Option Addr) (c8 : Nat) (o9 : Option Addr) (c9 : Nat) (a b c s : Int) (w : World) (l107 : hasC (useS n) 107 = false) (l99 : hasC (useS n) 99 = false) (l106 : hasC (useS n) 106 = false) (l114 : hasC (useS n) 114 = true) (l110 : hasC (useS n) 110 = false) (l52 : hasC (useS n) 52 = false) (l49 : hasC (useS n) 49 = false) (l115 : hasC (useS n) 115 = false) (l117 : hasC (useS n) 117 = false) (l48 : hasC (useS n) 48 = false) (l118 : hasC (useS n) 118 = true) (l116 : hasC (useS n) 116 = false) (l50 : hasC (useS n) 50 = false) (l119 : hasC (useS n) 119 = false) (l86 : hasC (useS n) 86 = true) :
    Calls Tryz.prog 100 #[prV p ac cc o4 c4 o5 c5 o8 c8 o9 c9, insV n a b c s] w fun e w' => Says e (c = 0 ∧ p.vararg = true) ∧ Below w.heap.size w w' := by
  have hz := useS_size n (by omega)
  by_cases hc0 : c = 0
  · have ec0 : (c != 0) = false := by simp [hc0]
    by_cases hva : p.vararg = true
    · go_enter Tryz.func100, Tryz.ntmps100
      go_wp2_with (first | (go_at_call 105; refine (l4Use_in n _ hn).mono ?_; rintro e y ⟨rfl, b1⟩; have hb9 := below2 b1; obtain ⟨hc9, hf9⟩ := bcell9 b1; clear b1) | (go_at_call 104; refine (l4Has_I _ _ _ hz (by omega)).mono ?_; rintro e y2 ⟨rfl, rfl⟩))
      go_ret
      exact ⟨says_yes ⟨hc0, hva⟩, by assumption⟩
    · have eva : p.vararg = false := by simpa using hva
      go_enter Tryz.func100, Tryz.ntmps100
      go_wp2_with (first | (go_at_call 105; refine (l4Use_in n _ hn).mono ?_; rintro e y ⟨rfl, b1⟩; have hb9 := below2 b1; obtain ⟨hc9, hf9⟩ := bcell9 b1; clear b1) | (go_at_call 104; refine (l4Has_I _ _ _ hz (by omega)).mono ?_; rintro e y2 ⟨rfl, rfl⟩))
      go_ret
      exact ⟨says_no (fun h => hva h.2), by assumption⟩
  · have ec0 : (c != 0) = true := by simp [hc0]
    go_enter Tryz.func100, Tryz.ntmps100
    go_wp2_with (first | (go_at_call 105; refine (l4Use_in n _ hn).mono ?_; rintro e y ⟨rfl, b1⟩; have hb9 := below2 b1; obtain ⟨hc9, hf9⟩ := bcell9 b1; clear b1) | (go_at_call 104; refine (l4Has_I _ _ _ hz (by omega)).mono ?_; rintro e y2 ⟨rfl, rfl⟩))
    go_ret
    exact ⟨says_no (fun h => hc0 h.1), by assumption⟩
theorem field_rc (n : Nat) (hn : n ≤ 63) (p : PD) (ac : Option Addr) (cc : Nat) (o4 : Option Addr) (c4 : Nat) (o5 : Option Addr) (c5 : Nat) (o8 : Option Addr) (c8 : Nat) (o9 : Option Addr) (c9 : Nat) (a b c s : Int) (w : World) (l107 : hasC (useS n) 107 = false) (l99 : hasC (useS n) 99 = true) (l106 : hasC (useS n) 106 = false) (l114 : hasC (useS n) 114 = true) (l110 : hasC (useS n) 110 = false) (l52 : hasC (useS n) 52 = false) (l49 : hasC (useS n) 49 = false) (l115 : hasC (useS n) 115 = false) (l117 : hasC (useS n) 117 = false) (l48 : hasC (useS n) 48 = false) (l118 : hasC (useS n) 118 = false) (l116 : hasC (useS n) 116 = false) (l50 : hasC (useS n) 50 = false) (l119 : hasC (useS n) 119 = false) (l86 : hasC (useS n) 86 = false) :
    Calls Tryz.prog 100 #[prV p ac cc o4 c4 o5 c5 o8 c8 o9 c9, insV n a b c s] w fun e w' => Says e (True) ∧ Below w.heap.size w w' := by
  have hz := useS_size n (by omega)
  go_enter Tryz.func100, Tryz.ntmps100
  go_wp2_with (first | (go_at_call 105; refine (l4Use_in n _ hn).mono ?_; rintro e y ⟨rfl, b1⟩; have hb9 := below2 b1; obtain ⟨hc9, hf9⟩ := bcell9 b1; clear b1) | (go_at_call 104; refine (l4Has_I _ _ _ hz (by omega)).mono ?_; rintro e y2 ⟨rfl, rfl⟩))
  go_ret
  exact ⟨says_yes trivial, by assumption⟩
theorem field_qjh (n : Nat) (hn : n ≤ 63) (p : PD) (ac : Option Addr) (cc : Nat) (o4 : Option Addr) (c4 : Nat) (o5 : Option Addr) (c5 : Nat) (o8 : Option Addr) (c8 : Nat) (o9 : Option Addr) (c9 : Nat) (a b c s : Int) (w : World) (l107 : hasC (useS n) 107 = false) (l99 : hasC (useS n) 99 = false) (l106 : hasC (useS n) 106 = true) (l114 : hasC (useS n) 114 = false) (l110 : hasC (useS n) 110 = false) (l52 : hasC (useS n) 52 = true) (l49 : hasC (useS n) 49 = false) (l115 : hasC (useS n) 115 = false) (l117 : hasC (useS n) 117 = false) (l48 : hasC (useS n) 48 = false) (l118 : hasC (useS n) 118 = false) (l116 : hasC (useS n) 116 = false) (l50 : hasC (useS n) 50 = false) (l119 : hasC (useS n) 119 = false) (l86 : hasC (useS n) 86 = false) :
    Calls Tryz.prog 100 #[prV p ac cc o4 c4 o5 c5 o8 c8 o9 c9, insV n a b c s] w fun e w' => Says e (True) ∧ Below w.heap.size w w' := by
  have hz := useS_size n (by omega)
  go_enter Tryz.func100, Tryz.ntmps100
  go_wp2_with (first | (go_at_call 105; refine (l4Use_in n _ hn).mono ?_; rintro e y ⟨rfl, b1⟩; have hb9 := below2 b1; obtain ⟨hc9, hf9⟩ := bcell9 b1; clear b1) | (go_at_call 104; refine (l4Has_I _ _ _ hz (by omega)).mono ?_; rintro e y2 ⟨rfl, rfl⟩))
  go_ret
  exact ⟨says_yes trivial, by assumption⟩
theorem field_qj (n : Nat) (hn : n ≤ 63) (p : PD) (ac : Option Addr) (cc : Nat) (o4 : Option Addr) (c4 : Nat) (o5 : Option Addr) (c5 : Nat) (o8 : Option Addr) (c8 : Nat) (o9 : Option Addr) (c9 : Nat) (a b c s : Int) (w : World) (l107 : hasC (useS n) 107 = false) (l99 : hasC (useS n) 99 = false) (l106 : hasC (useS n) 106 = true) (l114 : hasC (useS n) 114 = false) (l110 : hasC (useS n) 110 = false) (l52 : hasC (useS n) 52 = true) (l49 : hasC (useS n) 49 = false) (l115 : hasC (useS n) 115 = false) (l117 : hasC (useS n) 117 = false) (l48 : hasC (useS n) 48 = false) (l118 : hasC (useS n) 118 = false) (l116 : hasC (useS n) 116 = false) (l50 : hasC (useS n) 50 = false) (l119 : hasC (useS n) 119 = false) (l86 : hasC (useS n) 86 = false) :
    Calls Tryz.prog 100 #[prV p ac cc o4 c4 o5 c5 o8 c8 o9 c9, insV n a b c s] w fun e w' => Says e (True) ∧ Below w.heap.size w w' := by
  have hz := useS_size n (by omega)
  go_enter Tryz.func100, Tryz.ntmps100
  go_wp2_with (first | (go_at_call 105; refine (l4Use_in n _ hn).mono ?_; rintro e y ⟨rfl, b1⟩; have hb9 := below2 b1; obtain ⟨hc9, hf9⟩ := bcell9 b1; clear b1) | (go_at_call 104; refine (l4Has_I _ _ _ hz (by omega)).mono ?_; rintro e y2 ⟨rfl, rfl⟩))
  go_ret
  exact ⟨says_yes trivial, by assumption⟩
theorem l4Field_in (n : Nat) (hn : n ≤ 33) (p : PD) (ac : Option Addr) (cc : Nat) (o4 : Option Addr) (c4 : Nat) (o5 : Option Addr) (c5 : Nat) (o8 : Option Addr) (c8 : Nat) (o9 : Option Addr) (c9 : Nat) (a b c s : Int) (w : World) :
    Calls Tryz.prog 100 #[prV p ac cc o4 c4 o5 c5 o8 c8 o9 c9, insV n a b c s] w fun e w' => Says e (FieldOk n a b c p.vararg) ∧ Below w.heap.size w w' := by
  by_cases k_rs : n = 0 ∨ n = 15 ∨ n = 16 ∨ n = 17 ∨ n = 29 ∨ n = 32
  · have hl : hasC (useS n) 107 = false ∧ hasC (useS n) 99 = false ∧ hasC (useS n) 106 = false ∧ hasC (useS n) 114 = true ∧ hasC (useS n) 110 = false ∧ hasC (useS n) 52 = false ∧ hasC (useS n) 49 = false ∧ hasC (useS n) 115 = true ∧ hasC (useS n) 117 = false ∧ hasC (useS n) 48 = false ∧ hasC (useS n) 118 = false ∧ hasC (useS n) 116 = false ∧ hasC (useS n) 50 = false ∧ hasC (useS n) 119 = false ∧ hasC (useS n) 86 = false := by
      rcases k_rs with rfl | rfl | rfl | rfl | rfl | rfl <;> decide
    refine (field_rs n (by omega) p ac cc o4 c4 o5 c5 o8 c8 o9 c9 a b c s w hl.1 hl.2.1 hl.2.2.1 hl.2.2.2.1 hl.2.2.2.2.1 hl.2.2.2.2.2.1 hl.2.2.2.2.2.2.1 hl.2.2.2.2.2.2.2.1 hl.2.2.2.2.2.2.2.2.1 hl.2.2.2.2.2.2.2.2.2.1 hl.2.2.2.2.2.2.2.2.2.2.1 hl.2.2.2.2.2.2.2.2.2.2.2.1 hl.2.2.2.2.2.2.2.2.2.2.2.2.1 hl.2.2.2.2.2.2.2.2.2.2.2.2.2.1 hl.2.2.2.2.2.2.2.2.2.2.2.2.2.2).mono fun e w' ⟨he, hb⟩ => ⟨says_iff he ⟨fun hc0 => ⟨fun _ => hc0, fun h => absurd h (by omega), fun h => absurd h (by omega), fun h => absurd h (by omega), fun h => absurd h (by omega), fun h => absurd h (by omega), fun h => absurd h (by omega)⟩, fun h => h.c0 (by omega)⟩, hb⟩
  by_cases k_rk : n = 1
  · have hl : hasC (useS n) 107 = true ∧ hasC (useS n) 99 = false ∧ hasC (useS n) 106 = false ∧ hasC (useS n) 114 = true ∧ hasC (useS n) 110 = false ∧ hasC (useS n) 52 = false ∧ hasC (useS n) 49 = false ∧ hasC (useS n) 115 = false ∧ hasC (useS n) 117 = false ∧ hasC (useS n) 48 = false ∧ hasC (useS n) 118 = false ∧ hasC (useS n) 116 = false ∧ hasC (useS n) 50 = false ∧ hasC (useS n) 119 = false ∧ hasC (useS n) 86 = false := by
      rcases k_rk with rfl <;> decide
    refine (field_rk n (by omega) p ac cc o4 c4 o5 c5 o8 c8 o9 c9 a b c s w hl.1 hl.2.1 hl.2.2.1 hl.2.2.2.1 hl.2.2.2.2.1 hl.2.2.2.2.2.1 hl.2.2.2.2.2.2.1 hl.2.2.2.2.2.2.2.1 hl.2.2.2.2.2.2.2.2.1 hl.2.2.2.2.2.2.2.2.2.1 hl.2.2.2.2.2.2.2.2.2.2.1 hl.2.2.2.2.2.2.2.2.2.2.2.1 hl.2.2.2.2.2.2.2.2.2.2.2.2.1 hl.2.2.2.2.2.2.2.2.2.2.2.2.2.1 hl.2.2.2.2.2.2.2.2.2.2.2.2.2.2).mono fun e w' ⟨he, hb⟩ => ⟨says_iff he ⟨fun _ => ⟨fun h => absurd h (by omega), fun h => absurd h (by omega), fun h => absurd h (by omega), fun h => absurd h (by omega), fun h => absurd h (by omega), fun h => absurd h (by omega), fun h => absurd h (by omega)⟩, fun h => trivial⟩, hb⟩
  by_cases k_n : n = 2
  · have hl : hasC (useS n) 107 = false ∧ hasC (useS n) 99 = false ∧ hasC (useS n) 106 = false ∧ hasC (useS n) 114 = false ∧ hasC (useS n) 110 = true ∧ hasC (useS n) 52 = false ∧ hasC (useS n) 49 = false ∧ hasC (useS n) 115 = false ∧ hasC (useS n) 117 = false ∧ hasC (useS n) 48 = false ∧ hasC (useS n) 118 = false ∧ hasC (useS n) 116 = false ∧ hasC (useS n) 50 = false ∧ hasC (useS n) 119 = false ∧ hasC (useS n) 86 = false := by
      rcases k_n with rfl <;> decide
    refine (field_n n (by omega) p ac cc o4 c4 o5 c5 o8 c8 o9 c9 a b c s w hl.1 hl.2.1 hl.2.2.1 hl.2.2.2.1 hl.2.2.2.2.1 hl.2.2.2.2.2.1 hl.2.2.2.2.2.2.1 hl.2.2.2.2.2.2.2.1 hl.2.2.2.2.2.2.2.2.1 hl.2.2.2.2.2.2.2.2.2.1 hl.2.2.2.2.2.2.2.2.2.2.1 hl.2.2.2.2.2.2.2.2.2.2.2.1 hl.2.2.2.2.2.2.2.2.2.2.2.2.1 hl.2.2.2.2.2.2.2.2.2.2.2.2.2.1 hl.2.2.2.2.2.2.2.2.2.2.2.2.2.2).mono fun e w' ⟨he, hb⟩ => ⟨says_iff he ⟨fun hc0 => ⟨fun _ => hc0, fun h => absurd h (by omega), fun h => absurd h (by omega), fun h => absurd h (by omega), fun h => absurd h (by omega), fun h => absurd h (by omega), fun h => absurd h (by omega)⟩, fun h => h.c0 (by omega)⟩, hb⟩
  by_cases k_rz : n = 3
  · have hl : hasC (useS n) 107 = false ∧ hasC (useS n) 99 = false ∧ hasC (useS n) 106 = false ∧ hasC (useS n) 114 = true ∧ hasC (useS n) 110 = false ∧ hasC (useS n) 52 = false ∧ hasC (useS n) 49 = false ∧ hasC (useS n) 115 = false ∧ hasC (useS n) 117 = false ∧ hasC (useS n) 48 = true ∧ hasC (useS n) 118 = false ∧ hasC (useS n) 116 = false ∧ hasC (useS n) 50 = false ∧ hasC (useS n) 119 = false ∧ hasC (useS n) 86 = false := by
      rcases k_rz with rfl <;> decide
    refine (field_rz n (by omega) p ac cc o4 c4 o5 c5 o8 c8 o9 c9 a b c s w hl.1 hl.2.1 hl.2.2.1 hl.2.2.2.1 hl.2.2.2.2.1 hl.2.2.2.2.2.1 hl.2.2.2.2.2.2.1 hl.2.2.2.2.2.2.2.1 hl.2.2.2.2.2.2.2.2.1 hl.2.2.2.2.2.2.2.2.2.1 hl.2.2.2.2.2.2.2.2.2.2.1 hl.2.2.2.2.2.2.2.2.2.2.2.1 hl.2.2.2.2.2.2.2.2.2.2.2.2.1 hl.2.2.2.2.2.2.2.2.2.2.2.2.2.1 hl.2.2.2.2.2.2.2.2.2.2.2.2.2.2).mono fun e w' ⟨he, hb⟩ => ⟨says_iff he ⟨fun ⟨hc0, hb1⟩ => ⟨fun _ => hc0, fun h => absurd h (by omega), fun h => absurd h (by omega), fun h => absurd h (by omega), fun _ => hb1, fun h => absurd h (by omega), fun h => absurd h (by omega)⟩, fun h => ⟨h.c0 (by omega), h.b1 (by omega)⟩⟩, hb⟩
  by_cases k_ru : n = 4 ∨ n = 5
  · have hl : hasC (useS n) 107 = false ∧ hasC (useS n) 99 = false ∧ hasC (useS n) 106 = false ∧ hasC (useS n) 114 = true ∧ hasC (useS n) 110 = false ∧ hasC (useS n) 52 = false ∧ hasC (useS n) 49 = false ∧ hasC (useS n) 115 = false ∧ hasC (useS n) 117 = true ∧ hasC (useS n) 48 = false ∧ hasC (useS n) 118 = false ∧ hasC (useS n) 116 = false ∧ hasC (useS n) 50 = false ∧ hasC (useS n) 119 = false ∧ hasC (useS n) 86 = false := by
      rcases k_ru with rfl | rfl <;> decide
    refine (field_ru n (by omega) p ac cc o4 c4 o5 c5 o8 c8 o9 c9 a b c s w hl.1 hl.2.1 hl.2.2.1 hl.2.2.2.1 hl.2.2.2.2.1 hl.2.2.2.2.2.1 hl.2.2.2.2.2.2.1 hl.2.2.2.2.2.2.2.1 hl.2.2.2.2.2.2.2.2.1 hl.2.2.2.2.2.2.2.2.2.1 hl.2.2.2.2.2.2.2.2.2.2.1 hl.2.2.2.2.2.2.2.2.2.2.2.1 hl.2.2.2.2.2.2.2.2.2.2.2.2.1 hl.2.2.2.2.2.2.2.2.2.2.2.2.2.1 hl.2.2.2.2.2.2.2.2.2.2.2.2.2.2).mono fun e w' ⟨he, hb⟩ => ⟨says_iff he ⟨fun hc0 => ⟨fun _ => hc0, fun h => absurd h (by omega), fun h => absurd h (by omega), fun h => absurd h (by omega), fun h => absurd h (by omega), fun h => absurd h (by omega), fun h => absurd h (by omega)⟩, fun h => h.c0 (by omega)⟩, hb⟩
  by_cases k_r : n = 6 ∨ n = 26 ∨ n = 33
  · have hl : hasC (useS n) 107 = false ∧ hasC (useS n) 99 = false ∧ hasC (useS n) 106 = false ∧ hasC (useS n) 114 = true ∧ hasC (useS n) 110 = false ∧ hasC (useS n) 52 = false ∧ hasC (useS n) 49 = false ∧ hasC (useS n) 115 = false ∧ hasC (useS n) 117 = false ∧ hasC (useS n) 48 = false ∧ hasC (useS n) 118 = false ∧ hasC (useS n) 116 = false ∧ hasC (useS n) 50 = false ∧ hasC (useS n) 119 = false ∧ hasC (useS n) 86 = false := by
      rcases k_r with rfl | rfl | rfl <;> decide
    refine (field_r n (by omega) p ac cc o4 c4 o5 c5 o8 c8 o9 c9 a b c s w hl.1 hl.2.1 hl.2.2.1 hl.2.2.2.1 hl.2.2.2.2.1 hl.2.2.2.2.2.1 hl.2.2.2.2.2.2.1 hl.2.2.2.2.2.2.2.1 hl.2.2.2.2.2.2.2.2.1 hl.2.2.2.2.2.2.2.2.2.1 hl.2.2.2.2.2.2.2.2.2.2.1 hl.2.2.2.2.2.2.2.2.2.2.2.1 hl.2.2.2.2.2.2.2.2.2.2.2.2.1 hl.2.2.2.2.2.2.2.2.2.2.2.2.2.1 hl.2.2.2.2.2.2.2.2.2.2.2.2.2.2).mono fun e w' ⟨he, hb⟩ => ⟨says_iff he ⟨fun ⟨hb0, hc0⟩ => ⟨fun _ => hc0, fun _ => hb0, fun h => absurd h (by omega), fun h => absurd h (by omega), fun h => absurd h (by omega), fun h => absurd h (by omega), fun h => absurd h (by omega)⟩, fun h => ⟨h.b0 (by omega), h.c0 (by omega)⟩⟩, hb⟩
  by_cases k_rst : n = 7 ∨ n = 8 ∨ n = 9 ∨ n = 10 ∨ n = 11 ∨ n = 12 ∨ n = 13 ∨ n = 14
  · have hl : hasC (useS n) 107 = false ∧ hasC (useS n) 99 = false ∧ hasC (useS n) 106 = false ∧ hasC (useS n) 114 = true ∧ hasC (useS n) 110 = false ∧ hasC (useS n) 52 = false ∧ hasC (useS n) 49 = false ∧ hasC (useS n) 115 = true ∧ hasC (useS n) 117 = false ∧ hasC (useS n) 48 = false ∧ hasC (useS n) 118 = false ∧ hasC (useS n) 116 = true ∧ hasC (useS n) 50 = false ∧ hasC (useS n) 119 = false ∧ hasC (useS n) 86 = false := by
      rcases k_rst with rfl | rfl | rfl | rfl | rfl | rfl | rfl | rfl <;> decide
    refine (field_rst n (by omega) p ac cc o4 c4 o5 c5 o8 c8 o9 c9 a b c s w hl.1 hl.2.1 hl.2.2.1 hl.2.2.2.1 hl.2.2.2.2.1 hl.2.2.2.2.2.1 hl.2.2.2.2.2.2.1 hl.2.2.2.2.2.2.2.1 hl.2.2.2.2.2.2.2.2.1 hl.2.2.2.2.2.2.2.2.2.1 hl.2.2.2.2.2.2.2.2.2.2.1 hl.2.2.2.2.2.2.2.2.2.2.2.1 hl.2.2.2.2.2.2.2.2.2.2.2.2.1 hl.2.2.2.2.2.2.2.2.2.2.2.2.2.1 hl.2.2.2.2.2.2.2.2.2.2.2.2.2.2).mono fun e w' ⟨he, hb⟩ => ⟨says_iff he ⟨fun _ => ⟨fun h => absurd h (by omega), fun h => absurd h (by omega), fun h => absurd h (by omega), fun h => absurd h (by omega), fun h => absurd h (by omega), fun h => absurd h (by omega), fun h => absurd h (by omega)⟩, fun h => trivial⟩, hb⟩
  by_cases k_j : n = 18
  · have hl : hasC (useS n) 107 = false ∧ hasC (useS n) 99 = false ∧ hasC (useS n) 106 = true ∧ hasC (useS n) 114 = false ∧ hasC (useS n) 110 = false ∧ hasC (useS n) 52 = false ∧ hasC (useS n) 49 = false ∧ hasC (useS n) 115 = false ∧ hasC (useS n) 117 = false ∧ hasC (useS n) 48 = false ∧ hasC (useS n) 118 = false ∧ hasC (useS n) 116 = false ∧ hasC (useS n) 50 = false ∧ hasC (useS n) 119 = false ∧ hasC (useS n) 86 = false := by
      rcases k_j with rfl <;> decide
    refine (field_j n (by omega) p ac cc o4 c4 o5 c5 o8 c8 o9 c9 a b c s w hl.1 hl.2.1 hl.2.2.1 hl.2.2.2.1 hl.2.2.2.2.1 hl.2.2.2.2.2.1 hl.2.2.2.2.2.2.1 hl.2.2.2.2.2.2.2.1 hl.2.2.2.2.2.2.2.2.1 hl.2.2.2.2.2.2.2.2.2.1 hl.2.2.2.2.2.2.2.2.2.2.1 hl.2.2.2.2.2.2.2.2.2.2.2.1 hl.2.2.2.2.2.2.2.2.2.2.2.2.1 hl.2.2.2.2.2.2.2.2.2.2.2.2.2.1 hl.2.2.2.2.2.2.2.2.2.2.2.2.2.2).mono fun e w' ⟨he, hb⟩ => ⟨says_iff he ⟨fun ha0 => ⟨fun h => absurd h (by omega), fun h => absurd h (by omega), fun _ => ha0, fun h => absurd h (by omega), fun h => absurd h (by omega), fun h => absurd h (by omega), fun h => absurd h (by omega)⟩, fun h => h.a0 (by omega)⟩, hb⟩
  by_cases k_ostp : n = 19 ∨ n = 20
  · have hl : hasC (useS n) 107 = false ∧ hasC (useS n) 99 = false ∧ hasC (useS n) 106 = false ∧ hasC (useS n) 114 = false ∧ hasC (useS n) 110 = false ∧ hasC (useS n) 52 = false ∧ hasC (useS n) 49 = true ∧ hasC (useS n) 115 = true ∧ hasC (useS n) 117 = false ∧ hasC (useS n) 48 = false ∧ hasC (useS n) 118 = false ∧ hasC (useS n) 116 = true ∧ hasC (useS n) 50 = false ∧ hasC (useS n) 119 = false ∧ hasC (useS n) 86 = false := by
      rcases k_ostp with rfl | rfl <;> decide
    refine (field_ostp n (by omega) p ac cc o4 c4 o5 c5 o8 c8 o9 c9 a b c s w hl.1 hl.2.1 hl.2.2.1 hl.2.2.2.1 hl.2.2.2.2.1 hl.2.2.2.2.2.1 hl.2.2.2.2.2.2.1 hl.2.2.2.2.2.2.2.1 hl.2.2.2.2.2.2.2.2.1 hl.2.2.2.2.2.2.2.2.2.1 hl.2.2.2.2.2.2.2.2.2.2.1 hl.2.2.2.2.2.2.2.2.2.2.2.1 hl.2.2.2.2.2.2.2.2.2.2.2.2.1 hl.2.2.2.2.2.2.2.2.2.2.2.2.2.1 hl.2.2.2.2.2.2.2.2.2.2.2.2.2.2).mono fun e w' ⟨he, hb⟩ => ⟨says_iff he ⟨fun ha1 => ⟨fun h => absurd h (by omega), fun h => absurd h (by omega), fun h => absurd h (by omega), fun _ => ha1, fun h => absurd h (by omega), fun h => absurd h (by omega), fun h => absurd h (by omega)⟩, fun h => h.a1 (by omega)⟩, hb⟩
  by_cases k_rdp : n = 21
  · have hl : hasC (useS n) 107 = false ∧ hasC (useS n) 99 = false ∧ hasC (useS n) 106 = false ∧ hasC (useS n) 114 = true ∧ hasC (useS n) 110 = false ∧ hasC (useS n) 52 = false ∧ hasC (useS n) 49 = false ∧ hasC (useS n) 115 = false ∧ hasC (useS n) 117 = false ∧ hasC (useS n) 48 = false ∧ hasC (useS n) 118 = false ∧ hasC (useS n) 116 = false ∧ hasC (useS n) 50 = true ∧ hasC (useS n) 119 = false ∧ hasC (useS n) 86 = false := by
      rcases k_rdp with rfl <;> decide
    refine (field_rdp n (by omega) p ac cc o4 c4 o5 c5 o8 c8 o9 c9 a b c s w hl.1 hl.2.1 hl.2.2.1 hl.2.2.2.1 hl.2.2.2.2.1 hl.2.2.2.2.2.1 hl.2.2.2.2.2.2.1 hl.2.2.2.2.2.2.2.1 hl.2.2.2.2.2.2.2.2.1 hl.2.2.2.2.2.2.2.2.2.1 hl.2.2.2.2.2.2.2.2.2.2.1 hl.2.2.2.2.2.2.2.2.2.2.2.1 hl.2.2.2.2.2.2.2.2.2.2.2.2.1 hl.2.2.2.2.2.2.2.2.2.2.2.2.2.1 hl.2.2.2.2.2.2.2.2.2.2.2.2.2.2).mono fun e w' ⟨he, hb⟩ => ⟨says_iff he ⟨fun ⟨hb0, hc1⟩ => ⟨fun h => absurd h (by omega), fun _ => hb0, fun h => absurd h (by omega), fun h => absurd h (by omega), fun h => absurd h (by omega), fun _ => hc1, fun h => absurd h (by omega)⟩, fun h => ⟨h.b0 (by omega), h.c1 (by omega)⟩⟩, hb⟩
  by_cases k_rvw : n = 22 ∨ n = 30 ∨ n = 31
  · have hl : hasC (useS n) 107 = false ∧ hasC (useS n) 99 = false ∧ hasC (useS n) 106 = false ∧ hasC (useS n) 114 = true ∧ hasC (useS n) 110 = false ∧ hasC (useS n) 52 = false ∧ hasC (useS n) 49 = false ∧ hasC (useS n) 115 = false ∧ hasC (useS n) 117 = false ∧ hasC (useS n) 48 = false ∧ hasC (useS n) 118 = true ∧ hasC (useS n) 116 = false ∧ hasC (useS n) 50 = false ∧ hasC (useS n) 119 = true ∧ hasC (useS n) 86 = false := by
      rcases k_rvw with rfl | rfl | rfl <;> decide
    refine (field_rvw n (by omega) p ac cc o4 c4 o5 c5 o8 c8 o9 c9 a b c s w hl.1 hl.2.1 hl.2.2.1 hl.2.2.2.1 hl.2.2.2.2.1 hl.2.2.2.2.2.1 hl.2.2.2.2.2.2.1 hl.2.2.2.2.2.2.2.1 hl.2.2.2.2.2.2.2.2.1 hl.2.2.2.2.2.2.2.2.2.1 hl.2.2.2.2.2.2.2.2.2.2.1 hl.2.2.2.2.2.2.2.2.2.2.2.1 hl.2.2.2.2.2.2.2.2.2.2.2.2.1 hl.2.2.2.2.2.2.2.2.2.2.2.2.2.1 hl.2.2.2.2.2.2.2.2.2.2.2.2.2.2).mono fun e w' ⟨he, hb⟩ => ⟨says_iff he ⟨fun _ => ⟨fun h => absurd h (by omega), fun h => absurd h (by omega), fun h => absurd h (by omega), fun h => absurd h (by omega), fun h => absurd h (by omega), fun h => absurd h (by omega), fun h => absurd h (by omega)⟩, fun h => trivial⟩, hb⟩
  by_cases k_rv : n = 23
  · have hl : hasC (useS n) 107 = false ∧ hasC (useS n) 99 = false ∧ hasC (useS n) 106 = false ∧ hasC (useS n) 114 = true ∧ hasC (useS n) 110 = false ∧ hasC (useS n) 52 = false ∧ hasC (useS n) 49 = false ∧ hasC (useS n) 115 = false ∧ hasC (useS n) 117 = false ∧ hasC (useS n) 48 = false ∧ hasC (useS n) 118 = true ∧ hasC (useS n) 116 = false ∧ hasC (useS n) 50 = false ∧ hasC (useS n) 119 = false ∧ hasC (useS n) 86 = false := by
      rcases k_rv with rfl <;> decide
    refine (field_rv n (by omega) p ac cc o4 c4 o5 c5 o8 c8 o9 c9 a b c s w hl.1 hl.2.1 hl.2.2.1 hl.2.2.2.1 hl.2.2.2.2.1 hl.2.2.2.2.2.1 hl.2.2.2.2.2.2.1 hl.2.2.2.2.2.2.2.1 hl.2.2.2.2.2.2.2.2.1 hl.2.2.2.2.2.2.2.2.2.1 hl.2.2.2.2.2.2.2.2.2.2.1 hl.2.2.2.2.2.2.2.2.2.2.2.1 hl.2.2.2.2.2.2.2.2.2.2.2.2.1 hl.2.2.2.2.2.2.2.2.2.2.2.2.2.1 hl.2.2.2.2.2.2.2.2.2.2.2.2.2.2).mono fun e w' ⟨he, hb⟩ => ⟨says_iff he ⟨fun hc0 => ⟨fun _ => hc0, fun h => absurd h (by omega), fun h => absurd h (by omega), fun h => absurd h (by omega), fun h => absurd h (by omega), fun h => absurd h (by omega), fun h => absurd h (by omega)⟩, fun h => h.c0 (by omega)⟩, hb⟩
  by_cases k_rvVV : n = 24
  · have hl : hasC (useS n) 107 = false ∧ hasC (useS n) 99 = false ∧ hasC (useS n) 106 = false ∧ hasC (useS n) 114 = true ∧ hasC (useS n) 110 = false ∧ hasC (useS n) 52 = false ∧ hasC (useS n) 49 = false ∧ hasC (useS n) 115 = false ∧ hasC (useS n) 117 = false ∧ hasC (useS n) 48 = false ∧ hasC (useS n) 118 = true ∧ hasC (useS n) 116 = false ∧ hasC (useS n) 50 = false ∧ hasC (useS n) 119 = false ∧ hasC (useS n) 86 = true := by
      rcases k_rvVV with rfl <;> decide
    refine (field_rvVV n (by omega) p ac cc o4 c4 o5 c5 o8 c8 o9 c9 a b c s w hl.1 hl.2.1 hl.2.2.1 hl.2.2.2.1 hl.2.2.2.2.1 hl.2.2.2.2.2.1 hl.2.2.2.2.2.2.1 hl.2.2.2.2.2.2.2.1 hl.2.2.2.2.2.2.2.2.1 hl.2.2.2.2.2.2.2.2.2.1 hl.2.2.2.2.2.2.2.2.2.2.1 hl.2.2.2.2.2.2.2.2.2.2.2.1 hl.2.2.2.2.2.2.2.2.2.2.2.2.1 hl.2.2.2.2.2.2.2.2.2.2.2.2.2.1 hl.2.2.2.2.2.2.2.2.2.2.2.2.2.2).mono fun e w' ⟨he, hb⟩ => ⟨says_iff he ⟨fun ⟨hc0, hva⟩ => ⟨fun _ => hc0, fun h => absurd h (by omega), fun h => absurd h (by omega), fun h => absurd h (by omega), fun h => absurd h (by omega), fun h => absurd h (by omega), fun _ => hva⟩, fun h => ⟨h.c0 (by omega), h.va (by omega)⟩⟩, hb⟩
  by_cases k_rc : n = 25
  · have hl : hasC (useS n) 107 = false ∧ hasC (useS n) 99 = true ∧ hasC (useS n) 106 = false ∧ hasC (useS n) 114 = true ∧ hasC (useS n) 110 = false ∧ hasC (useS n) 52 = false ∧ hasC (useS n) 49 = false ∧ hasC (useS n) 115 = false ∧ hasC (useS n) 117 = false ∧ hasC (useS n) 48 = false ∧ hasC (useS n) 118 = false ∧ hasC (useS n) 116 = false ∧ hasC (useS n) 50 = false ∧ hasC (useS n) 119 = false ∧ hasC (useS n) 86 = false := by
      rcases k_rc with rfl <;> decide
    refine (field_rc n (by omega) p ac cc o4 c4 o5 c5 o8 c8 o9 c9 a b c s w hl.1 hl.2.1 hl.2.2.1 hl.2.2.2.1 hl.2.2.2.2.1 hl.2.2.2.2.2.1 hl.2.2.2.2.2.2.1 hl.2.2.2.2.2.2.2.1 hl.2.2.2.2.2.2.2.2.1 hl.2.2.2.2.2.2.2.2.2.1 hl.2.2.2.2.2.2.2.2.2.2.1 hl.2.2.2.2.2.2.2.2.2.2.2.1 hl.2.2.2.2.2.2.2.2.2.2.2.2.1 hl.2.2.2.2.2.2.2.2.2.2.2.2.2.1 hl.2.2.2.2.2.2.2.2.2.2.2.2.2.2).mono fun e w' ⟨he, hb⟩ => ⟨says_iff he ⟨fun _ => ⟨fun h => absurd h (by omega), fun h => absurd h (by omega), fun h => absurd h (by omega), fun h => absurd h (by omega), fun h => absurd h (by omega), fun h => absurd h (by omega), fun h => absurd h (by omega)⟩, fun h => trivial⟩, hb⟩
  by_cases k_qjh : n = 27
  · have hl : hasC (useS n) 107 = false ∧ hasC (useS n) 99 = false ∧ hasC (useS n) 106 = true ∧ hasC (useS n) 114 = false ∧ hasC (useS n) 110 = false ∧ hasC (useS n) 52 = true ∧ hasC (useS n) 49 = false ∧ hasC (useS n) 115 = false ∧ hasC (useS n) 117 = false ∧ hasC (useS n) 48 = false ∧ hasC (useS n) 118 = false ∧ hasC (useS n) 116 = false ∧ hasC (useS n) 50 = false ∧ hasC (useS n) 119 = false ∧ hasC (useS n) 86 = false := by
      rcases k_qjh with rfl <;> decide
    refine (field_qjh n (by omega) p ac cc o4 c4 o5 c5 o8 c8 o9 c9 a b c s w hl.1 hl.2.1 hl.2.2.1 hl.2.2.2.1 hl.2.2.2.2.1 hl.2.2.2.2.2.1 hl.2.2.2.2.2.2.1 hl.2.2.2.2.2.2.2.1 hl.2.2.2.2.2.2.2.2.1 hl.2.2.2.2.2.2.2.2.2.1 hl.2.2.2.2.2.2.2.2.2.2.1 hl.2.2.2.2.2.2.2.2.2.2.2.1 hl.2.2.2.2.2.2.2.2.2.2.2.2.1 hl.2.2.2.2.2.2.2.2.2.2.2.2.2.1 hl.2.2.2.2.2.2.2.2.2.2.2.2.2.2).mono fun e w' ⟨he, hb⟩ => ⟨says_iff he ⟨fun _ => ⟨fun h => absurd h (by omega), fun h => absurd h (by omega), fun h => absurd h (by omega), fun h => absurd h (by omega), fun h => absurd h (by omega), fun h => absurd h (by omega), fun h => absurd h (by omega)⟩, fun h => trivial⟩, hb⟩
  by_cases k_qj : n = 28
  · have hl : hasC (useS n) 107 = false ∧ hasC (useS n) 99 = false ∧ hasC (useS n) 106 = true ∧ hasC (useS n) 114 = false ∧ hasC (useS n) 110 = false ∧ hasC (useS n) 52 = true ∧ hasC (useS n) 49 = false ∧ hasC (useS n) 115 = false ∧ hasC (useS n) 117 = false ∧ hasC (useS n) 48 = false ∧ hasC (useS n) 118 = false ∧ hasC (useS n) 116 = false ∧ hasC (useS n) 50 = false ∧ hasC (useS n) 119 = false ∧ hasC (useS n) 86 = false := by
      rcases k_qj with rfl <;> decide
    refine (field_qj n (by omega) p ac cc o4 c4 o5 c5 o8 c8 o9 c9 a b c s w hl.1 hl.2.1 hl.2.2.1 hl.2.2.2.1 hl.2.2.2.2.1 hl.2.2.2.2.2.1 hl.2.2.2.2.2.2.1 hl.2.2.2.2.2.2.2.1 hl.2.2.2.2.2.2.2.2.1 hl.2.2.2.2.2.2.2.2.2.1 hl.2.2.2.2.2.2.2.2.2.2.1 hl.2.2.2.2.2.2.2.2.2.2.2.1 hl.2.2.2.2.2.2.2.2.2.2.2.2.1 hl.2.2.2.2.2.2.2.2.2.2.2.2.2.1 hl.2.2.2.2.2.2.2.2.2.2.2.2.2.2).mono fun e w' ⟨he, hb⟩ => ⟨says_iff he ⟨fun _ => ⟨fun h => absurd h (by omega), fun h => absurd h (by omega), fun h => absurd h (by omega), fun h => absurd h (by omega), fun h => absurd h (by omega), fun h => absurd h (by omega), fun h => absurd h (by omega)⟩, fun h => trivial⟩, hb⟩
  omega
end Go.Proofs.YtckapapejfnojaaGreatDoor

import Derived.Deep.QuietTactic
import Derived.BigQuiet
import Derived.Deep.Cut
import Derived.Deep.RegionHeld3
import Derived.Test.YtckapapejfnojaaGreatDoorGAV
import Derived.Test.YtckapapejfnojaaGreatDoorTpAV
import Derived.Test.YtckapapejfnojaaGreatDoorGEV
namespace Go.Proofs.YtckapapejfnojaaGreatDoor
open Go.RowKit
set_option linter.unusedVariables false
set_option linter.unusedSimpArgs false
set_option maxRecDepth 100000
set_option maxHeartbeats 1000000
/-- a prototype's value. -/
abbrev prV (p : PD) (ac : Option Addr) (cc : Nat) (o4 : Option Addr) (c4 : Nat) (o5 : Option Addr) (c5 : Nat) (o8 : Option Addr) (c8 : Nat) (o9 : Option Addr) (c9 : Nat) : Value :=
  .agg #[.int .i64 p.params, .bool p.vararg, .int .i64 p.regs, .slice ac p.code.n cc, .slice o4 p.consts.n c4, .slice o5 p.ups.n c5, .int .i64 p.kids, .string p.name, .slice o8 p.lines.n c8, .slice o9 p.upNames.n c9]
/-- a letter is in a text. -/
def hasC (s : ByteArray) (c : Int) : Bool := hasB s c.toNat
theorem l4Has_I (s : ByteArray) (c : Int) (w : World) (hs : s.size ≤ 1000) (h0 : 0 ≤ c) : Calls Tryz.prog 104 #[.string s, .int .u8 c] w fun e w' => e = .returned (.bool (hasC s c)) ∧ w = w' := by
  obtain ⟨k, rfl⟩ := Int.eq_ofNat_of_zero_le h0
  exact l4Has_in s k w hs
theorem says_yes {P : Prop} (h : P) : Says (.returned (.bool true)) P := ⟨true, rfl, by simp [h]⟩
theorem says_no {P : Prop} (h : ¬ P) : Says (.returned (.bool false)) P := ⟨false, rfl, by simp [h]⟩
theorem bcell9 {W w1 : World} (hb : Below W.heap.size W w1) : (∀ b o, b < W.heap.size → w1.cell? ⟨b, o, none⟩ = W.cell? ⟨b, o, none⟩) ∧ (∀ b o, b < W.heap.size → w1.frozen? ⟨b, o, none⟩ = W.frozen? ⟨b, o, none⟩) :=
  ⟨fun b o h => hb.cell (p := ⟨b, o, none⟩) h, fun b o h => hb.frozen (p := ⟨b, o, none⟩) h⟩
theorem below2 {w y : World} {o1 o2 : Obj} (h : Below ((w.alloc o1).alloc o2).heap.size ((w.alloc o1).alloc o2) y) : Below w.heap.size w y :=
  (((Below.refl w.heap.size w).alloc (Nat.le_refl _) o1).alloc (by rw [World.size_alloc]; omega) o2).trans (h.mono (by rw [World.size_alloc, World.size_alloc]; omega))
theorem l4From_1 (op a b c s : Int) (w : World) (h : op = 22 ∨ op = 30) (a1 : 0 ≤ a) (a2 : a ≤ 255) : Calls Tryz.prog 40 #[insV op a b c s] w fun e w' => e = .returned (.int .i64 (a + 1)) ∧ Below w.heap.size w w' := by
  rcases h with rfl | rfl
  · go_enter Tryz.func40, Tryz.ntmps40
    go_wp2
    go_ret
    exact ⟨rfl, by go_grown⟩
  · go_enter Tryz.func40, Tryz.ntmps40
    go_wp2
    go_ret
    exact ⟨rfl, by go_grown⟩
theorem l4From_0 (op a b c s : Int) (w : World) (h1 : op ≠ 22) (h2 : op ≠ 30) : Calls Tryz.prog 40 #[insV op a b c s] w fun e w' => e = .returned (.int .i64 a) ∧ Below w.heap.size w w' := by
  have n1 : (op == 22) = false := by simp [h1]
  have n2 : (op == 30) = false := by simp [h2]
  go_enter Tryz.func40, Tryz.ntmps40
  go_wp2
  go_ret
  exact ⟨rfl, by go_grown⟩
theorem below_dN {B : Nat} {a w : World} (h : Below B a w) (n : Nat) : Below B a (w.drewN n) := ⟨h.os, h.tape, h.output, h.size, h.block⟩
theorem l4Has_Q (s : ByteArray) (c : Int) (w : World) (hs : s.size ≤ 1000) (h0 : 0 ≤ c) : Calls Tryz.prog 104 #[.string s, .int .u8 c] w fun e w' => e = .returned (.bool (hasC s c)) ∧ w' = w := (l4Has_I s c w hs h0).mono fun _ _ h => ⟨h.1, h.2.symm⟩
theorem says_iff {e : Ending} {P Q : Prop} (h : Says e P) (hi : P ↔ Q) : Says e Q := by
  obtain ⟨r, he, hr⟩ := h
  exact ⟨r, he, hr.trans hi⟩
end Go.Proofs.YtckapapejfnojaaGreatDoor

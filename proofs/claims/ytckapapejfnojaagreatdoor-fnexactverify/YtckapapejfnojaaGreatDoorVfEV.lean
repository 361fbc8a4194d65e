import Derived.Deep.QuietTactic
import Derived.BigQuiet
import Derived.Deep.Cut
import Derived.Deep.RegionHeld3
import Derived.Test.YtckapapejfnojaaGreatDoorGAV
import Derived.Test.YtckapapejfnojaaGreatDoorTpAV
import Derived.Test.YtckapapejfnojaaGreatDoorVfBV
namespace Go.Proofs.YtckapapejfnojaaGreatDoor
open Go.RowKit
set_option linter.unusedVariables false
set_option linter.unusedSimpArgs false
set_option maxRecDepth 100000
set_option maxHeartbeats 1000000
/-- below one box. -/
theorem below1 {w y : World} {o1 : Obj} (h : Below (w.alloc o1).heap.size (w.alloc o1) y) : Below w.heap.size w y :=
  ((Below.refl w.heap.size w).alloc (Nat.le_refl _) o1).trans (h.mono (by rw [World.size_alloc]; omega))
/-- what is not there of constants, upvalues, children. -/
def Thing (n : Nat) (b s : Int) (p : PD) : Int → Prop := Chain [(4, n = 1 → 0 ≤ s ∧ s < (p.consts.n : Int)), (5, n = 4 ∨ n = 5 → b < (p.ups.n : Int)), (6, n = 25 → 0 ≤ s ∧ s < p.kids)]
theorem things_k0 (n : Nat) (hn : n ≤ 63) (p : PD) (ac : Option Addr) (cc : Nat) (o4 : Option Addr) (c4 : Nat) (o5 : Option Addr) (c5 : Nat) (o8 : Option Addr) (c8 : Nat) (o9 : Option Addr) (c9 : Nat) (a b c s : Int) (w : World) (l107 : hasC (useS n) 107 = true) (l117 : hasC (useS n) 117 = false) (l99 : hasC (useS n) 99 = false) (h1 : 0 ≤ s) (h2 : s < (p.consts.n : Int)) (hco : p.consts.n ≤ 1048576) (hup : p.ups.n ≤ 1048576) :
    Calls Tryz.prog 102 #[prV p ac cc o4 c4 o5 c5 o8 c8 o9 c9, insV n a b c s] w fun e w' => e = .returned (.int .i64 0) ∧ Below w.heap.size w w' := by
  have hz := useS_size n (by omega)
  go_enter Tryz.func102, Tryz.ntmps102
  go_wp2_with (first | (go_at_call 105; refine (l4Use_in n _ hn).mono ?_; rintro e y ⟨rfl, b9⟩; have hb9 := below2 b9; obtain ⟨hc9, hf9⟩ := bcell9 b9; clear b9) | (go_at_call 104; refine (l4Has_I _ _ _ hz (by omega)).mono ?_; rintro e y2 ⟨rfl, rfl⟩))
  go_ret
  exact ⟨rfl, hb9⟩
theorem things_k1 (n : Nat) (hn : n ≤ 63) (p : PD) (ac : Option Addr) (cc : Nat) (o4 : Option Addr) (c4 : Nat) (o5 : Option Addr) (c5 : Nat) (o8 : Option Addr) (c8 : Nat) (o9 : Option Addr) (c9 : Nat) (a b c s : Int) (w : World) (l107 : hasC (useS n) 107 = true) (l117 : hasC (useS n) 117 = false) (l99 : hasC (useS n) 99 = false) (h1 : s < 0) (hco : p.consts.n ≤ 1048576) (hup : p.ups.n ≤ 1048576) :
    Calls Tryz.prog 102 #[prV p ac cc o4 c4 o5 c5 o8 c8 o9 c9, insV n a b c s] w fun e w' => e = .returned (.int .i64 4) ∧ Below w.heap.size w w' := by
  have hz := useS_size n (by omega)
  go_enter Tryz.func102, Tryz.ntmps102
  go_wp2_with (first | (go_at_call 105; refine (l4Use_in n _ hn).mono ?_; rintro e y ⟨rfl, b9⟩; have hb9 := below2 b9; obtain ⟨hc9, hf9⟩ := bcell9 b9; clear b9) | (go_at_call 104; refine (l4Has_I _ _ _ hz (by omega)).mono ?_; rintro e y2 ⟨rfl, rfl⟩))
  go_ret
  exact ⟨rfl, hb9⟩
theorem things_k2 (n : Nat) (hn : n ≤ 63) (p : PD) (ac : Option Addr) (cc : Nat) (o4 : Option Addr) (c4 : Nat) (o5 : Option Addr) (c5 : Nat) (o8 : Option Addr) (c8 : Nat) (o9 : Option Addr) (c9 : Nat) (a b c s : Int) (w : World) (l107 : hasC (useS n) 107 = true) (l117 : hasC (useS n) 117 = false) (l99 : hasC (useS n) 99 = false) (h1 : 0 ≤ s) (h2 : ¬ s < (p.consts.n : Int)) (hco : p.consts.n ≤ 1048576) (hup : p.ups.n ≤ 1048576) :
    Calls Tryz.prog 102 #[prV p ac cc o4 c4 o5 c5 o8 c8 o9 c9, insV n a b c s] w fun e w' => e = .returned (.int .i64 4) ∧ Below w.heap.size w w' := by
  have hz := useS_size n (by omega)
  go_enter Tryz.func102, Tryz.ntmps102
  go_wp2_with (first | (go_at_call 105; refine (l4Use_in n _ hn).mono ?_; rintro e y ⟨rfl, b9⟩; have hb9 := below2 b9; obtain ⟨hc9, hf9⟩ := bcell9 b9; clear b9) | (go_at_call 104; refine (l4Has_I _ _ _ hz (by omega)).mono ?_; rintro e y2 ⟨rfl, rfl⟩))
  go_ret
  exact ⟨rfl, hb9⟩
theorem things_u0 (n : Nat) (hn : n ≤ 63) (p : PD) (ac : Option Addr) (cc : Nat) (o4 : Option Addr) (c4 : Nat) (o5 : Option Addr) (c5 : Nat) (o8 : Option Addr) (c8 : Nat) (o9 : Option Addr) (c9 : Nat) (a b c s : Int) (w : World) (l107 : hasC (useS n) 107 = false) (l117 : hasC (useS n) 117 = true) (l99 : hasC (useS n) 99 = false) (h1 : b < (p.ups.n : Int)) (hco : p.consts.n ≤ 1048576) (hup : p.ups.n ≤ 1048576) :
    Calls Tryz.prog 102 #[prV p ac cc o4 c4 o5 c5 o8 c8 o9 c9, insV n a b c s] w fun e w' => e = .returned (.int .i64 0) ∧ Below w.heap.size w w' := by
  have hz := useS_size n (by omega)
  go_enter Tryz.func102, Tryz.ntmps102
  go_wp2_with (first | (go_at_call 105; refine (l4Use_in n _ hn).mono ?_; rintro e y ⟨rfl, b9⟩; have hb9 := below2 b9; obtain ⟨hc9, hf9⟩ := bcell9 b9; clear b9) | (go_at_call 104; refine (l4Has_I _ _ _ hz (by omega)).mono ?_; rintro e y2 ⟨rfl, rfl⟩))
  go_ret
  exact ⟨rfl, hb9⟩
theorem things_u1 (n : Nat) (hn : n ≤ 63) (p : PD) (ac : Option Addr) (cc : Nat) (o4 : Option Addr) (c4 : Nat) (o5 : Option Addr) (c5 : Nat) (o8 : Option Addr) (c8 : Nat) (o9 : Option Addr) (c9 : Nat) (a b c s : Int) (w : World) (l107 : hasC (useS n) 107 = false) (l117 : hasC (useS n) 117 = true) (l99 : hasC (useS n) 99 = false) (h1 : ¬ b < (p.ups.n : Int)) (hco : p.consts.n ≤ 1048576) (hup : p.ups.n ≤ 1048576) :
    Calls Tryz.prog 102 #[prV p ac cc o4 c4 o5 c5 o8 c8 o9 c9, insV n a b c s] w fun e w' => e = .returned (.int .i64 5) ∧ Below w.heap.size w w' := by
  have hz := useS_size n (by omega)
  go_enter Tryz.func102, Tryz.ntmps102
  go_wp2_with (first | (go_at_call 105; refine (l4Use_in n _ hn).mono ?_; rintro e y ⟨rfl, b9⟩; have hb9 := below2 b9; obtain ⟨hc9, hf9⟩ := bcell9 b9; clear b9) | (go_at_call 104; refine (l4Has_I _ _ _ hz (by omega)).mono ?_; rintro e y2 ⟨rfl, rfl⟩))
  go_ret
  exact ⟨rfl, hb9⟩
theorem things_c0 (n : Nat) (hn : n ≤ 63) (p : PD) (ac : Option Addr) (cc : Nat) (o4 : Option Addr) (c4 : Nat) (o5 : Option Addr) (c5 : Nat) (o8 : Option Addr) (c8 : Nat) (o9 : Option Addr) (c9 : Nat) (a b c s : Int) (w : World) (l107 : hasC (useS n) 107 = false) (l117 : hasC (useS n) 117 = false) (l99 : hasC (useS n) 99 = true) (h1 : 0 ≤ s) (h2 : s < p.kids) (hco : p.consts.n ≤ 1048576) (hup : p.ups.n ≤ 1048576) :
    Calls Tryz.prog 102 #[prV p ac cc o4 c4 o5 c5 o8 c8 o9 c9, insV n a b c s] w fun e w' => e = .returned (.int .i64 0) ∧ Below w.heap.size w w' := by
  have hz := useS_size n (by omega)
  go_enter Tryz.func102, Tryz.ntmps102
  go_wp2_with (first | (go_at_call 105; refine (l4Use_in n _ hn).mono ?_; rintro e y ⟨rfl, b9⟩; have hb9 := below2 b9; obtain ⟨hc9, hf9⟩ := bcell9 b9; clear b9) | (go_at_call 104; refine (l4Has_I _ _ _ hz (by omega)).mono ?_; rintro e y2 ⟨rfl, rfl⟩))
  go_ret
  exact ⟨rfl, hb9⟩
theorem things_c1 (n : Nat) (hn : n ≤ 63) (p : PD) (ac : Option Addr) (cc : Nat) (o4 : Option Addr) (c4 : Nat) (o5 : Option Addr) (c5 : Nat) (o8 : Option Addr) (c8 : Nat) (o9 : Option Addr) (c9 : Nat) (a b c s : Int) (w : World) (l107 : hasC (useS n) 107 = false) (l117 : hasC (useS n) 117 = false) (l99 : hasC (useS n) 99 = true) (h1 : s < 0) (hco : p.consts.n ≤ 1048576) (hup : p.ups.n ≤ 1048576) :
    Calls Tryz.prog 102 #[prV p ac cc o4 c4 o5 c5 o8 c8 o9 c9, insV n a b c s] w fun e w' => e = .returned (.int .i64 6) ∧ Below w.heap.size w w' := by
  have hz := useS_size n (by omega)
  go_enter Tryz.func102, Tryz.ntmps102
  go_wp2_with (first | (go_at_call 105; refine (l4Use_in n _ hn).mono ?_; rintro e y ⟨rfl, b9⟩; have hb9 := below2 b9; obtain ⟨hc9, hf9⟩ := bcell9 b9; clear b9) | (go_at_call 104; refine (l4Has_I _ _ _ hz (by omega)).mono ?_; rintro e y2 ⟨rfl, rfl⟩))
  go_ret
  exact ⟨rfl, hb9⟩
theorem things_c2 (n : Nat) (hn : n ≤ 63) (p : PD) (ac : Option Addr) (cc : Nat) (o4 : Option Addr) (c4 : Nat) (o5 : Option Addr) (c5 : Nat) (o8 : Option Addr) (c8 : Nat) (o9 : Option Addr) (c9 : Nat) (a b c s : Int) (w : World) (l107 : hasC (useS n) 107 = false) (l117 : hasC (useS n) 117 = false) (l99 : hasC (useS n) 99 = true) (h1 : 0 ≤ s) (h2 : ¬ s < p.kids) (hco : p.consts.n ≤ 1048576) (hup : p.ups.n ≤ 1048576) :
    Calls Tryz.prog 102 #[prV p ac cc o4 c4 o5 c5 o8 c8 o9 c9, insV n a b c s] w fun e w' => e = .returned (.int .i64 6) ∧ Below w.heap.size w w' := by
  have hz := useS_size n (by omega)
  go_enter Tryz.func102, Tryz.ntmps102
  go_wp2_with (first | (go_at_call 105; refine (l4Use_in n _ hn).mono ?_; rintro e y ⟨rfl, b9⟩; have hb9 := below2 b9; obtain ⟨hc9, hf9⟩ := bcell9 b9; clear b9) | (go_at_call 104; refine (l4Has_I _ _ _ hz (by omega)).mono ?_; rintro e y2 ⟨rfl, rfl⟩))
  go_ret
  exact ⟨rfl, hb9⟩
theorem things_o (n : Nat) (hn : n ≤ 63) (p : PD) (ac : Option Addr) (cc : Nat) (o4 : Option Addr) (c4 : Nat) (o5 : Option Addr) (c5 : Nat) (o8 : Option Addr) (c8 : Nat) (o9 : Option Addr) (c9 : Nat) (a b c s : Int) (w : World) (l107 : hasC (useS n) 107 = false) (l117 : hasC (useS n) 117 = false) (l99 : hasC (useS n) 99 = false) (hco : p.consts.n ≤ 1048576) (hup : p.ups.n ≤ 1048576) :
    Calls Tryz.prog 102 #[prV p ac cc o4 c4 o5 c5 o8 c8 o9 c9, insV n a b c s] w fun e w' => e = .returned (.int .i64 0) ∧ Below w.heap.size w w' := by
  have hz := useS_size n (by omega)
  go_enter Tryz.func102, Tryz.ntmps102
  go_wp2_with (first | (go_at_call 105; refine (l4Use_in n _ hn).mono ?_; rintro e y ⟨rfl, b9⟩; have hb9 := below2 b9; obtain ⟨hc9, hf9⟩ := bcell9 b9; clear b9) | (go_at_call 104; refine (l4Has_I _ _ _ hz (by omega)).mono ?_; rintro e y2 ⟨rfl, rfl⟩))
  go_ret
  exact ⟨rfl, hb9⟩
theorem l4Things_in (n : Nat) (hn : n ≤ 33) (p : PD) (ac : Option Addr) (cc : Nat) (o4 : Option Addr) (c4 : Nat) (o5 : Option Addr) (c5 : Nat) (o8 : Option Addr) (c8 : Nat) (o9 : Option Addr) (c9 : Nat) (a b c s : Int) (w : World) (hco : p.consts.n ≤ 1048576) (hup : p.ups.n ≤ 1048576) :
    Calls Tryz.prog 102 #[prV p ac cc o4 c4 o5 c5 o8 c8 o9 c9, insV n a b c s] w fun e w' => (∃ t, e = .returned (.int .i64 t) ∧ Thing n b s p t) ∧ Below w.heap.size w w' := by
  by_cases k1 : n = 1
  · subst k1
    have hl : hasC (useS 1) 107 = true ∧ hasC (useS 1) 117 = false ∧ hasC (useS 1) 99 = false := by decide
    by_cases h1 : 0 ≤ s
    · by_cases h2 : s < (p.consts.n : Int)
      · exact (things_k0 1 (by omega) p ac cc o4 c4 o5 c5 o8 c8 o9 c9 a b c s w hl.1 hl.2.1 hl.2.2 h1 h2 hco hup).mono fun e w' ⟨he, hb⟩ => ⟨⟨0, he, .inr ⟨fun _ => ⟨h1, h2⟩, .inr ⟨fun h => absurd h (by omega), .inr ⟨fun h => absurd h (by omega), rfl⟩⟩⟩⟩, hb⟩
      · exact (things_k2 1 (by omega) p ac cc o4 c4 o5 c5 o8 c8 o9 c9 a b c s w hl.1 hl.2.1 hl.2.2 h1 h2 hco hup).mono fun e w' ⟨he, hb⟩ => ⟨⟨4, he, .inl ⟨fun h => h2 (h rfl).2, rfl⟩⟩, hb⟩
    · exact (things_k1 1 (by omega) p ac cc o4 c4 o5 c5 o8 c8 o9 c9 a b c s w hl.1 hl.2.1 hl.2.2 (by omega) hco hup).mono fun e w' ⟨he, hb⟩ => ⟨⟨4, he, .inl ⟨fun h => h1 (h rfl).1, rfl⟩⟩, hb⟩
  by_cases k2 : n = 4 ∨ n = 5
  · have hl : hasC (useS n) 107 = false ∧ hasC (useS n) 117 = true ∧ hasC (useS n) 99 = false := by rcases k2 with rfl | rfl <;> decide
    by_cases h1 : b < (p.ups.n : Int)
    · exact (things_u0 n (by omega) p ac cc o4 c4 o5 c5 o8 c8 o9 c9 a b c s w hl.1 hl.2.1 hl.2.2 h1 hco hup).mono fun e w' ⟨he, hb⟩ => ⟨⟨0, he, .inr ⟨fun h => absurd h (by omega), .inr ⟨fun _ => h1, .inr ⟨fun h => absurd h (by omega), rfl⟩⟩⟩⟩, hb⟩
    · exact (things_u1 n (by omega) p ac cc o4 c4 o5 c5 o8 c8 o9 c9 a b c s w hl.1 hl.2.1 hl.2.2 h1 hco hup).mono fun e w' ⟨he, hb⟩ => ⟨⟨5, he, .inr ⟨fun h => absurd h (by omega), .inl ⟨fun h => h1 (h k2), rfl⟩⟩⟩, hb⟩
  by_cases k3 : n = 25
  · subst k3
    have hl : hasC (useS 25) 107 = false ∧ hasC (useS 25) 117 = false ∧ hasC (useS 25) 99 = true := by decide
    by_cases h1 : 0 ≤ s
    · by_cases h2 : s < p.kids
      · exact (things_c0 25 (by omega) p ac cc o4 c4 o5 c5 o8 c8 o9 c9 a b c s w hl.1 hl.2.1 hl.2.2 h1 h2 hco hup).mono fun e w' ⟨he, hb⟩ => ⟨⟨0, he, .inr ⟨fun h => absurd h (by omega), .inr ⟨fun h => absurd h (by omega), .inr ⟨fun _ => ⟨h1, h2⟩, rfl⟩⟩⟩⟩, hb⟩
      · exact (things_c2 25 (by omega) p ac cc o4 c4 o5 c5 o8 c8 o9 c9 a b c s w hl.1 hl.2.1 hl.2.2 h1 h2 hco hup).mono fun e w' ⟨he, hb⟩ => ⟨⟨6, he, .inr ⟨fun h => absurd h (by omega), .inr ⟨fun h => absurd h (by omega), .inl ⟨fun h => h2 (h rfl).2, rfl⟩⟩⟩⟩, hb⟩
    · exact (things_c1 25 (by omega) p ac cc o4 c4 o5 c5 o8 c8 o9 c9 a b c s w hl.1 hl.2.1 hl.2.2 (by omega) hco hup).mono fun e w' ⟨he, hb⟩ => ⟨⟨6, he, .inr ⟨fun h => absurd h (by omega), .inr ⟨fun h => absurd h (by omega), .inl ⟨fun h => h1 (h rfl).1, rfl⟩⟩⟩⟩, hb⟩
  have hl : ∀ n, n < 34 → (n = 1 ∨ n = 4 ∨ n = 5 ∨ n = 25 ∨ (hasC (useS n) 107 = false ∧ hasC (useS n) 117 = false ∧ hasC (useS n) 99 = false)) := by decide
  obtain ⟨l1, l2, l3⟩ : hasC (useS n) 107 = false ∧ hasC (useS n) 117 = false ∧ hasC (useS n) 99 = false := by
    rcases hl n (by omega) with h | h | h | h | h
    · exact absurd h k1
    · exact absurd h (by omega)
    · exact absurd h (by omega)
    · exact absurd h k3
    · exact h
  exact (things_o n (by omega) p ac cc o4 c4 o5 c5 o8 c8 o9 c9 a b c s w l1 l2 l3 hco hup).mono fun e w' ⟨he, hb⟩ => ⟨⟨0, he, .inr ⟨fun h => absurd h k1, .inr ⟨fun h => absurd h k2, .inr ⟨fun h => absurd h k3, rfl⟩⟩⟩⟩, hb⟩
theorem words_of {w : World} {ac : Option Addr} {cc : Nat} {c : Sl Int} (hcode : IsInts .u32 (· < w.heap.size) w (.slice ac c.n cc) c) (h0 : 0 < c.n) : ∃ b o, ac = some ⟨b, o, none⟩ ∧ b < w.heap.size ∧ ∀ i, i < c.n → w.cell? ⟨b, o + i, none⟩ = some (.int .u32 (c.f i)) := by
  obtain ⟨_, _, e, _, h⟩ := hcode
  obtain ⟨b, o, e', hb, hc⟩ := h h0
  simp only [Value.slice.injEq] at e
  obtain ⟨rfl, -, -⟩ := e
  exact ⟨b, o, e', hb, fun i hi => by simpa [iC] using hc i hi 0 (by omega)⟩
theorem l4Op_yes (p : PD) (ac : Option Addr) (cc : Nat) (o4 : Option Addr) (c4 : Nat) (o5 : Option Addr) (c5 : Nat) (o8 : Option Addr) (c8 : Nat) (o9 : Option Addr) (c9 : Nat) (t : Nat) (w : World) (hcode : IsInts .u32 (· < w.heap.size) w (.slice ac p.code.n cc) p.code) (hcb : ∀ i, i < p.code.n → 0 ≤ p.code.f i ∧ p.code.f i ≤ 4294967295) (hn0 : 0 < p.code.n) (hn2 : p.code.n ≤ 2000) (ht : t < p.code.n) (z : Int) (hz : p.code.f t = z) :
    Calls Tryz.prog 163 #[prV p ac cc o4 c4 o5 c5 o8 c8 o9 c9, .int .i64 (t : Int)] w fun e w' => e = .returned (insV (opW z) (aW z) (bW z) (cW z) (sW z)) ∧ Below w.heap.size w w' := by
  obtain ⟨b, o, rfl, hb, hc⟩ := words_of hcode hn0
  have hct := hc t ht
  rw [hz] at hct
  have hz12 := hcb t ht
  rw [hz] at hz12
  have htI : (t : Int) < (p.code.n : Int) := by omega
  clear hc hcode hcb hz
  go_enter Tryz.func163, Tryz.ntmps163
  go_wp2_with fail
  refine (unpackS z _ hz12.1 hz12.2).mono ?_
  rintro e y ⟨rfl, b9⟩
  have hb9 := below2 b9
  have R1 := (RowL.new (w.alloc (.cells #[.int .i64 p.params, .bool p.vararg, .int .i64 p.regs, .slice (some ⟨b, o, none⟩) p.code.n cc, .slice o4 p.consts.n c4, .slice o5 p.ups.n c5, .int .i64 p.kids, .string p.name, .slice o8 p.lines.n c8, .slice o9 p.upNames.n c9] 52)) [.int .i64 0, .int .i64 0, .int .i64 0, .int .i64 0, .int .i64 0] 88).call b9
  rw [World.size_alloc] at R1
  have r0 := R1.cell 0 rfl
  have r1 := R1.cell 1 rfl
  have r2 := R1.cell 2 rfl
  have r3 := R1.cell 3 rfl
  have r4 := R1.cell 4 rfl
  have rf := R1.frozen
  have L := ((((R1.set 0 (.int .i64 (opW z))).set 1 (.int .i64 (aW z))).set 2 (.int .i64 (bW z))).set 3 (.int .i64 (cW z))).set 4 (.int .i64 (sW z))
  replace R1 : Hid _ := R1
  have l0 := L.cell 0 rfl
  have l1 := L.cell 1 rfl
  have l2 := L.cell 2 rfl
  have l3 := L.cell 3 rfl
  have l4 := L.cell 4 rfl
  have bf := (((((hb9.setCell (p := ⟨w.heap.size + 1, 0, none⟩) (Nat.le_succ _) (.int .i64 (opW z))).setCell (p := ⟨w.heap.size + 1, 1, none⟩) (Nat.le_succ _) (.int .i64 (aW z))).setCell (p := ⟨w.heap.size + 1, 2, none⟩) (Nat.le_succ _) (.int .i64 (bW z))).setCell (p := ⟨w.heap.size + 1, 3, none⟩) (Nat.le_succ _) (.int .i64 (cW z))).setCell (p := ⟨w.heap.size + 1, 4, none⟩) (Nat.le_succ _) (.int .i64 (sW z)))
  replace L : Hid _ := L
  clear b9
  go_wp2_with fail
  refine bodyPost_ret (v := insV (opW z) (aW z) (bW z) (cW z) (sW z)) ?_ rfl ⟨rfl, bf⟩
  simp [results, Tryz.results163, go_sem, l0, l1, l2, l3, l4]
theorem l4Op_no (p : PD) (ac : Option Addr) (cc : Nat) (o4 : Option Addr) (c4 : Nat) (o5 : Option Addr) (c5 : Nat) (o8 : Option Addr) (c8 : Nat) (o9 : Option Addr) (c9 : Nat) (x : Int) (w : World) (hn2 : p.code.n ≤ 2000) (hx : ¬ (0 ≤ x ∧ x < (p.code.n : Int))) :
    Calls Tryz.prog 163 #[prV p ac cc o4 c4 o5 c5 o8 c8 o9 c9, .int .i64 x] w fun e w' => e = .returned (insV 63 0 0 0 0) ∧ Below w.heap.size w w' := by
  by_cases h0 : 0 ≤ x
  · have h1 : ¬ x < (p.code.n : Int) := by omega
    clear hx
    go_enter Tryz.func163, Tryz.ntmps163
    go_wp2_with fail
    exact bodyPost_ret (v := insV 63 0 0 0 0) (by simp [results, Tryz.results163, go_sem]) rfl ⟨rfl, by go_grown⟩
  · clear hx
    have h1 : x < 0 := by omega
    go_enter Tryz.func163, Tryz.ntmps163
    go_wp2_with fail
    exact bodyPost_ret (v := insV 63 0 0 0 0) (by simp [results, Tryz.results163, go_sem]) rfl ⟨rfl, by go_grown⟩
end Go.Proofs.YtckapapejfnojaaGreatDoor

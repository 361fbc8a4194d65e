import Derived.Test.YtndpbdpngniepaaDoorLaid
import Derived.WalkKit
import Derived.ProofKit
import Derived.Handy
import Derived.OpenShut
import Derived.WalkLawsBesides
import Derived.WalkSpells
import Derived.Laws.BitsAllLaws
import Derived.Deep.QuietTactic
import Derived.Deep.RegionWith
import Derived.BigQuiet
import Derived.Deep.RegionHeld3
namespace Go.Proofs.YtndpbdpngniepaaDoor
open Go.RowKit
set_option linter.unusedVariables false
theorem and_low (k : Nat) (x m : Nat) (hm : m = 2 ^ k - 1) (hx : x < 4294967296) (hm2 : m < 4294967296) : bits .and .u32 (x : Int) (m : Int) = ((x % 2 ^ k : Nat) : Int) := by
  rw [u32_and_nat x m hx hm2, hm, Nat.and_two_pow_sub_one_eq_mod]
theorem wideOf_any (b c : Int) (w : World) (h1 : 0 ≤ b) (h2 : b ≤ 511) (h3 : 0 ≤ c) (h4 : c ≤ 511) :
    Calls Tryd.prog 18 #[.int .i64 b, .int .i64 c] w fun e w' => e = .returned (.int .i64 (b + 512 * c + -131072)) ∧ w' = w := by
  go_enter Tryd.func18, Tryd.ntmps18
  go_wp2
  go_ret
  exact ⟨rfl, rfl⟩
set_option maxHeartbeats 1000000 in
theorem unpack_impl (x : Nat) (w : World) (hS : Spans w) (h2 : x ≤ 4294967295) :
    Calls Tryd.prog 11 #[.int .u32 x] w fun e w' => e = .returned (.agg #[.int .i64 (x % 64), .int .i64 (x / 64 % 256), .int .i64 (x / 16384 % 512), .int .i64 (x / 8388608), .int .i64 (x / 16384 % 512 + 512 * (x / 8388608) + -131072)]) ∧ Below w.heap.size w w' := by
  obtain ⟨c0, c1, c2, c3, c4, c5, c6, c7, pos⟩ := hS
  have e0 : bits .and .u32 (x : Int) 63 = (x : Int) % 64 := and_low 6 x 63 rfl (by omega) (by omega)
  have e1 : bits .and .u32 ((x : Int) / 64) 255 = (x : Int) / 64 % 256 := and_low 8 (x / 64) 255 rfl (by omega) (by omega)
  have e2 : bits .and .u32 ((x : Int) / 16384) 511 = (x : Int) / 16384 % 512 := and_low 9 (x / 16384) 511 rfl (by omega) (by omega)
  have e3 : bits .and .u32 ((x : Int) / 8388608) 511 = (x : Int) / 8388608 := by
    rw [show (x : Int) / 8388608 = ((x / 8388608 : Nat) : Int) from by omega, show (511 : Int) = ((511 : Nat) : Int) from rfl, and_low 9 (x / 8388608) 511 rfl (by omega) (by omega)]; omega
  go_enter Tryd.func11, Tryd.ntmps11
  go_wp2
  refine wp_loop_rounds 5 ?_
  rw [rounds_succ]
  go_wp2
  go_region
  go_wp2
  rw [rounds_succ]
  go_wp2
  go_region
  go_wp2
  rw [rounds_succ]
  go_wp2
  go_region
  go_wp2
  rw [rounds_succ]
  go_wp2
  go_region
  go_wp2
  rw [rounds_succ]
  go_wp2
  go_region_held3 (fun w' => w'.cell? ⟨w.heap.size + 1, 0, none⟩ = some (.int .i64 (x % 64)) ∧ w'.cell? ⟨w.heap.size + 1, 1, none⟩ = some (.int .i64 (x / 64 % 256)) ∧ w'.cell? ⟨w.heap.size + 1, 2, none⟩ = some (.int .i64 (x / 16384 % 512)) ∧ w'.cell? ⟨w.heap.size + 1, 3, none⟩ = some (.int .i64 (x / 8388608))) (go_keep)
    (first | (go_at_call 18; refine (wideOf_any _ _ _ (by omega) (by omega) (by omega) (by omega)).mono ?_; rintro e w' ⟨rfl, rfl⟩))
  go_wp2
  exact bodyPost_ret (v := .agg #[.int .i64 (x % 64), .int .i64 (x / 64 % 256), .int .i64 (x / 16384 % 512), .int .i64 (x / 8388608), .int .i64 (x / 16384 % 512 + 512 * (x / 8388608) + -131072)]) (by simp [results, Tryd.results11, go_sem]) rfl ⟨rfl, by go_grown⟩
set_option maxHeartbeats 1000000 in
theorem unpack_spec (x : Nat) (w : World) (h2 : x ≤ 4294967295) :
    Calls Tryd.prog 10 #[.int .u32 x] w fun e w' => e = .returned (.agg #[.int .i64 (x % 64), .int .i64 (x / 64 % 256), .int .i64 (x / 16384 % 512), .int .i64 (x / 8388608), .int .i64 (x / 16384 % 512 + 512 * (x / 8388608) - 131072)]) ∧ Below w.heap.size w w' := by
  go_enter Tryd.func10, Tryd.ntmps10
  go_wp2
  exact bodyPost_ret (v := .agg #[.int .i64 (x % 64), .int .i64 (x / 64 % 256), .int .i64 (x / 16384 % 512), .int .i64 (x / 8388608), .int .i64 (x / 16384 % 512 + 512 * (x / 8388608) - 131072)]) (by simp [results, Tryd.results10, go_sem]) rfl ⟨rfl, by go_grown⟩
theorem Spans.below {w w' : World} (h : Spans w) (hb : Below w.heap.size w w') : Spans w' := by
  obtain ⟨c0, c1, c2, c3, c4, c5, c6, c7, pos⟩ := h
  have hz : w.heap.size ≤ w'.heap.size := hb.size
  exact ⟨by rw [hb.cell pos]; exact c0, by rw [hb.cell pos]; exact c1, by rw [hb.cell pos]; exact c2, by rw [hb.cell pos]; exact c3, by rw [hb.cell pos]; exact c4, by rw [hb.cell pos]; exact c5, by rw [hb.cell pos]; exact c6, by rw [hb.cell pos]; exact c7, by omega⟩
set_option maxHeartbeats 1000000 in
theorem eqInstr_yes (a b c d s t : Int) (w : World) (h : s = t) :
    Calls Tryd.prog 12 #[.agg #[.int .i64 a, .int .i64 b, .int .i64 c, .int .i64 d, .int .i64 s], .agg #[.int .i64 a, .int .i64 b, .int .i64 c, .int .i64 d, .int .i64 t]] w fun e w' => e = .returned (.bool true) ∧ Below w.heap.size w w' := by
  subst h
  go_enter Tryd.func12, Tryd.ntmps12
  go_wp2
  go_ret
  exact ⟨rfl, by go_grown⟩
theorem bcell {W w1 : World} (hb : Below W.heap.size W w1) : (∀ b o, b < W.heap.size → w1.cell? ⟨b, o, none⟩ = W.cell? ⟨b, o, none⟩) ∧ (∀ b o, b < W.heap.size → w1.frozen? ⟨b, o, none⟩ = W.frozen? ⟨b, o, none⟩) :=
  ⟨fun b o h => hb.cell (p := ⟨b, o, none⟩) h, fun b o h => hb.frozen (p := ⟨b, o, none⟩) h⟩
set_option maxHeartbeats 1000000 in
theorem unpack_law (x : Int) (w : World) (hS : Spans w) (hx : (Lit.int .u32 x).wf = true) :
    Calls Tryd.prog 4 #[.int .u32 x] w fun e w' => e = .returned (.bool true) ∧ Below w.heap.size w w' := by
  obtain ⟨h1, h2⟩ := bounds_u32 hx
  obtain ⟨x, rfl⟩ := Int.eq_ofNat_of_zero_le h1
  have h3 : x ≤ 4294967295 := by omega
  go_enter Tryd.func4, Tryd.ntmps4
  go_wp2_with fail
  refine (unpack_spec x _ h3).mono ?_
  rintro e w1 ⟨rfl, b1⟩
  go_wp2_with fail
  have b2 := (b1.trans ((Below.refl w1.heap.size w1).alloc (Nat.le_refl _) (Obj.cells #[Value.int IntKind.i64 (↑x % 64), Value.int IntKind.i64 (↑x / 64 % 256), Value.int IntKind.i64 (↑x / 16384 % 512), Value.int IntKind.i64 (↑x / 8388608), Value.int IntKind.i64 (↑x / 16384 % 512 + 512 * (↑x / 8388608) - 131072)] 26) |>.mono b1.size))
  refine (unpack_impl x _ (hS.below b2) h3).mono ?_
  rintro e w2 ⟨rfl, b3⟩
  obtain ⟨hc, _⟩ := bcell b3
  have k0 : w2.cell? ⟨w1.heap.size, 0, none⟩ = some (.int .i64 (x % 64)) := by rw [hc _ _ (by simp)]; simp [go_sem]
  have k1 : w2.cell? ⟨w1.heap.size, 1, none⟩ = some (.int .i64 (x / 64 % 256)) := by rw [hc _ _ (by simp)]; simp [go_sem]
  have k2 : w2.cell? ⟨w1.heap.size, 2, none⟩ = some (.int .i64 (x / 16384 % 512)) := by rw [hc _ _ (by simp)]; simp [go_sem]
  have k3 : w2.cell? ⟨w1.heap.size, 3, none⟩ = some (.int .i64 (x / 8388608)) := by rw [hc _ _ (by simp)]; simp [go_sem]
  have k4 : w2.cell? ⟨w1.heap.size, 4, none⟩ = some (.int .i64 (x / 16384 % 512 + 512 * (x / 8388608) - 131072)) := by rw [hc _ _ (by simp)]; simp [go_sem]
  clear hc
  have hz : w1.heap.size < w2.heap.size := by have := b3.size; simp at this; omega
  have b4 := b2.trans (b3.mono (by simp; have := b1.size; omega))
  go_wp2_with fail
  have he : (x : Int) / 16384 % 512 + 512 * ((x : Int) / 8388608) + -131072 = (x : Int) / 16384 % 512 + 512 * ((x : Int) / 8388608) - 131072 := by omega
  refine (eqInstr_yes _ _ _ _ _ _ _ he).mono ?_
  rintro e w3 ⟨rfl, b5⟩
  go_wp2_with fail
  go_ret
  have := b1.size
  exact ⟨rfl, b4.trans (((Below.refl w2.heap.size w2).alloc (Nat.le_refl _) _ |>.trans (b5.mono (by simp))).mono (by omega))⟩
end Go.Proofs.YtndpbdpngniepaaDoor

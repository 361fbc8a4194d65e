import Derived.Test.YtijdpklpopckfaaDoorWireB
import Derived.Test.YtijdpklpopckfaaDoorPackC
import Derived.Test.YtijdpklpopckfaaDoorDrawA
namespace Go.Proofs.YtijdpklpopckfaaDoor.WWire
open Go.RowKit WPack
set_option linter.unusedVariables false
set_option maxHeartbeats 1000000 in
theorem wide_in (op a b c : Int) (w : World) (hS : Spans w) (h1 : 0 ≤ op) (h2 : op ≤ 63) (h3 : 0 ≤ a) (h4 : a ≤ 255) (h5 : 0 ≤ b) (h6 : b ≤ 511) (h7 : 0 ≤ c) (h8 : c ≤ 511) :
    Calls Tryd.prog 17 #[.int .i64 op, .int .i64 a, .int .i64 (b + 512 * c + -131072)] w fun e w' => e = .returned (ins op a b c (b + 512 * c + -131072)) ∧ Below w.heap.size w w' := by
  obtain ⟨c0, c1, c2, c3, c4, c5, c6, c7, pos⟩ := hS
  have e1 : (b + 512 * c + -131072 + 131072) % 512 = b := by omega
  have e2 : (b + 512 * c + -131072 + 131072) / 512 = c := by omega
  obtain ⟨s, hs⟩ : ∃ s, b + 512 * c + -131072 = s := ⟨_, rfl⟩
  rw [hs] at e1 e2 ⊢
  have h9 : -131072 ≤ s := by omega
  have h10 : s ≤ 131071 := by omega
  clear hs
  go_enter Tryd.func17, Tryd.ntmps17
  go_wp2
  refine bodyPost_ret (v := ins op a b c s) (by simp [results, Tryd.results17, go_sem, e1, e2]) rfl ⟨rfl, by go_grown⟩
theorem unpack_vars (X : Int) (h0 : 0 ≤ X) (h1 : X ≤ 4294967295) : ∃ o q b c : Int, (0 ≤ o ∧ o ≤ 63) ∧ (0 ≤ q ∧ q ≤ 255) ∧ (0 ≤ b ∧ b ≤ 511) ∧ (0 ≤ c ∧ c ≤ 511) ∧ o + 64 * q + 16384 * b + 8388608 * c = X ∧
    ∀ W, Spans W → Calls Tryd.prog 15 #[.int .u32 X] W fun e w' => e = .returned (ins o q b c (b + 512 * c + -131072)) ∧ Below W.heap.size W w' := by
  obtain ⟨x, rfl⟩ := Int.eq_ofNat_of_zero_le h0
  exact ⟨x % 64, x / 64 % 256, x / 16384 % 512, x / 8388608, by omega, by omega, by omega, by omega, by omega, fun W hS => unpack_impl x W hS (by omega)⟩
/-- What else holds of the world while the instruction in block k is looked at. -/
def SuR (w0 : World) (k : Nat) (w' : World) : Prop := Spans w' ∧ Below w0.heap.size w0 w' ∧ k < w'.heap.size ∧ w0.heap.size ≤ k
abbrev Su (w0 : World) (k : Nat) (o q b c s : Int) (w' : World) : Prop :=
  w'.cell? ⟨k, 0, none⟩ = some (.int .i64 o) ∧ w'.cell? ⟨k, 1, none⟩ = some (.int .i64 q) ∧ w'.cell? ⟨k, 2, none⟩ = some (.int .i64 b) ∧ w'.cell? ⟨k, 3, none⟩ = some (.int .i64 c) ∧ w'.cell? ⟨k, 4, none⟩ = some (.int .i64 s) ∧ SuR w0 k w'
theorem SuR.drew {w0 w' : World} {k : Nat} (h : SuR w0 k w') : SuR w0 k w'.drew := by
  obtain ⟨h1, h2, h3, h4⟩ := h
  exact ⟨spans_below h1 ((Below.refl _ _).drew), h2.drew, h3, h4⟩
theorem Su.step {w0 W W' : World} {k : Nat} {o q b c s : Int} (h : Su w0 k o q b c s W) (hb : Below W.heap.size W W') : Su w0 k o q b c s W' := by
  obtain ⟨k0, k1, k2, k3, k4, hS, hB, hk, hl⟩ := h
  have hz : W.heap.size ≤ W'.heap.size := hb.size
  exact ⟨by rw [hb.cell hk]; exact k0, by rw [hb.cell hk]; exact k1, by rw [hb.cell hk]; exact k2, by rw [hb.cell hk]; exact k3, by rw [hb.cell hk]; exact k4, spans_below hS hb, hB.trans (hb.mono hB.size), by omega, hl⟩
theorem Su.mk' {w0 W : World} {o q b c s : Int} (hS : Spans W) (hB : Below w0.heap.size w0 W) : Su w0 W.heap.size o q b c s (W.alloc (.cells #[.int .i64 o, .int .i64 q, .int .i64 b, .int .i64 c, .int .i64 s] 35)) := by
  refine ⟨by simp [go_sem], by simp [go_sem], by simp [go_sem], by simp [go_sem], by simp [go_sem], spans_below hS ((Below.refl _ _).alloc (Nat.le_refl _) _), hB.alloc hB.size _, by simp, hB.size⟩
theorem pk_su {w0 W : World} {k : Nat} {o q b c s : Int} (x : Int) (hx : packed o q b c s = x) (h : Su w0 k o q b c s W) :
    Calls Tryd.prog 16 #[ins o q b c s] W fun e w' => e = .returned (.int .u32 x) ∧ Su w0 k o q b c s w' :=
  (implPack_any o q b c s W h.2.2.2.2.2.1).mono fun e w' hh => ⟨by rw [hh.1, hx], h.step hh.2⟩
theorem spk_su {w0 W : World} {k : Nat} {o q b c s : Int} (x : Int) (hx : packed o q b c s = x) (h : Su w0 k o q b c s W) :
    Calls Tryd.prog 19 #[ins o q b c s] W fun e w' => e = .returned (.int .u32 x) ∧ Su w0 k o q b c s w' :=
  (specPack_any o q b c s W).mono fun e w' hh => ⟨by rw [hh.1, hx], h.step hh.2⟩
theorem wd_su {w0 W : World} {k : Nat} {o q b c s : Int} (hs : s = b + 512 * c + -131072) (h1 : 0 ≤ o ∧ o ≤ 63) (h3 : 0 ≤ q ∧ q ≤ 255) (h5 : 0 ≤ b ∧ b ≤ 511) (h7 : 0 ≤ c ∧ c ≤ 511) (h : Su w0 k o q b c s W) :
    Calls Tryd.prog 17 #[.int .i64 o, .int .i64 q, .int .i64 s] W fun e w' => e = .returned (ins o q b c s) ∧ Su w0 k o q b c s w' := by
  subst hs
  exact (wide_in o q b c W h.2.2.2.2.2.1 h1.1 h1.2 h3.1 h3.2 h5.1 h5.2 h7.1 h7.2).mono fun e w' hh => ⟨hh.1, h.step hh.2⟩
theorem packed_of {o q b c : Int} (h1 : 0 ≤ o ∧ o ≤ 63) (h3 : 0 ≤ q ∧ q ≤ 255) (h5 : 0 ≤ b ∧ b ≤ 511) (h7 : 0 ≤ c ∧ c ≤ 511) : packed o q b c (b + 512 * c + -131072) = o + 64 * q + 16384 * b + 8388608 * c := by
  rw [packed, if_pos ⟨h1, h3, h5, h7, by omega⟩]
/-- The instruction can be packed. -/
def fit (o q b c s : Int) : Prop := (0 ≤ o ∧ o ≤ 63) ∧ (0 ≤ q ∧ q ≤ 255) ∧ (0 ≤ b ∧ b ≤ 511) ∧ (0 ≤ c ∧ c ≤ 511) ∧ s = b + 512 * c - 131072
theorem su19 {w0 W : World} {k : Nat} {o q b c s : Int} (hf : fit o q b c s) (x : Int) (hx : packed o q b c s = x) (h : Su w0 k o q b c s W) :
    Calls Tryd.prog 20 #[.int .u32 x] W fun e w' => e = .returned (ins o q b c s) ∧ Su w0 k o q b c s w' := by
  obtain ⟨h1, h3, h5, h7, rfl⟩ := hf
  rw [packed, if_pos ⟨h1, h3, h5, h7, rfl⟩] at hx
  subst hx
  exact (unpack_spec_pack o q b c W h1.1 h1.2 h3.1 h3.2 h5.1 h5.2 h7.1 h7.2).mono fun e w' hh => ⟨hh.1, h.step hh.2⟩
theorem su14 {w0 W : World} {k : Nat} {o q b c s : Int} (hf : fit o q b c s) (x : Int) (hx : packed o q b c s = x) (h : Su w0 k o q b c s W) :
    Calls Tryd.prog 15 #[.int .u32 x] W fun e w' => e = .returned (ins o q b c s) ∧ Su w0 k o q b c s w' := by
  obtain ⟨h1, h3, h5, h7, rfl⟩ := hf
  rw [packed, if_pos ⟨h1, h3, h5, h7, rfl⟩] at hx
  subst hx
  obtain ⟨y, hy⟩ := Int.eq_ofNat_of_zero_le (a := o + 64 * q + 16384 * b + 8388608 * c) (by omega)
  rw [hy]
  refine (unpack_impl y W h.2.2.2.2.2.1 (by omega)).mono fun e w' hh => ⟨?_, h.step hh.2⟩
  rw [hh.1]
  have e0 : (y : Int) % 64 = o := by omega
  have e1 : (y : Int) / 64 % 256 = q := by omega
  have e2 : (y : Int) / 16384 % 512 = b := by omega
  have e3 : (y : Int) / 8388608 = c := by omega
  rw [e0, e1, e2, e3]
  have e4 : b + 512 * c + -131072 = b + 512 * c - 131072 := by omega
  rw [e4]
theorem su19z {w0 W : World} {k : Nat} {o q b c s : Int} (h : Su w0 k o q b c s W) :
    Calls Tryd.prog 20 #[.int .u32 0] W fun e w' => e = .returned (ins 0 0 0 0 (-131072)) ∧ Su w0 k o q b c s w' :=
  (unpack_spec 0 W (by omega)).mono fun e w' hh => ⟨hh.1, h.step hh.2⟩
theorem packed_not {o q b c s : Int} (h : ¬ fit o q b c s) : packed o q b c s = 0 := if_neg h
theorem not_fit {o q b c s : Int} (h : ¬ fit o q b c s) : ¬ (o = 0 ∧ q = 0 ∧ b = 0 ∧ c = 0 ∧ s = -131072) := by
  rintro ⟨rfl, rfl, rfl, rfl, rfl⟩
  exact h ⟨by omega, by omega, by omega, by omega, by omega⟩
end Go.Proofs.YtijdpklpopckfaaDoor.WWire

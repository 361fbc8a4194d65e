import Derived.Test.YtlkmohhkhcbiaaaChA
import Derived.Test.YtlkmohhkhcbiaaaRows
namespace Go.Proofs.Ytlkmohhkhcbiaaa
open Go.RowKit
set_option linter.unusedVariables false
set_option linter.unusedSimpArgs false
/-- the drawn bytes. -/
structure IsCode (w : World) (v : Value) (c : Sl Int) : Prop where
  ints : IsInts .u8 (· < w.heap.size) w v c
  byte : ∀ i, 0 ≤ c.f i ∧ c.f i ≤ 255
  small : c.n ≤ 1048576
theorem IsCode.later {w w' : World} {v : Value} {c : Sl Int} (h : IsCode w v c) (b : Below w.heap.size w w') : IsCode w' v c := ⟨IsArr.later h.ints b, h.byte, h.small⟩
theorem i64_xor (a b : Nat) (ha : a < 4294967296) (hb : b < 4294967296) : bits .xor .i64 (a : Int) (b : Int) = ((a ^^^ b : Nat) : Int) := by
  have hx : a ^^^ b < 2 ^ 32 := Nat.xor_lt_two_pow (by omega) (by omega)
  show IntKind.i64.wrap ((BitVec.ofInt 64 (a : Int) ^^^ BitVec.ofInt 64 (b : Int)).toNat : Int) = _
  rw [BitVec.toNat_xor, ofInt_u64 a (by omega), ofInt_u64 b (by omega)]
  simp [IntKind.wrap, IntKind.bits, IntKind.signed]
  omega
theorem xor_bd (E : Int) (h0 : 0 ≤ E) (h1 : E < 4294967296) : 0 ≤ bits .xor .i64 E (E / 64) ∧ bits .xor .i64 E (E / 64) < 4294967296 := by
  obtain ⟨a, rfl⟩ := Int.eq_ofNat_of_zero_le h0
  have hx : a ^^^ (a / 64) < 2 ^ 32 := Nat.xor_lt_two_pow (by omega) (by omega)
  have e := i64_xor a (a / 64) (by omega) (by omega)
  have e2 : ((a : Int) / 64) = ((a / 64 : Nat) : Int) := by simp
  rw [e2, e]
  omega
def tkE (c : Sl Int) (p : Nat) : Int := c.f (p % c.n) * 131 + c.f ((p * 7 + 3) % c.n) * 1117 + (p : Int) * 29 + (p : Int) / (c.n : Int) * 53
/-- the number that is drawn. -/
def tk (c : Sl Int) (p : Nat) (n : Int) : Int :=
  if n < 1 ∨ c.n = 0 then 0 else if p < c.n ∧ n ≤ 256 then c.f p % n else bits .xor .i64 (tkE c p) (tkE c p / 64) % n
theorem tk_bd (c : Sl Int) (p : Nat) (n : Int) : 0 ≤ tk c p n ∧ (1 ≤ n → tk c p n < n) := by
  unfold tk
  split
  · omega
  · split
    · exact ⟨Int.emod_nonneg _ (by omega), fun h => Int.emod_lt_of_pos _ (by omega)⟩
    · exact ⟨Int.emod_nonneg _ (by omega), fun h => Int.emod_lt_of_pos _ (by omega)⟩
set_option maxRecDepth 100000 in
set_option maxHeartbeats 1000000 in
theorem l1Take_in (c : Sl Int) (v : Value) (p : Nat) (n : Int) (w : World) (hC : IsCode w v c) (hp : p ≤ 1000000) (hn : n ≤ 1000000) :
    Calls Try.prog 7 #[v, .int .i64 p, .int .i64 n] w fun e w' => e = .returned (.tuple #[.int .i64 (tk c p n), .int .i64 (p + 1 : Nat)]) ∧ w' = w := by
  obtain ⟨⟨ao, cap, rfl, hl, hc⟩, hby, hsm⟩ := hC
  by_cases h1 : n < 1
  · have ht : tk c p n = 0 := if_pos (.inl h1)
    rw [ht]
    clear hc hby
    go_enter Try.func7, Try.ntmps7
    go_wp2
    go_ret2
    exact ⟨rfl, rfl⟩
  by_cases h0 : c.n = 0
  · have ht : tk c p n = 0 := if_pos (.inr h0)
    rw [ht]
    clear hc hby
    go_enter Try.func7, Try.ntmps7
    go_wp2
    go_ret2
    exact ⟨rfl, rfl⟩
  obtain ⟨b, o, rfl, hb, hcc⟩ := hc (by omega)
  clear hc
  have hne : ((c.n : Int) == 0) = false := by simp; omega
  by_cases hlt : p < c.n ∧ n ≤ 256
  · obtain ⟨hlt1, hlt2⟩ := hlt
    have ht : tk c p n = c.f p % n := by unfold tk; rw [if_neg (by omega), if_pos ⟨hlt1, hlt2⟩]
    rw [ht]
    have hc0 : w.cell? ⟨b, o + p, none⟩ = some (.int .u8 (c.f p)) := by simpa [iC] using hcc p hlt1 0 (by omega)
    obtain ⟨hb1, hb2⟩ := hby p
    generalize c.f p = x at hc0 hb1 hb2
    clear hcc hby
    go_enter Try.func7, Try.ntmps7
    go_wp2
    go_ret2
    exact ⟨rfl, rfl⟩
  · have ht : tk c p n = bits .xor .i64 (tkE c p) (tkE c p / 64) % n := by unfold tk; rw [if_neg (by omega), if_neg hlt]
    have hm1 : p % c.n < c.n := Nat.mod_lt _ (by omega)
    have hm2 : (p * 7 + 3) % c.n < c.n := Nat.mod_lt _ (by omega)
    have hc0 : w.cell? ⟨b, o + p % c.n, none⟩ = some (.int .u8 (c.f (p % c.n))) := by simpa [iC] using hcc (p % c.n) hm1 0 (by omega)
    have hc1 : w.cell? ⟨b, o + (p * 7 + 3) % c.n, none⟩ = some (.int .u8 (c.f ((p * 7 + 3) % c.n))) := by simpa [iC] using hcc ((p * 7 + 3) % c.n) hm2 0 (by omega)
    obtain ⟨hb1, hb2⟩ := hby (p % c.n)
    obtain ⟨hb1', hb2'⟩ := hby ((p * 7 + 3) % c.n)
    unfold tkE at ht
    generalize c.f (p % c.n) = x at hc0 hb1 hb2 ht
    generalize c.f ((p * 7 + 3) % c.n) = y at hc1 hb1' hb2' ht
    have hd0 : 0 ≤ (p : Int) / (c.n : Int) := Int.ediv_nonneg (by omega) (by omega)
    have hd1 : (p : Int) / (c.n : Int) ≤ 1000000 := by
      have : p / c.n ≤ p := Nat.div_le_self _ _
      have e : (p : Int) / (c.n : Int) = ((p / c.n : Nat) : Int) := by simp
      rw [e]; omega
    obtain ⟨hY0, hY1⟩ := xor_bd (x * 131 + y * 1117 + (p : Int) * 29 + (p : Int) / (c.n : Int) * 53) (by omega) (by omega)
    obtain ⟨Y, hY⟩ : ∃ Y, bits .xor .i64 (x * 131 + y * 1117 + (p : Int) * 29 + (p : Int) / (c.n : Int) * 53) ((x * 131 + y * 1117 + (p : Int) * 29 + (p : Int) / (c.n : Int) * 53) / 64) = Y := ⟨_, rfl⟩
    rw [hY] at ht hY0 hY1
    have hi0 := Int.emod_nonneg ((p : Int) * 7 + 3) (show (c.n : Int) ≠ 0 by omega)
    have hi1 := Int.emod_lt_of_pos ((p : Int) * 7 + 3) (show (0 : Int) < (c.n : Int) by omega)
    rw [ht]
    clear hcc hby ht
    by_cases hpl : p < c.n
    · have hnl : 256 < n := by omega
      clear hlt
      go_enter Try.func7, Try.ntmps7
      go_wp2
      go_ret2
      exact ⟨rfl, rfl⟩
    · clear hlt
      go_enter Try.func7, Try.ntmps7
      go_wp2
      go_ret2
      exact ⟨rfl, rfl⟩
end Go.Proofs.Ytlkmohhkhcbiaaa

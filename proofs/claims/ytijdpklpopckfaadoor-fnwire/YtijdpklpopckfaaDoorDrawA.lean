import Derived.Test.YtijdpklpopckfaaDoorLaid
import Derived.WalkKit
import Derived.ProofKit
import Derived.Handy
import Derived.OpenShut
import Derived.WalkLawsBesides
import Derived.WalkSpells
import Derived.Laws.BitsAllLaws
namespace Go.Proofs.YtijdpklpopckfaaDoor.WDraw
open Go.RowKit
set_option linter.unusedVariables false
/-- A slice of bytes that came in: it has no elements, or it leads to a row of cells. -/
def IsRow (w : World) (a : Option Addr) (len cap : Nat) (zs : List Int) : Prop :=
  len = 0 ∨
  ∃ b off, a = some ⟨b, off, none⟩ ∧ len ≤ cap ∧ cap ≤ maxLen ∧ zs.length = cap ∧ (∀ i, i < zs.length → w.cell? ⟨b, off + i, none⟩ = some (.int .u8 (zs.getD i 0))) ∧ (∀ i, 0 ≤ zs.getD i 0 ∧ zs.getD i 0 ≤ 255)
theorem IsRow.below {w w' : World} {a : Option Addr} {len cap : Nat} {zs : List Int} (h : IsRow w a len cap zs) (hb : Below w.heap.size w w') : IsRow w' a len cap zs := by
  rcases h with h | ⟨b, off, rfl, h1, h2, h3, h4, h5⟩
  · exact .inl h
  · refine .inr ⟨b, off, rfl, h1, h2, h3, fun i hi => ?_, h5⟩
    have hc := h4 i hi
    rw [hb.cell (World.block_lt_of_cell? _ _ hc)]
    exact hc
set_option maxHeartbeats 1000000 in
theorem wPick_any (a : Option Addr) (len cap : Nat) (zs : List Int) (k : Nat) (w : World) (hR : IsRow w a len cap zs) (hk : k ≤ 2) (hl : len ≤ 1048576) :
    Calls Tryd.prog 7 #[.slice a len cap, .int .i64 k] w fun e w' => (∃ x : Int, 0 ≤ x ∧ x ≤ 255 ∧ e = .returned (.int .i64 x)) ∧ w' = w := by
  by_cases h0 : len = 0
  · subst h0
    go_enter Tryd.func7, Tryd.ntmps7
    go_wp2
    go_ret
    exact ⟨⟨k, by omega, by omega, rfl⟩, rfl⟩
  · rcases hR with h | ⟨b, off, rfl, h1, h2, h3, h4, h5⟩
    · exact absurd h h0
    · have hne : ((len : Int) == 0) = false := by simp; omega
      have hlt : k % len < len := Nat.mod_lt _ (by omega)
      have hc := h4 (k % len) (by omega)
      have hb := h5 (k % len)
      generalize zs.getD (k % len) 0 = x at hc hb
      obtain ⟨hb1, hb2⟩ := hb
      clear h4 h5
      go_enter Tryd.func7, Tryd.ntmps7
      go_wp2
      go_ret
      exact ⟨⟨x, hb1, hb2, rfl⟩, rfl⟩
theorem i64_xor (a b : Nat) (ha : a < 4294967296) (hb : b < 4294967296) : bits .xor .i64 (a : Int) (b : Int) = ((a ^^^ b : Nat) : Int) := by
  have hx : a ^^^ b < 2 ^ 32 := Nat.xor_lt_two_pow (by omega) (by omega)
  show IntKind.i64.wrap ((BitVec.ofInt 64 (a : Int) ^^^ BitVec.ofInt 64 (b : Int)).toNat : Int) = _
  rw [BitVec.toNat_xor, ofInt_u64 a (by omega), ofInt_u64 b (by omega)]
  simp [IntKind.wrap, IntKind.bits, IntKind.signed]
  omega
theorem xor_some (E : Int) (h0 : 0 ≤ E) (h1 : E < 4294967296) : ∃ Y : Int, bits .xor .i64 E (E / 64) = Y ∧ 0 ≤ Y ∧ Y < 4294967296 := by
  obtain ⟨a, rfl⟩ := Int.eq_ofNat_of_zero_le h0
  have hx : a ^^^ (a / 64) < 2 ^ 32 := Nat.xor_lt_two_pow (by omega) (by omega)
  refine ⟨_, i64_xor a (a / 64) (by omega) (by omega), by omega, by omega⟩
set_option maxHeartbeats 1000000 in
theorem l1Take_any (a : Option Addr) (len cap : Nat) (zs : List Int) (p : Nat) (n : Int) (w : World) (hR : IsRow w a len cap zs) (hp : p ≤ 100) (hl : len ≤ 1048576) (hn0 : 1 ≤ n) (hn1 : n ≤ 256) :
    Calls Tryd.prog 23 #[.slice a len cap, .int .i64 p, .int .i64 n] w fun e w' => (∃ x : Int, 0 ≤ x ∧ x < n ∧ e = .returned (.tuple #[.int .i64 x, .int .i64 (p + 1)])) ∧ w' = w := by
  by_cases h0 : len = 0
  · subst h0
    go_enter Tryd.func23, Tryd.ntmps23
    go_wp2
    go_ret2
    exact ⟨⟨0, by omega, by omega, rfl⟩, rfl⟩
  · rcases hR with h | ⟨b, off, rfl, h1, h2, h3, h4, h5⟩
    · exact absurd h h0
    · have hne : ((len : Int) == 0) = false := by simp; omega
      by_cases hlt : p < len
      · have hc := h4 p (by omega)
        have hb := h5 p
        generalize zs.getD p 0 = x at hc hb
        obtain ⟨hb1, hb2⟩ := hb
        have hr1 := Int.emod_nonneg x (show n ≠ 0 by omega)
        have hr2 := Int.emod_lt_of_pos x (show 0 < n by omega)
        clear h4 h5
        go_enter Tryd.func23, Tryd.ntmps23
        go_wp2
        go_ret2
        exact ⟨⟨x % n, hr1, hr2, rfl⟩, rfl⟩
      · have hm1 : p % len < len := Nat.mod_lt _ (by omega)
        have hm2 : (p * 7 + 3) % len < len := Nat.mod_lt _ (by omega)
        have hc := h4 (p % len) (by omega)
        have hb := h5 (p % len)
        generalize zs.getD (p % len) 0 = x at hc hb
        obtain ⟨hb1, hb2⟩ := hb
        have hc' := h4 ((p * 7 + 3) % len) (by omega)
        have hb' := h5 ((p * 7 + 3) % len)
        generalize zs.getD ((p * 7 + 3) % len) 0 = y at hc' hb'
        obtain ⟨hb1', hb2'⟩ := hb'
        have hd0 : 0 ≤ (p : Int) / (len : Int) := Int.ediv_nonneg (by omega) (by omega)
        have hd1 : (p : Int) / (len : Int) ≤ 100 := by
          have : p / len ≤ p := Nat.div_le_self _ _
          have e : (p : Int) / (len : Int) = ((p / len : Nat) : Int) := by simp
          rw [e]; omega
        obtain ⟨Y, hY, hY0, hY1⟩ := xor_some (x * 131 + y * 1117 + (p : Int) * 29 + (p : Int) / (len : Int) * 53) (by omega) (by omega)
        have hr1 := Int.emod_nonneg Y (show n ≠ 0 by omega)
        have hr2 := Int.emod_lt_of_pos Y (show 0 < n by omega)
        have hi0 := Int.emod_nonneg ((p : Int) * 7 + 3) (show (len : Int) ≠ 0 by omega)
        have hi1 := Int.emod_lt_of_pos ((p : Int) * 7 + 3) (show (0 : Int) < (len : Int) by omega)
        clear h4 h5
        go_enter Tryd.func23, Tryd.ntmps23
        go_wp2
        go_ret2
        exact ⟨⟨Y % n, hr1, hr2, rfl⟩, rfl⟩
/-- The same, the place an integer. -/
theorem l1Take_int (a : Option Addr) (len cap : Nat) (zs : List Int) (p n : Int) (w : World) (hR : IsRow w a len cap zs) (hp0 : 0 ≤ p) (hp : p ≤ 100) (hl : len ≤ 1048576) (hn0 : 1 ≤ n) (hn1 : n ≤ 256) :
    Calls Tryd.prog 23 #[.slice a len cap, .int .i64 p, .int .i64 n] w fun e w' => (∃ x : Int, 0 ≤ x ∧ x < n ∧ e = .returned (.tuple #[.int .i64 x, .int .i64 (p + 1)])) ∧ w' = w := by
  obtain ⟨p, rfl⟩ := Int.eq_ofNat_of_zero_le hp0
  exact l1Take_any a len cap zs p n w hR (by omega) hl hn0 hn1
end Go.Proofs.YtijdpklpopckfaaDoor.WDraw

import Derived.Test.YtplijnfaiofckaaGreatDoorGa
import Derived.LaidMore
namespace Go.Proofs.YtplijnfaiofckaaGreatDoor
open Go.RowKit
set_option linter.unusedVariables false
set_option linter.unusedSimpArgs false
set_option maxRecDepth 100000
set_option maxHeartbeats 9000000
structure IsCode (w : World) (v : Value) (c : Sl Int) : Prop where
 ints : IsInts .u8 (· < w.heap.size) w v c
 byte : ∀ i, 0 ≤ c.f i ∧ c.f i ≤ 255
 small : c.n ≤ 1048576
theorem IsCode.later {w w' : World} {v : Value} {c : Sl Int} (h : IsCode w v c) (b : Below w.heap.size w w') : IsCode w' v c := ⟨IsArr.later h.ints b, h.byte, h.small⟩
theorem i64_xor (a b : Nat) (ha : a < 4294967296) (hb : b < 4294967296) : bits .xor .i64 (a : Int) (b : Int) = ((a ^^^ b : Nat) : Int) := by
 have hx : a ^^^ b < 2 ^ 32 := Nat.xor_lt_two_pow (by omega) (by omega);show IntKind.i64.wrap ((BitVec.ofInt 64 (a : Int) ^^^ BitVec.ofInt 64 (b : Int)).toNat : Int) = _;rw [BitVec.toNat_xor, ofInt_u64 a (by omega), ofInt_u64 b (by omega)];simp [IntKind.wrap, IntKind.bits, IntKind.signed];omega
theorem xor_bd (E : Int) (h0 : 0 ≤ E) (h1 : E < 4294967296) : 0 ≤ bits .xor .i64 E (E / 64) ∧ bits .xor .i64 E (E / 64) < 4294967296 := by
 obtain ⟨a, rfl⟩ := Int.eq_ofNat_of_zero_le h0;have hx : a ^^^ (a / 64) < 2 ^ 32 := Nat.xor_lt_two_pow (by omega) (by omega);have e := i64_xor a (a / 64) (by omega) (by omega);have e2 : ((a : Int) / 64) = ((a / 64 : Nat) : Int) := by simp
 rw [e2, e];omega
def tkE (c : Sl Int) (p : Nat) : Int := c.f (p % c.n) * 131 + c.f ((p * 7 + 3) % c.n) * 1117 + (p : Int) * 29 + (p : Int) / (c.n : Int) * 53
def tk (c : Sl Int) (p : Nat) (n : Int) : Int :=
 if n < 1 ∨ c.n = 0 then 0 else if p < c.n ∧ n ≤ 256 then c.f p % n else bits .xor .i64 (tkE c p) (tkE c p / 64) % n
theorem tk_bd (c : Sl Int) (p : Nat) (n : Int) : 0 ≤ tk c p n ∧ (1 ≤ n → tk c p n < n) := by
 unfold tk;split
 ·omega
 ·split
  ·exact ⟨Int.emod_nonneg _ (by omega), fun h => Int.emod_lt_of_pos _ (by omega)⟩
  ·exact ⟨Int.emod_nonneg _ (by omega), fun h => Int.emod_lt_of_pos _ (by omega)⟩
theorem l1Take_in (c : Sl Int) (v : Value) (p : Nat) (n : Int) (w : World) (hC : IsCode w v c) (hp : p ≤ 1000000) (hn : n ≤ 1000000) :
  Calls Tryz.prog 24 #[v, .int .i64 p, .int .i64 n] w fun e w' => e = .returned (.tuple #[.int .i64 (tk c p n), .int .i64 (p + 1 : Nat)]) ∧ w' = w := by
 obtain ⟨⟨ao, cap, rfl, hl, hc⟩, hby, hsm⟩ := hC;by_cases h1 : n < 1
 ·have ht : tk c p n = 0 := if_pos (.inl h1);rw [ht];clear hc hby;go_enter Tryz.func24, Tryz.ntmps24
  go_wp2
  go_ret2
  exact ⟨rfl, rfl⟩
 by_cases h0 : c.n = 0
 ·have ht : tk c p n = 0 := if_pos (.inr h0);rw [ht];clear hc hby;go_enter Tryz.func24, Tryz.ntmps24
  go_wp2
  go_ret2
  exact ⟨rfl, rfl⟩
 obtain ⟨b, o, rfl, hb, hcc⟩ := hc (by omega);clear hc;have hne : ((c.n : Int) == 0) = false := by simp; omega
 by_cases hlt : p < c.n ∧ n ≤ 256
 ·obtain ⟨hlt1, hlt2⟩ := hlt;have ht : tk c p n = c.f p % n := by unfold tk; rw [if_neg (by omega), if_pos ⟨hlt1, hlt2⟩]
  rw [ht];have hc0 : w.cell? ⟨b, o + p, none⟩ = some (.int .u8 (c.f p)) := by simpa [iC] using hcc p hlt1 0 (by omega)
  obtain ⟨hb1, hb2⟩ := hby p;generalize c.f p = x at hc0 hb1 hb2;clear hcc hby;go_enter Tryz.func24, Tryz.ntmps24
  go_wp2
  go_ret2
  exact ⟨rfl, rfl⟩
 ·have ht : tk c p n = bits .xor .i64 (tkE c p) (tkE c p / 64) % n := by unfold tk; rw [if_neg (by omega), if_neg hlt]
  have hm1 : p % c.n < c.n := Nat.mod_lt _ (by omega);have hm2 : (p * 7 + 3) % c.n < c.n := Nat.mod_lt _ (by omega);have hc0 : w.cell? ⟨b, o + p % c.n, none⟩ = some (.int .u8 (c.f (p % c.n))) := by simpa [iC] using hcc (p % c.n) hm1 0 (by omega)
  have hc1 : w.cell? ⟨b, o + (p * 7 + 3) % c.n, none⟩ = some (.int .u8 (c.f ((p * 7 + 3) % c.n))) := by simpa [iC] using hcc ((p * 7 + 3) % c.n) hm2 0 (by omega)
  obtain ⟨hb1, hb2⟩ := hby (p % c.n);obtain ⟨hb1', hb2'⟩ := hby ((p * 7 + 3) % c.n);unfold tkE at ht;generalize c.f (p % c.n) = x at hc0 hb1 hb2 ht;generalize c.f ((p * 7 + 3) % c.n) = y at hc1 hb1' hb2' ht;have hd0 : 0 ≤ (p : Int) / (c.n : Int) := Int.ediv_nonneg (by omega) (by omega)
  have hd1 : (p : Int) / (c.n : Int) ≤ 1000000 := by
   have : p / c.n ≤ p := Nat.div_le_self _ _;have e : (p : Int) / (c.n : Int) = ((p / c.n : Nat) : Int) := by simp
   rw [e]; omega
  obtain ⟨hY0, hY1⟩ := xor_bd (x * 131 + y * 1117 + (p : Int) * 29 + (p : Int) / (c.n : Int) * 53) (by omega) (by omega);obtain ⟨Y, hY⟩ : ∃ Y, bits .xor .i64 (x * 131 + y * 1117 + (p : Int) * 29 + (p : Int) / (c.n : Int) * 53) ((x * 131 + y * 1117 + (p : Int) * 29 + (p : Int) / (c.n : Int) * 53) / 64) = Y := ⟨_, rfl⟩;rw [hY] at ht hY0 hY1;have hi0 := Int.emod_nonneg ((p : Int) * 7 + 3) (show (c.n : Int) ≠ 0 by omega);have hi1 := Int.emod_lt_of_pos ((p : Int) * 7 + 3) (show (0 : Int) < (c.n : Int) by omega);rw [ht];clear hcc hby ht;by_cases hpl : p < c.n
  ·have hnl : 256 < n := by omega
   clear hlt;go_enter Tryz.func24, Tryz.ntmps24
   go_wp2
   go_ret2
   exact ⟨rfl, rfl⟩
  ·clear hlt;go_enter Tryz.func24, Tryz.ntmps24
   go_wp2
   go_ret2
   exact ⟨rfl, rfl⟩
abbrev ins (op a b c s : Int) : Value := .agg #[.int .i64 op, .int .i64 a, .int .i64 b, .int .i64 c, .int .i64 s]
theorem unpack_spec (x : Nat) (w : World) (h2 : x ≤ 4294967295) :
  Calls Tryz.prog 86 #[.int .u32 x] w fun e w' => e = .returned (.agg #[.int .i64 (x % 64), .int .i64 (x / 64 % 256), .int .i64 (x / 16384 % 512), .int .i64 (x / 8388608), .int .i64 (x / 16384 % 512 + 512 * (x / 8388608) - 131072)]) ∧ Below w.heap.size w w' := by
 go_enter Tryz.func86, Tryz.ntmps86
 go_wp2
 exact bodyPost_ret (v := .agg #[.int .i64 (x % 64), .int .i64 (x / 64 % 256), .int .i64 (x / 16384 % 512), .int .i64 (x / 8388608), .int .i64 (x / 16384 % 512 + 512 * (x / 8388608) - 131072)]) (by simp [results, Tryz.results86, go_sem]) rfl ⟨rfl, by go_grown⟩
theorem bcell {W w1 : World} (hb : Below W.heap.size W w1) : (∀ b o, b < W.heap.size → w1.cell? ⟨b, o, none⟩ = W.cell? ⟨b, o, none⟩) ∧ (∀ b o, b < W.heap.size → w1.frozen? ⟨b, o, none⟩ = W.frozen? ⟨b, o, none⟩) :=
 ⟨fun b o h => hb.cell (p := ⟨b, o, none⟩) h, fun b o h => hb.frozen (p := ⟨b, o, none⟩) h⟩
theorem unpack_spec_int (z : Int) (w : World) (h1 : 0 ≤ z) (h2 : z ≤ 4294967295) :
  Calls Tryz.prog 86 #[.int .u32 z] w fun e w' => e = .returned (ins (z % 64) (z / 64 % 256) (z / 16384 % 512) (z / 8388608) (z / 16384 % 512 + 512 * (z / 8388608) - 131072)) ∧ Below w.heap.size w w' := by
 obtain ⟨x, rfl⟩ := Int.eq_ofNat_of_zero_le h1;exact unpack_spec x w (by omega)
theorem unpack_spec_pack (op a b c : Int) (w : World) (h1 : 0 ≤ op) (h2 : op ≤ 63) (h3 : 0 ≤ a) (h4 : a ≤ 255) (h5 : 0 ≤ b) (h6 : b ≤ 511) (h7 : 0 ≤ c) (h8 : c ≤ 511) :
  Calls Tryz.prog 86 #[.int .u32 (op + 64 * a + 16384 * b + 8388608 * c)] w fun e w' => e = .returned (ins op a b c (b + 512 * c - 131072)) ∧ Below w.heap.size w w' := by
 refine (unpack_spec_int (op + 64 * a + 16384 * b + 8388608 * c) w (by omega) (by omega)).mono ?_;rintro e w1 ⟨rfl, b1⟩;refine ⟨?_, b1⟩;have e0 : (op + 64 * a + 16384 * b + 8388608 * c) % 64 = op := by omega
 have e1 : (op + 64 * a + 16384 * b + 8388608 * c) / 64 % 256 = a := by omega
 have e2 : (op + 64 * a + 16384 * b + 8388608 * c) / 16384 % 512 = b := by omega
 have e3 : (op + 64 * a + 16384 * b + 8388608 * c) / 8388608 = c := by omega
 rw [e0, e1, e2, e3]
theorem qe7 (op a b c s : Int) (w : World) (h1 : 0 ≤ op) (h2 : op ≤ 63) (h3 : 0 ≤ a) (h4 : a ≤ 255) (h5 : 0 ≤ b) (h6 : b ≤ 511) (h7 : 0 ≤ c) (h8 : c ≤ 511) (hs : (b + 512 * c - 131072 == s) = true) :
  Calls Tryz.prog 89 #[ins op a b c s] w fun e w' => e = .returned (.int .u32 (op + 64 * a + 16384 * b + 8388608 * c)) ∧ Below w.heap.size w w' := by
 obtain rfl := beq_iff_eq.1 hs;clear hs;go_enter Tryz.func89, Tryz.ntmps89;go_wp2_with fail
 go_region_with (go_at_call 86; refine (unpack_spec_pack op a b c _ h1 h2 h3 h4 h5 h6 h7 h8).mono ?_; rintro e w1 ⟨rfl, b1⟩; have k0 : w1.cell? ⟨w.heap.size, 0, none⟩ = some (.int .i64 op) := (by rw [(bcell b1).1 _ _ (by simp)]; simp [go_sem]); have k1 : w1.cell? ⟨w.heap.size, 1, none⟩ = some (.int .i64 a) := (by rw [(bcell b1).1 _ _ (by simp)]; simp [go_sem]); have k2 : w1.cell? ⟨w.heap.size, 2, none⟩ = some (.int .i64 b) := (by rw [(bcell b1).1 _ _ (by simp)]; simp [go_sem]); have k3 : w1.cell? ⟨w.heap.size, 3, none⟩ = some (.int .i64 c) := (by rw [(bcell b1).1 _ _ (by simp)]; simp [go_sem]); have k4 : w1.cell? ⟨w.heap.size, 4, none⟩ = some (.int .i64 (b + 512 * c - 131072)) := (by rw [(bcell b1).1 _ _ (by simp)]; simp [go_sem]))
 all_goals go_wp2
 all_goals go_ret
 all_goals exact ⟨rfl, by first | exact ((Below.refl _ _).alloc (Nat.le_refl _) _).drew.trans (b1.mono (by simp)) | go_grown⟩
def pI (op a b c : Int) : Int := op + 64 * a + 16384 * b + 8388608 * c
theorem l4I_in (op a b c : Int) (w : World) (h1 : 0 ≤ op := by omega) (h2 : op ≤ 63 := by omega) (h3 : 0 ≤ a := by omega) (h4 : a ≤ 255 := by omega) (h5 : 0 ≤ b := by omega) (h6 : b ≤ 511 := by omega) (h7 : 0 ≤ c := by omega) (h8 : c ≤ 511 := by omega) :
  Calls Tryz.prog 87 #[.int .i64 op, .int .i64 a, .int .i64 b, .int .i64 c] w fun e w' => e = .returned (.int .u32 (pI op a b c)) ∧ Below w.heap.size w w' := by
 go_enter Tryz.func87, Tryz.ntmps87;go_wp2_with fail;refine (qe7 op a b c (b + 512 * c - 131072) _ h1 h2 h3 h4 h5 h6 h7 h8 (by simp)).mono ?_;rintro e w1 ⟨rfl, b1⟩;go_wp2_with fail;go_ret;exact ⟨rfl, b1⟩
theorem specWide_in (op a s : Int) (w : World) (h1 : 0 ≤ op) (h2 : op ≤ 63) (h3 : 0 ≤ a) (h4 : a ≤ 255) (h5 : -131072 ≤ s) (h6 : s ≤ 131071) :
  Calls Tryz.prog 134 #[.int .i64 op, .int .i64 a, .int .i64 s] w fun e w' => e = .returned (ins op a ((s + 131072) % 512) ((s + 131072) / 512) s) ∧ Below w.heap.size w w' := by
 obtain ⟨k, hk⟩ : ∃ k : Nat, s + 131072 = (k : Int) := ⟨(s + 131072).toNat, by omega⟩;obtain rfl : s = (k : Int) - 131072 := by omega
 have e1 : (k : Int) - 131072 + 131072 = k := by omega
 rw [e1];go_enter Tryz.func134, Tryz.ntmps134;go_wp2_with fail;exact bodyPost_ret (v := ins op a ((k : Int) % 512) ((k : Int) / 512) ((k : Int) - 131072)) (by simp [results, Tryz.results134, go_sem]) rfl ⟨rfl, by go_grown⟩
def pW (op a s : Int) : Int := pI op a ((s + 131072) % 512) ((s + 131072) / 512)
theorem l4W_in (op a s : Int) (w : World) (h1 : 0 ≤ op := by omega) (h2 : op ≤ 63 := by omega) (h3 : 0 ≤ a := by omega) (h4 : a ≤ 255 := by omega) (h5 : -131072 ≤ s := by omega) (h6 : s ≤ 131071 := by omega) :
  Calls Tryz.prog 88 #[.int .i64 op, .int .i64 a, .int .i64 s] w fun e w' => e = .returned (.int .u32 (pW op a s)) ∧ Below w.heap.size w w' := by
 go_enter Tryz.func88, Tryz.ntmps88;go_wp2_with fail;refine (specWide_in op a s _ h1 h2 h3 h4 h5 h6).mono ?_;rintro e w1 ⟨rfl, b1⟩;go_wp2_with fail;refine (qe7 op a ((s + 131072) % 512) ((s + 131072) / 512) s _ h1 h2 h3 h4 (by omega) (by omega) (by omega) (by omega) (by simp; omega)).mono ?_;rintro e w2 ⟨rfl, b2⟩;have b3 := b1.trans (b2.mono b1.size);clear b1 b2;go_wp2_with fail;go_ret;exact ⟨rfl, b3⟩
theorem pI_bd {op a b c : Int} (h1 : 0 ≤ op := by omega) (h2 : op ≤ 63 := by omega) (h3 : 0 ≤ a := by omega) (h4 : a ≤ 255 := by omega) (h5 : 0 ≤ b := by omega) (h6 : b ≤ 511 := by omega) (h7 : 0 ≤ c := by omega) (h8 : c ≤ 511 := by omega) : 0 ≤ pI op a b c ∧ pI op a b c ≤ 4294967295 := by unfold pI; omega
theorem pW_bd {op a s : Int} (h1 : 0 ≤ op := by omega) (h2 : op ≤ 63 := by omega) (h3 : 0 ≤ a := by omega) (h4 : a ≤ 255 := by omega) (h5 : -131072 ≤ s := by omega) (h6 : s ≤ 131071 := by omega) : 0 ≤ pW op a s ∧ pW op a s ≤ 4294967295 := pI_bd h1 h2 h3 h4 (by omega) (by omega) (by omega) (by omega)
abbrev insV (op a b c s : Int) : Value := .agg #[.int .i64 op, .int .i64 a, .int .i64 b, .int .i64 c, .int .i64 s]
theorem unpackS (z : Int) (w : World) (h1 : 0 ≤ z) (h2 : z ≤ 4294967295) :
  Calls Tryz.prog 86 #[.int .u32 z] w fun e w' => e = .returned (insV (opW z) (aW z) (bW z) (cW z) (sW z)) ∧ Below w.heap.size w w' := by
 obtain ⟨x, rfl⟩ := Int.eq_ofNat_of_zero_le h1;exact unpack_spec x w (by omega)
structure Spans (w : World) : Prop where
 c0 : w.cell? ⟨1, 0, none⟩ = some (.int .i64 0)
 c1 : w.cell? ⟨1, 1, none⟩ = some (.int .i64 6)
 c2 : w.cell? ⟨1, 2, none⟩ = some (.int .i64 6)
 c3 : w.cell? ⟨1, 3, none⟩ = some (.int .i64 8)
 c4 : w.cell? ⟨1, 4, none⟩ = some (.int .i64 14)
 c5 : w.cell? ⟨1, 5, none⟩ = some (.int .i64 9)
 c6 : w.cell? ⟨1, 6, none⟩ = some (.int .i64 23)
 c7 : w.cell? ⟨1, 7, none⟩ = some (.int .i64 9)
 pos : 1 < w.heap.size
theorem Spans.below {w w' : World} (h : Spans w) (hb : Below w.heap.size w w') : Spans w' := by
 obtain ⟨c0, c1, c2, c3, c4, c5, c6, c7, pos⟩ := h;have hz : w.heap.size ≤ w'.heap.size := hb.size;exact ⟨by rw [hb.cell pos]; exact c0, by rw [hb.cell pos]; exact c1, by rw [hb.cell pos]; exact c2, by rw [hb.cell pos]; exact c3, by rw [hb.cell pos]; exact c4, by rw [hb.cell pos]; exact c5, by rw [hb.cell pos]; exact c6, by rw [hb.cell pos]; exact c7, by omega⟩
theorem and_low (k : Nat) (x m : Nat) (hm : m = 2 ^ k - 1) (hx : x < 4294967296) (hm2 : m < 4294967296) : bits .and .u32 (x : Int) (m : Int) = ((x % 2 ^ k : Nat) : Int) := by
 rw [u32_and_nat x m hx hm2, hm, Nat.and_two_pow_sub_one_eq_mod]
theorem wideOf_any (b c : Int) (w : World) (h1 : 0 ≤ b) (h2 : b ≤ 511) (h3 : 0 ≤ c) (h4 : c ≤ 511) :
  Calls Tryz.prog 123 #[.int .i64 b, .int .i64 c] w fun e w' => e = .returned (.int .i64 (b + 512 * c + -131072)) ∧ w' = w := by
 go_enter Tryz.func123, Tryz.ntmps123
 go_wp2
 go_ret;exact ⟨rfl, rfl⟩
theorem unpack_impl (x : Nat) (w : World) (hS : Spans w) (h2 : x ≤ 4294967295) :
  Calls Tryz.prog 109 #[.int .u32 x] w fun e w' => e = .returned (.agg #[.int .i64 (x % 64), .int .i64 (x / 64 % 256), .int .i64 (x / 16384 % 512), .int .i64 (x / 8388608), .int .i64 (x / 16384 % 512 + 512 * (x / 8388608) + -131072)]) ∧ Below w.heap.size w w' := by
 obtain ⟨c0, c1, c2, c3, c4, c5, c6, c7, pos⟩ := hS;have m1 : ¬ (1 = w.heap.size) := by omega
 have m2 : ¬ (1 = w.heap.size + 1) := by omega
 have m3 : ¬ (w.heap.size = 1) := by omega
 have m4 : ¬ (w.heap.size + 1 = 1) := by omega
 have m5 : ¬ (w.heap.size = 0) := by omega
 have m6 : 0 < w.heap.size := by omega
 have m7 : 1 < w.heap.size + 1 := by omega
 have m8 : 1 < w.heap.size + 1 + 1 := by omega
 have e0 : bits .and .u32 (x : Int) 63 = (x : Int) % 64 := and_low 6 x 63 rfl (by omega) (by omega);have e1 : bits .and .u32 ((x : Int) / 64) 255 = (x : Int) / 64 % 256 := and_low 8 (x / 64) 255 rfl (by omega) (by omega);have e2 : bits .and .u32 ((x : Int) / 16384) 511 = (x : Int) / 16384 % 512 := and_low 9 (x / 16384) 511 rfl (by omega) (by omega)
 have e3 : bits .and .u32 ((x : Int) / 8388608) 511 = (x : Int) / 8388608 := by
  rw [show (x : Int) / 8388608 = ((x / 8388608 : Nat) : Int) from by omega, show (511 : Int) = ((511 : Nat) : Int) from rfl, and_low 9 (x / 8388608) 511 rfl (by omega) (by omega)]; omega
 go_enter Tryz.func109, Tryz.ntmps109
 go_wp2
 refine wp_loop_rounds 5 ?_;rw [rounds_succ]
 go_wp2
 go_region
 go_wp2
 rw [rounds_succ]
 go_wp2
 go_region
 go_wp2
 rw [rounds_succ]
 go_wp2
 go_region
 go_wp2
 rw [rounds_succ]
 go_wp2
 go_region
 go_wp2
 rw [rounds_succ]
 go_wp2
 go_region_held3 (fun w' => w'.cell? ⟨w.heap.size + 1, 0, none⟩ = some (.int .i64 (x % 64)) ∧ w'.cell? ⟨w.heap.size + 1, 1, none⟩ = some (.int .i64 (x / 64 % 256)) ∧ w'.cell? ⟨w.heap.size + 1, 2, none⟩ = some (.int .i64 (x / 16384 % 512)) ∧ w'.cell? ⟨w.heap.size + 1, 3, none⟩ = some (.int .i64 (x / 8388608))) (go_keep)
  (first | (go_at_call 123; refine (wideOf_any _ _ _ (by omega) (by omega) (by omega) (by omega)).mono ?_; rintro e w' ⟨rfl, rfl⟩))
 go_wp2
 exact bodyPost_ret (v := .agg #[.int .i64 (x % 64), .int .i64 (x / 64 % 256), .int .i64 (x / 16384 % 512), .int .i64 (x / 8388608), .int .i64 (x / 16384 % 512 + 512 * (x / 8388608) + -131072)]) (by simp [results, Tryz.results109, go_sem]) rfl ⟨rfl, by go_grown⟩
theorem unpackI (z : Int) (w : World) (hS : Spans w) (h1 : 0 ≤ z) (h2 : z ≤ 4294967295) :
  Calls Tryz.prog 109 #[.int .u32 z] w fun e w' => e = .returned (insV (opW z) (aW z) (bW z) (cW z) (sW z)) ∧ Below w.heap.size w w' := by
 obtain ⟨x, rfl⟩ := Int.eq_ofNat_of_zero_le h1;refine (unpack_impl x w hS (by omega)).mono fun e w' ⟨he, hb⟩ => ⟨?_, hb⟩;rw [he];unfold insV opW aW bW cW sW bW cW;rw [Int.sub_eq_add_neg]
end Go.Proofs.YtplijnfaiofckaaGreatDoor

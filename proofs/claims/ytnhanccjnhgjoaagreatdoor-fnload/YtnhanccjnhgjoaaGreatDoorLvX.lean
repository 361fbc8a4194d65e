import Derived.Test.YtnhanccjnhgjoaaGreatDoorLvC
import Derived.Test.YtnhanccjnhgjoaaGreatDoorGv
import Derived.Test.YtnhanccjnhgjoaaGreatDoorGp
import Derived.OpenShut
namespace Go.Proofs.YtnhanccjnhgjoaaGreatDoor.WPut
open Go.RowKit
set_option linter.unusedVariables false
set_option maxRecDepth 100000
set_option maxHeartbeats 9000000
theorem pvL_proper : ∀ (k : Nat) (n : Int), 0 ≤ n → n < 128 ^ k → 0 < k → proper (pvL k n) ∧ dec (pvL k n) = n
 | 0, n, _, _, h => absurd h (by omega)
 | k + 1, n, h0, h1, _ => by
  by_cases hb : n < 128
  ·rw [pvL_small _ _ hb];exact ⟨⟨h0, hb⟩, by simp only [dec]; omega⟩
  ·have hk : 0 < k := by
    rcases k with _ | k
    ·simp at h1; omega
    ·omega
   have hd : n / 128 < 128 ^ k := by
    rw [Int.pow_succ] at h1;exact Int.ediv_lt_of_lt_mul (by omega) h1
   obtain ⟨i1, i2⟩ := pvL_proper k (n / 128) (by omega) hd hk;rw [pvL_big _ _ (by omega)];constructor
   ·cases e : pvL k (n / 128) with
    | nil => rw [e] at i1; exact i1.elim
    | cons y ys => rw [e] at i1; exact ⟨by omega, by omega, i1⟩
   ·show (n % 128 + 128) % 128 + 128 * dec (pvL k (n / 128)) = n;rw [i2]; omega
theorem pvL_stable : ∀ (k : Nat) (n : Int), 0 ≤ n → n < 128 ^ k → 0 < k → pvL (k + 1) n = pvL k n
 | 0, n, _, _, h => absurd h (by omega)
 | k + 1, n, h0, h1, _ => by
  by_cases hb : n < 128
  ·rw [pvL_small _ _ hb, pvL_small _ _ hb]
  ·have hk : 0 < k := by
    rcases k with _ | k
    ·simp at h1; omega
    ·omega
   have hd : n / 128 < 128 ^ k := by
    rw [Int.pow_succ] at h1;exact Int.ediv_lt_of_lt_mul (by omega) h1
   rw [pvL_big (k + 1) n (by omega), pvL_big k n (by omega), pvL_stable k (n / 128) (by omega) hd hk]
theorem proper_bytes : ∀ l : List Int, proper l → ∀ x ∈ l, 0 ≤ x ∧ x ≤ 255
 | [], h => h.elim
 | [m], h => fun x hx => by simp at hx; subst hx; have := h.1; have := h.2; omega
 | x :: y :: xs, h => fun z hz => by
  rcases List.mem_cons.1 hz with rfl | hz
  ·have := h.1; have := h.2.1; omega
  ·exact proper_bytes (y :: xs) h.2.2 z hz
theorem at_pv {r : ByteArray} {n : Int} (h0 : 0 ≤ n) (h1 : n ≤ 16777215) (h : r.extract 0 (pv n).size = pv n) :
  1 ≤ (pv n).size ∧ (pv n).size ≤ 4 ∧ proper ((r.extract 0 (pv n).size).data.toList.map fun c => (c.toNat : Int)) ∧ dec ((r.extract 0 (pv n).size).data.toList.map fun c => (c.toNat : Int)) = n := by
 have hin : ¬ (n < 0 ∨ 16777215 < n) := by omega
 obtain ⟨p1, p2⟩ := pvL_proper 4 n h0 (by omega) (by omega);have e54 : pvL 5 n = pvL 4 n := pvL_stable 4 n h0 (by omega) (by omega);have hsz : (pv n).size = (pvL 4 n).length := by rw [pv_in hin, e54, strOfNums_size]
 have hd : ((pv n).data.toList.map fun c => (c.toNat : Int)) = pvL 4 n := by
  rw [pv_in hin, e54, strOfNums_data, List.map_map]
  conv => rhs; rw [← List.map_id (pvL 4 n)]
  refine List.map_congr_left fun c hc => ?_;have := proper_bytes _ p1 c hc;simp;omega
 rw [h, hd];refine ⟨?_, ?_, p1, p2⟩
 ·rw [hsz]
  cases e : pvL 4 n with
  | nil => rw [e] at p1; exact p1.elim
  | cons => simp
 ·rw [hsz]; exact pvL_len 4 n
structure ImV (s : ByteArray) (a : Nat) (v : Option (Int × Nat)) : Prop where
 scalls : ∀ w, Calls Tryz.prog 81 #[.string s, .int .i64 a] w fun e w' => e = .returned (vrE v) ∧ Below w.heap.size w w'
 calls : ∀ w, Calls Tryz.prog 122 #[.string s, .int .i64 a] w fun e w' => e = .returned (vrE v) ∧ Below w.heap.size w w'
 yes : ∀ n q, v = some (n, q) → 0 ≤ n ∧ n ≤ 16777215 ∧ a < q ∧ q ≤ s.size ∧ s.extract a q = pv n
 no : v = none → ∀ n, 0 ≤ n → n ≤ 16777215 → (s.extract a s.size).extract 0 (pv n).size ≠ pv n
theorem rest_head (s : ByteArray) (a k : Nat) (h : a + k ≤ s.size) : (s.extract a s.size).extract 0 k = s.extract a (a + k) := by
 rw [ByteArray.extract_extract]
 congr 1
 omega
theorem eq_of_toList {x y : ByteArray} (h : (x.toList == y.toList) = true) : x = y := by
 rw [ByteArray.toList_eq, ByteArray.toList_eq, beq_iff_eq] at h;exact ByteArray.ext (Array.ext' h)
theorem pv_max (n k : Int) (hz : (((pv n).size : Int) == k) = true) (hk : k ≠ 0) : n ≤ 16777215 := by
 by_cases h : 16777215 < n
 ·rw [pv_out (Or.inr h)] at hz;exact absurd (by simpa using hz : (0 : Int) = k).symm hk
 ·omega
theorem mapped {l m : List UInt8} (h : l = m) : (l.map fun c => (c.toNat : Int)) = m.map fun c => (c.toNat : Int) := by rw [h]
theorem im_S0 (s r : ByteArray) (a : Nat) (hs : s.size ≤ 2000000000) (ha : a ≤ s.size) (hr : s.extract a s.size = r) (h : 0 < r.size) (h' : a + 0 < s.size) (q0 : r[0] = s[a])  (gk : (r[0].toNat : Int) < 128) : ∃ v, ImV s a v := by
 have l0 : (r[0].toNat : Int) ≤ 255 := by have := r[0].toNat_lt; omega
 have hz0 : r.size = s.size - a := by rw [← hr]; exact rest_size s a
 have ag := agreeB r 1 [r[0]] ((r[0].toNat : Int) % 128) (head1 r h) rfl ⟨Int.natCast_nonneg _, gk⟩ (by omega) (by simp only [List.map_cons, List.map_nil, dec]; omega)
 cases hz : (((pv ((r[0].toNat : Int) % 128)).size : Int) == 1) with
 | true =>
  have he := ag.trans hz;refine ⟨some ((r[0].toNat : Int) % 128, a + 1), fun w => spec_S0t s a w ((r[0].toNat : Int) % 128) hs h'  (by rw [← q0]; exact gk) (by rw [← q0]; exact rfl) hz, fun w => ?_, ?_, fun h => (by cases h)⟩
  ·by_cases h4 : (r.size : Int) < 4
   ·exact impl_S0ta s r a w _ hs ha hr h  gk h4 rfl he
   ·exact impl_S0tb s r a w _ hs ha hr h  gk h4 rfl he
  ·intro n q e;simp only [Option.some.injEq, Prod.mk.injEq] at e;obtain ⟨rfl, rfl⟩ := e;refine ⟨by omega, pv_max _ 1 hz (by decide), by omega, by omega, ?_⟩;rw [eq_of_toList he, ← hr, rest_head _ _ _ (by omega)]
 | false =>
  have he := ag.trans hz;refine ⟨none, fun w => spec_S0f s a w ((r[0].toNat : Int) % 128) hs h'  (by rw [← q0]; exact gk) (by rw [← q0]; exact rfl) hz, fun w => ?_, fun n q e => (by cases e), ?_⟩
  ·by_cases h4 : (r.size : Int) < 4
   ·exact impl_S0fa s r a w _ hs ha hr h  gk h4 rfl he
   ·exact impl_S0fb s r a w _ hs ha hr h  gk h4 rfl he
  ·intro _ n h0 h1 hp;rw [hr] at hp;obtain ⟨m1, m4, q1, q2⟩ := at_pv h0 h1 hp;have hm : (pv n).size ≤ r.size := by have := congrArg ByteArray.size hp; rw [ByteArray.size_extract] at this; omega
   generalize hmm : (pv n).size = m at *;rcases (show m = 1 ∨ m = 2 ∨ m = 3 ∨ m = 4 by omega) with rfl | rfl | rfl | rfl
   ·rw [mapped (head1 r (by omega))] at q2;simp only [List.map_cons, List.map_nil, dec] at q2;have hN : (r[0].toNat : Int) % 128 = n := by omega
    rw [hN, hp] at he;simp at he
   ·rw [mapped (head2 r (by omega))] at q1;simp only [List.map_cons, List.map_nil, proper] at q1;omega
   ·rw [mapped (head3 r (by omega))] at q1;simp only [List.map_cons, List.map_nil, proper] at q1;omega
   ·rw [mapped (head4 r (by omega))] at q1;simp only [List.map_cons, List.map_nil, proper] at q1;omega
theorem im_S1 (s r : ByteArray) (a : Nat) (hs : s.size ≤ 2000000000) (ha : a ≤ s.size) (hr : s.extract a s.size = r) (h : 1 < r.size) (h' : a + 1 < s.size) (q0 : r[0] = s[a]) (q1 : r[1] = s[a + 1]) (g0 : 128 ≤ (r[0].toNat : Int)) (gk : (r[1].toNat : Int) < 128) : ∃ v, ImV s a v := by
 have l0 : (r[0].toNat : Int) ≤ 255 := by have := r[0].toNat_lt; omega
 have l1 : (r[1].toNat : Int) ≤ 255 := by have := r[1].toNat_lt; omega
 have hz0 : r.size = s.size - a := by rw [← hr]; exact rest_size s a
 have ag := agreeB r 2 [r[0], r[1]] ((r[0].toNat : Int) % 128 + (r[1].toNat : Int) % 128 * 128) (head2 r h) rfl ⟨g0, l0, Int.natCast_nonneg _, gk⟩ (by omega) (by simp only [List.map_cons, List.map_nil, dec]; omega)
 cases hz : (((pv ((r[0].toNat : Int) % 128 + (r[1].toNat : Int) % 128 * 128)).size : Int) == 2) with
 | true =>
  have he := ag.trans hz;refine ⟨some ((r[0].toNat : Int) % 128 + (r[1].toNat : Int) % 128 * 128, a + 2), fun w => spec_S1t s a w ((r[0].toNat : Int) % 128 + (r[1].toNat : Int) % 128 * 128) hs h' (by rw [← q0]; exact g0) (by rw [← q1]; exact gk) (by rw [← q0, ← q1]; exact rfl) hz, fun w => ?_, ?_, fun h => (by cases h)⟩
  ·by_cases h4 : (r.size : Int) < 4
   ·exact impl_S1ta s r a w _ hs ha hr h g0 gk h4 rfl he
   ·exact impl_S1tb s r a w _ hs ha hr h g0 gk h4 rfl he
  ·intro n q e;simp only [Option.some.injEq, Prod.mk.injEq] at e;obtain ⟨rfl, rfl⟩ := e;refine ⟨by omega, pv_max _ 2 hz (by decide), by omega, by omega, ?_⟩;rw [eq_of_toList he, ← hr, rest_head _ _ _ (by omega)]
 | false =>
  have he := ag.trans hz;refine ⟨none, fun w => spec_S1f s a w ((r[0].toNat : Int) % 128 + (r[1].toNat : Int) % 128 * 128) hs h' (by rw [← q0]; exact g0) (by rw [← q1]; exact gk) (by rw [← q0, ← q1]; exact rfl) hz, fun w => ?_, fun n q e => (by cases e), ?_⟩
  ·by_cases h4 : (r.size : Int) < 4
   ·exact impl_S1fa s r a w _ hs ha hr h g0 gk h4 rfl he
   ·exact impl_S1fb s r a w _ hs ha hr h g0 gk h4 rfl he
  ·intro _ n h0 h1 hp;rw [hr] at hp;obtain ⟨m1, m4, q1, q2⟩ := at_pv h0 h1 hp;have hm : (pv n).size ≤ r.size := by have := congrArg ByteArray.size hp; rw [ByteArray.size_extract] at this; omega
   generalize hmm : (pv n).size = m at *;rcases (show m = 1 ∨ m = 2 ∨ m = 3 ∨ m = 4 by omega) with rfl | rfl | rfl | rfl
   ·rw [mapped (head1 r (by omega))] at q1;simp only [List.map_cons, List.map_nil, proper] at q1;omega
   ·rw [mapped (head2 r (by omega))] at q2;simp only [List.map_cons, List.map_nil, dec] at q2;have hN : (r[0].toNat : Int) % 128 + (r[1].toNat : Int) % 128 * 128 = n := by omega
    rw [hN, hp] at he;simp at he
   ·rw [mapped (head3 r (by omega))] at q1;simp only [List.map_cons, List.map_nil, proper] at q1;omega
   ·rw [mapped (head4 r (by omega))] at q1;simp only [List.map_cons, List.map_nil, proper] at q1;omega
theorem im_S2 (s r : ByteArray) (a : Nat) (hs : s.size ≤ 2000000000) (ha : a ≤ s.size) (hr : s.extract a s.size = r) (h : 2 < r.size) (h' : a + 2 < s.size) (q0 : r[0] = s[a]) (q1 : r[1] = s[a + 1]) (q2 : r[2] = s[a + 2]) (g0 : 128 ≤ (r[0].toNat : Int)) (g1 : 128 ≤ (r[1].toNat : Int)) (gk : (r[2].toNat : Int) < 128) : ∃ v, ImV s a v := by
 have l0 : (r[0].toNat : Int) ≤ 255 := by have := r[0].toNat_lt; omega
 have l1 : (r[1].toNat : Int) ≤ 255 := by have := r[1].toNat_lt; omega
 have l2 : (r[2].toNat : Int) ≤ 255 := by have := r[2].toNat_lt; omega
 have hz0 : r.size = s.size - a := by rw [← hr]; exact rest_size s a
 have ag := agreeB r 3 [r[0], r[1], r[2]] ((r[0].toNat : Int) % 128 + (r[1].toNat : Int) % 128 * 128 + (r[2].toNat : Int) % 128 * 16384) (head3 r h) rfl ⟨g0, l0, g1, l1, Int.natCast_nonneg _, gk⟩ (by omega) (by simp only [List.map_cons, List.map_nil, dec]; omega)
 cases hz : (((pv ((r[0].toNat : Int) % 128 + (r[1].toNat : Int) % 128 * 128 + (r[2].toNat : Int) % 128 * 16384)).size : Int) == 3) with
 | true =>
  have he := ag.trans hz;refine ⟨some ((r[0].toNat : Int) % 128 + (r[1].toNat : Int) % 128 * 128 + (r[2].toNat : Int) % 128 * 16384, a + 3), fun w => spec_S2t s a w ((r[0].toNat : Int) % 128 + (r[1].toNat : Int) % 128 * 128 + (r[2].toNat : Int) % 128 * 16384) hs h' (by rw [← q0]; exact g0) (by rw [← q1]; exact g1) (by rw [← q2]; exact gk) (by rw [← q0, ← q1, ← q2]; exact rfl) hz, fun w => ?_, ?_, fun h => (by cases h)⟩
  ·by_cases h4 : (r.size : Int) < 4
   ·exact impl_S2ta s r a w _ hs ha hr h g0 g1 gk h4 rfl he
   ·exact impl_S2tb s r a w _ hs ha hr h g0 g1 gk h4 rfl he
  ·intro n q e;simp only [Option.some.injEq, Prod.mk.injEq] at e;obtain ⟨rfl, rfl⟩ := e;refine ⟨by omega, pv_max _ 3 hz (by decide), by omega, by omega, ?_⟩;rw [eq_of_toList he, ← hr, rest_head _ _ _ (by omega)]
 | false =>
  have he := ag.trans hz;refine ⟨none, fun w => spec_S2f s a w ((r[0].toNat : Int) % 128 + (r[1].toNat : Int) % 128 * 128 + (r[2].toNat : Int) % 128 * 16384) hs h' (by rw [← q0]; exact g0) (by rw [← q1]; exact g1) (by rw [← q2]; exact gk) (by rw [← q0, ← q1, ← q2]; exact rfl) hz, fun w => ?_, fun n q e => (by cases e), ?_⟩
  ·by_cases h4 : (r.size : Int) < 4
   ·exact impl_S2fa s r a w _ hs ha hr h g0 g1 gk h4 rfl he
   ·exact impl_S2fb s r a w _ hs ha hr h g0 g1 gk h4 rfl he
  ·intro _ n h0 h1 hp;rw [hr] at hp;obtain ⟨m1, m4, q1, q2⟩ := at_pv h0 h1 hp;have hm : (pv n).size ≤ r.size := by have := congrArg ByteArray.size hp; rw [ByteArray.size_extract] at this; omega
   generalize hmm : (pv n).size = m at *;rcases (show m = 1 ∨ m = 2 ∨ m = 3 ∨ m = 4 by omega) with rfl | rfl | rfl | rfl
   ·rw [mapped (head1 r (by omega))] at q1;simp only [List.map_cons, List.map_nil, proper] at q1;omega
   ·rw [mapped (head2 r (by omega))] at q1;simp only [List.map_cons, List.map_nil, proper] at q1;omega
   ·rw [mapped (head3 r (by omega))] at q2;simp only [List.map_cons, List.map_nil, dec] at q2;have hN : (r[0].toNat : Int) % 128 + (r[1].toNat : Int) % 128 * 128 + (r[2].toNat : Int) % 128 * 16384 = n := by omega
    rw [hN, hp] at he;simp at he
   ·rw [mapped (head4 r (by omega))] at q1;simp only [List.map_cons, List.map_nil, proper] at q1;omega
theorem im_S3 (s r : ByteArray) (a : Nat) (hs : s.size ≤ 2000000000) (ha : a ≤ s.size) (hr : s.extract a s.size = r) (h : 3 < r.size) (h' : a + 3 < s.size) (q0 : r[0] = s[a]) (q1 : r[1] = s[a + 1]) (q2 : r[2] = s[a + 2]) (q3 : r[3] = s[a + 3]) (g0 : 128 ≤ (r[0].toNat : Int)) (g1 : 128 ≤ (r[1].toNat : Int)) (g2 : 128 ≤ (r[2].toNat : Int)) (gk : (r[3].toNat : Int) < 128) : ∃ v, ImV s a v := by
 have l0 : (r[0].toNat : Int) ≤ 255 := by have := r[0].toNat_lt; omega
 have l1 : (r[1].toNat : Int) ≤ 255 := by have := r[1].toNat_lt; omega
 have l2 : (r[2].toNat : Int) ≤ 255 := by have := r[2].toNat_lt; omega
 have l3 : (r[3].toNat : Int) ≤ 255 := by have := r[3].toNat_lt; omega
 have hz0 : r.size = s.size - a := by rw [← hr]; exact rest_size s a
 have ag := agreeB r 4 [r[0], r[1], r[2], r[3]] ((r[0].toNat : Int) % 128 + (r[1].toNat : Int) % 128 * 128 + (r[2].toNat : Int) % 128 * 16384 + (r[3].toNat : Int) % 128 * 2097152) (head4 r h) rfl ⟨g0, l0, g1, l1, g2, l2, Int.natCast_nonneg _, gk⟩ (by omega) (by simp only [List.map_cons, List.map_nil, dec]; omega)
 cases hz : (((pv ((r[0].toNat : Int) % 128 + (r[1].toNat : Int) % 128 * 128 + (r[2].toNat : Int) % 128 * 16384 + (r[3].toNat : Int) % 128 * 2097152)).size : Int) == 4) with
 | true =>
  have he := ag.trans hz;refine ⟨some ((r[0].toNat : Int) % 128 + (r[1].toNat : Int) % 128 * 128 + (r[2].toNat : Int) % 128 * 16384 + (r[3].toNat : Int) % 128 * 2097152, a + 4), fun w => spec_S3t s a w ((r[0].toNat : Int) % 128 + (r[1].toNat : Int) % 128 * 128 + (r[2].toNat : Int) % 128 * 16384 + (r[3].toNat : Int) % 128 * 2097152) hs h' (by rw [← q0]; exact g0) (by rw [← q1]; exact g1) (by rw [← q2]; exact g2) (by rw [← q3]; exact gk) (by rw [← q0, ← q1, ← q2, ← q3]; exact rfl) hz, fun w => ?_, ?_, fun h => (by cases h)⟩
  ·have h4 : ¬ (r.size : Int) < 4 := by omega
   exact impl_S3tb s r a w _ hs ha hr h g0 g1 g2 gk h4 rfl he
  ·intro n q e;simp only [Option.some.injEq, Prod.mk.injEq] at e;obtain ⟨rfl, rfl⟩ := e;refine ⟨by omega, pv_max _ 4 hz (by decide), by omega, by omega, ?_⟩;rw [eq_of_toList he, ← hr, rest_head _ _ _ (by omega)]
 | false =>
  have he := ag.trans hz;refine ⟨none, fun w => spec_S3f s a w ((r[0].toNat : Int) % 128 + (r[1].toNat : Int) % 128 * 128 + (r[2].toNat : Int) % 128 * 16384 + (r[3].toNat : Int) % 128 * 2097152) hs h' (by rw [← q0]; exact g0) (by rw [← q1]; exact g1) (by rw [← q2]; exact g2) (by rw [← q3]; exact gk) (by rw [← q0, ← q1, ← q2, ← q3]; exact rfl) hz, fun w => ?_, fun n q e => (by cases e), ?_⟩
  ·have h4 : ¬ (r.size : Int) < 4 := by omega
   exact impl_S3fb s r a w _ hs ha hr h g0 g1 g2 gk h4 rfl he
  ·intro _ n h0 h1 hp;rw [hr] at hp;obtain ⟨m1, m4, q1, q2⟩ := at_pv h0 h1 hp;have hm : (pv n).size ≤ r.size := by have := congrArg ByteArray.size hp; rw [ByteArray.size_extract] at this; omega
   generalize hmm : (pv n).size = m at *;rcases (show m = 1 ∨ m = 2 ∨ m = 3 ∨ m = 4 by omega) with rfl | rfl | rfl | rfl
   ·rw [mapped (head1 r (by omega))] at q1;simp only [List.map_cons, List.map_nil, proper] at q1;omega
   ·rw [mapped (head2 r (by omega))] at q1;simp only [List.map_cons, List.map_nil, proper] at q1;omega
   ·rw [mapped (head3 r (by omega))] at q1;simp only [List.map_cons, List.map_nil, proper] at q1;omega
   ·rw [mapped (head4 r (by omega))] at q2;simp only [List.map_cons, List.map_nil, dec] at q2;have hN : (r[0].toNat : Int) % 128 + (r[1].toNat : Int) % 128 * 128 + (r[2].toNat : Int) % 128 * 16384 + (r[3].toNat : Int) % 128 * 2097152 = n := by omega
    rw [hN, hp] at he;simp at he
theorem im_E0 (s r : ByteArray) (a : Nat) (hs : s.size ≤ 2000000000) (ha : a ≤ s.size) (hr : s.extract a s.size = r) (h' : r.size ≤ 0) (hz0 : r.size = s.size - a)   : ∃ v, ImV s a v := by
 refine ⟨none, fun w => spec_E0 s a w hs (by omega) ha, fun w => impl_E0 s r a w hs ha hr h'   (by omega), fun n q e => (by cases e), ?_⟩;intro _ n h0 h1 hp;rw [hr] at hp;obtain ⟨m1, m4, q1, q2⟩ := at_pv h0 h1 hp;have hm : (pv n).size ≤ r.size := by have := congrArg ByteArray.size hp; rw [ByteArray.size_extract] at this; omega
 generalize hmm : (pv n).size = m at *;rcases (show m = 1 ∨ m = 2 ∨ m = 3 ∨ m = 4 by omega) with rfl | rfl | rfl | rfl
 ·omega
 ·omega
 ·omega
 ·omega
theorem im_E1 (s r : ByteArray) (a : Nat) (hs : s.size ≤ 2000000000) (ha : a ≤ s.size) (hr : s.extract a s.size = r) (h' : r.size ≤ 1) (h : 0 < r.size) (hz0 : r.size = s.size - a) (q0 : r[0] = s[a]) (g0 : 128 ≤ (r[0].toNat : Int)) : ∃ v, ImV s a v := by
 refine ⟨none, fun w => spec_E1 s a w hs (by omega) (by rw [← q0]; exact g0) (by omega), fun w => impl_E1 s r a w hs ha hr h' h g0 (by omega), fun n q e => (by cases e), ?_⟩;intro _ n h0 h1 hp;rw [hr] at hp;obtain ⟨m1, m4, q1, q2⟩ := at_pv h0 h1 hp;have hm : (pv n).size ≤ r.size := by have := congrArg ByteArray.size hp; rw [ByteArray.size_extract] at this; omega
 generalize hmm : (pv n).size = m at *;rcases (show m = 1 ∨ m = 2 ∨ m = 3 ∨ m = 4 by omega) with rfl | rfl | rfl | rfl
 ·rw [mapped (head1 r (by omega))] at q1;simp only [List.map_cons, List.map_nil, proper] at q1;omega
 ·omega
 ·omega
 ·omega
theorem im_E2 (s r : ByteArray) (a : Nat) (hs : s.size ≤ 2000000000) (ha : a ≤ s.size) (hr : s.extract a s.size = r) (h' : r.size ≤ 2) (h : 1 < r.size) (hz0 : r.size = s.size - a) (q0 : r[0] = s[a]) (q1 : r[1] = s[a + 1]) (g0 : 128 ≤ (r[0].toNat : Int)) (g1 : 128 ≤ (r[1].toNat : Int)) : ∃ v, ImV s a v := by
 refine ⟨none, fun w => spec_E2 s a w hs (by omega) (by rw [← q0]; exact g0) (by rw [← q1]; exact g1) (by omega), fun w => impl_E2 s r a w hs ha hr h' h g0 g1 (by omega), fun n q e => (by cases e), ?_⟩;intro _ n h0 h1 hp;rw [hr] at hp;obtain ⟨m1, m4, q1, q2⟩ := at_pv h0 h1 hp;have hm : (pv n).size ≤ r.size := by have := congrArg ByteArray.size hp; rw [ByteArray.size_extract] at this; omega
 generalize hmm : (pv n).size = m at *;rcases (show m = 1 ∨ m = 2 ∨ m = 3 ∨ m = 4 by omega) with rfl | rfl | rfl | rfl
 ·rw [mapped (head1 r (by omega))] at q1;simp only [List.map_cons, List.map_nil, proper] at q1;omega
 ·rw [mapped (head2 r (by omega))] at q1;simp only [List.map_cons, List.map_nil, proper] at q1;omega
 ·omega
 ·omega
theorem im_E3 (s r : ByteArray) (a : Nat) (hs : s.size ≤ 2000000000) (ha : a ≤ s.size) (hr : s.extract a s.size = r) (h' : r.size ≤ 3) (h : 2 < r.size) (hz0 : r.size = s.size - a) (q0 : r[0] = s[a]) (q1 : r[1] = s[a + 1]) (q2 : r[2] = s[a + 2]) (g0 : 128 ≤ (r[0].toNat : Int)) (g1 : 128 ≤ (r[1].toNat : Int)) (g2 : 128 ≤ (r[2].toNat : Int)) : ∃ v, ImV s a v := by
 refine ⟨none, fun w => spec_E3 s a w hs (by omega) (by rw [← q0]; exact g0) (by rw [← q1]; exact g1) (by rw [← q2]; exact g2) (by omega), fun w => impl_E3 s r a w hs ha hr h' h g0 g1 g2 (by omega), fun n q e => (by cases e), ?_⟩;intro _ n h0 h1 hp;rw [hr] at hp;obtain ⟨m1, m4, q1, q2⟩ := at_pv h0 h1 hp;have hm : (pv n).size ≤ r.size := by have := congrArg ByteArray.size hp; rw [ByteArray.size_extract] at this; omega
 generalize hmm : (pv n).size = m at *;rcases (show m = 1 ∨ m = 2 ∨ m = 3 ∨ m = 4 by omega) with rfl | rfl | rfl | rfl
 ·rw [mapped (head1 r (by omega))] at q1;simp only [List.map_cons, List.map_nil, proper] at q1;omega
 ·rw [mapped (head2 r (by omega))] at q1;simp only [List.map_cons, List.map_nil, proper] at q1;omega
 ·rw [mapped (head3 r (by omega))] at q1;simp only [List.map_cons, List.map_nil, proper] at q1;omega
 ·omega
theorem im_E4 (s r : ByteArray) (a : Nat) (hs : s.size ≤ 2000000000) (ha : a ≤ s.size) (hr : s.extract a s.size = r) (h : 3 < r.size) (hz0 : r.size = s.size - a) (q0 : r[0] = s[a]) (q1 : r[1] = s[a + 1]) (q2 : r[2] = s[a + 2]) (q3 : r[3] = s[a + 3]) (g0 : 128 ≤ (r[0].toNat : Int)) (g1 : 128 ≤ (r[1].toNat : Int)) (g2 : 128 ≤ (r[2].toNat : Int)) (g3 : 128 ≤ (r[3].toNat : Int)) : ∃ v, ImV s a v := by
 refine ⟨none, fun w => spec_E4 s a w hs (by omega) (by rw [← q0]; exact g0) (by rw [← q1]; exact g1) (by rw [← q2]; exact g2) (by rw [← q3]; exact g3), fun w => impl_E4 s r a w hs ha hr  h g0 g1 g2 g3 (by omega), fun n q e => (by cases e), ?_⟩;intro _ n h0 h1 hp;rw [hr] at hp;obtain ⟨m1, m4, q1, q2⟩ := at_pv h0 h1 hp;have hm : (pv n).size ≤ r.size := by have := congrArg ByteArray.size hp; rw [ByteArray.size_extract] at this; omega
 generalize hmm : (pv n).size = m at *;rcases (show m = 1 ∨ m = 2 ∨ m = 3 ∨ m = 4 by omega) with rfl | rfl | rfl | rfl
 ·rw [mapped (head1 r (by omega))] at q1;simp only [List.map_cons, List.map_nil, proper] at q1;omega
 ·rw [mapped (head2 r (by omega))] at q1;simp only [List.map_cons, List.map_nil, proper] at q1;omega
 ·rw [mapped (head3 r (by omega))] at q1;simp only [List.map_cons, List.map_nil, proper] at q1;omega
 ·rw [mapped (head4 r (by omega))] at q1;simp only [List.map_cons, List.map_nil, proper] at q1;omega
theorem im_any (s : ByteArray) (a : Nat) (hs : s.size ≤ 2000000000) (ha : a ≤ s.size) : ∃ v, ImV s a v := by
 obtain ⟨r, hr⟩ : ∃ r, s.extract a s.size = r := ⟨_, rfl⟩;have hz : r.size = s.size - a := by rw [← hr]; exact rest_size s a
 by_cases z0 : r.size ≤ 0
 ·exact im_E0 s r a hs ha hr z0 hz  
 have q0 : r[0] = s[a] := by subst hr; exact rest_get s a 0 (by omega) (by omega)
 by_cases y0 : (r[0].toNat : Int) < 128
 ·exact im_S0 s r a hs ha hr (by omega) (by omega) q0  y0
 have g0 : 128 ≤ (r[0].toNat : Int) := by omega
 by_cases z1 : r.size ≤ 1
 ·exact im_E1 s r a hs ha hr z1 (by omega) hz q0 g0
 have q1 : r[1] = s[a + 1] := by subst hr; exact rest_get s a 1 (by omega) (by omega)
 by_cases y1 : (r[1].toNat : Int) < 128
 ·exact im_S1 s r a hs ha hr (by omega) (by omega) q0 q1 g0 y1
 have g1 : 128 ≤ (r[1].toNat : Int) := by omega
 by_cases z2 : r.size ≤ 2
 ·exact im_E2 s r a hs ha hr z2 (by omega) hz q0 q1 g0 g1
 have q2 : r[2] = s[a + 2] := by subst hr; exact rest_get s a 2 (by omega) (by omega)
 by_cases y2 : (r[2].toNat : Int) < 128
 ·exact im_S2 s r a hs ha hr (by omega) (by omega) q0 q1 q2 g0 g1 y2
 have g2 : 128 ≤ (r[2].toNat : Int) := by omega
 by_cases z3 : r.size ≤ 3
 ·exact im_E3 s r a hs ha hr z3 (by omega) hz q0 q1 q2 g0 g1 g2
 have q3 : r[3] = s[a + 3] := by subst hr; exact rest_get s a 3 (by omega) (by omega)
 by_cases y3 : (r[3].toNat : Int) < 128
 ·exact im_S3 s r a hs ha hr (by omega) (by omega) q0 q1 q2 q3 g0 g1 g2 y3
 have g3 : 128 ≤ (r[3].toNat : Int) := by omega
 exact im_E4 s r a hs ha hr (by omega) hz q0 q1 q2 q3 g0 g1 g2 g3
end Go.Proofs.YtnhanccjnhgjoaaGreatDoor.WPut
namespace Go.Proofs.YtnhanccjnhgjoaaGreatDoor
open Go.RowKit
structure VrAt (s : ByteArray) (V : Nat → Option (Int × Nat)) : Prop where
 ok : VrOk s V
 some : ∀ a n q, V a = some (n, q) → s.extract a q = WPut.pv n
 none : ∀ a, a ≤ s.size → V a = Option.none → ∀ n, 0 ≤ n → n ≤ 16777215 → (s.extract a s.size).extract 0 (WPut.pv n).size ≠ WPut.pv n
theorem vrAt_any (s : ByteArray) (hs : s.size ≤ 2000000000) : ∃ V, VrAt s V := by
 have h : ∀ a, ∃ v : Option (Int × Nat), a ≤ s.size → WPut.ImV s a v := fun a => by
  by_cases ha : a ≤ s.size
  ·obtain ⟨v, hv⟩ := WPut.im_any s a hs ha;exact ⟨v, fun _ => hv⟩
  ·exact ⟨Option.none, fun h => absurd h ha⟩
 let V : Nat → Option (Int × Nat) := fun a => if a ≤ s.size then (h a).choose else Option.none
 have hV : ∀ a, a ≤ s.size → V a = (h a).choose := fun a ha => if_pos ha;have hN : ∀ a, ¬ a ≤ s.size → V a = Option.none := fun a ha => if_neg ha
 have key : ∀ a n q, V a = some (n, q) → 0 ≤ n ∧ n ≤ 16777215 ∧ a < q ∧ q ≤ s.size ∧ s.extract a q = WPut.pv n := fun a n q e => by
  by_cases ha : a ≤ s.size
  ·rw [hV a ha] at e; exact ((h a).choose_spec ha).yes n q e
  ·rw [hN a ha] at e; cases e
 refine ⟨V, ⟨fun a ha w => ?_, fun a ha w => ?_, fun a n q e => ?_⟩, fun a n q e => (key a n q e).2.2.2.2, fun a ha e => ?_⟩
 ·rw [hV a ha]; exact ((h a).choose_spec ha).scalls w
 ·rw [hV a ha]; exact ((h a).choose_spec ha).calls w
 ·have := key a n q e; exact ⟨this.1, this.2.1, this.2.2.1, this.2.2.2.1⟩
 ·rw [hV a ha] at e; exact ((h a).choose_spec ha).no e
end Go.Proofs.YtnhanccjnhgjoaaGreatDoor

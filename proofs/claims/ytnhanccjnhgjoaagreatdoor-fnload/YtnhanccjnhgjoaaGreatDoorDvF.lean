import Derived.Test.YtnhanccjnhgjoaaGreatDoorGa
import Derived.Test.YtnhanccjnhgjoaaGreatDoorGd
import Derived.Test.YtnhanccjnhgjoaaGreatDoorGv
import Derived.Deep.RegionHeld3
namespace Go.Proofs.YtnhanccjnhgjoaaGreatDoor
open Go.RowKit Go.Shelf
set_option linter.unusedVariables false
set_option linter.unusedSimpArgs false
set_option maxRecDepth 100000
set_option maxHeartbeats 9000000
theorem l1Take_big (c : Sl Int) (v : Value) (p : Nat) (n : Int) (w : World) (hC : IsCode w v c) (hp : p ≤ 1000000) (hn : n ≤ 4000000000) :
  Calls Tryz.prog 10 #[v, .int .i64 p, .int .i64 n] w fun e w' => e = .returned (.tuple #[.int .i64 (tk c p n), .int .i64 (p + 1 : Nat)]) ∧ w' = w := by
 obtain ⟨⟨ao, cap, rfl, hl, hc⟩, hby, hsm⟩ := hC;by_cases h1 : n < 1
 ·have ht : tk c p n = 0 := if_pos (.inl h1);rw [ht];clear hc hby;go_enter Tryz.func10, Tryz.ntmps10
  go_wp2
  go_ret2
  exact ⟨rfl, rfl⟩
 by_cases h0 : c.n = 0
 ·have ht : tk c p n = 0 := if_pos (.inr h0);rw [ht];clear hc hby;go_enter Tryz.func10, Tryz.ntmps10
  go_wp2
  go_ret2
  exact ⟨rfl, rfl⟩
 obtain ⟨b, o, rfl, hb, hcc⟩ := hc (by omega);clear hc;have hne : ((c.n : Int) == 0) = false := by simp; omega
 by_cases hlt : p < c.n ∧ n ≤ 256
 ·obtain ⟨hlt1, hlt2⟩ := hlt;have ht : tk c p n = c.f p % n := by unfold tk; rw [if_neg (by omega), if_pos ⟨hlt1, hlt2⟩]
  rw [ht];have hc0 : w.cell? ⟨b, o + p, none⟩ = some (.int .u8 (c.f p)) := by simpa [iC] using hcc p hlt1 0 (by omega)
  obtain ⟨hb1, hb2⟩ := hby p;generalize c.f p = x at hc0 hb1 hb2;clear hcc hby;go_enter Tryz.func10, Tryz.ntmps10
  go_wp2
  go_ret2
  exact ⟨rfl, rfl⟩
 ·have ht : tk c p n = bits .xor .i64 (tkE c p) (tkE c p / 64) % n := by unfold tk; rw [if_neg (by omega), if_neg hlt]
  have hm1 : p % c.n < c.n := Nat.mod_lt _ (by omega);have hm2 : (p * 7 + 3) % c.n < c.n := Nat.mod_lt _ (by omega);have hc0 : w.cell? ⟨b, o + p % c.n, none⟩ = some (.int .u8 (c.f (p % c.n))) := by simpa [iC] using hcc (p % c.n) hm1 0 (by omega)
  have hc1 : w.cell? ⟨b, o + (p * 7 + 3) % c.n, none⟩ = some (.int .u8 (c.f ((p * 7 + 3) % c.n))) := by simpa [iC] using hcc ((p * 7 + 3) % c.n) hm2 0 (by omega)
  obtain ⟨hb1, hb2⟩ := hby (p % c.n);obtain ⟨hb1', hb2'⟩ := hby ((p * 7 + 3) % c.n);unfold tkE at ht;generalize c.f (p % c.n) = x at hc0 hb1 hb2 ht;generalize c.f ((p * 7 + 3) % c.n) = y at hc1 hb1' hb2' ht;have hd0 : 0 ≤ (p : Int) / (c.n : Int) := Int.ediv_nonneg (by omega) (by omega)
  have hd1 : (p : Int) / (c.n : Int) ≤ 1000000 := by
   have : p / c.n ≤ p := Nat.div_le_self _ _;have e : (p : Int) / (c.n : Int) = ((p / c.n : Nat) : Int) := by simp
   rw [e]; omega
  obtain ⟨hY0, hY1⟩ := xor_bd (x * 131 + y * 1117 + (p : Int) * 29 + (p : Int) / (c.n : Int) * 53) (by omega) (by omega);obtain ⟨Y, hY⟩ : ∃ Y, bits .xor .i64 (x * 131 + y * 1117 + (p : Int) * 29 + (p : Int) / (c.n : Int) * 53) ((x * 131 + y * 1117 + (p : Int) * 29 + (p : Int) / (c.n : Int) * 53) / 64) = Y := ⟨_, rfl⟩;rw [hY] at ht hY0 hY1;have hi0 := Int.emod_nonneg ((p : Int) * 7 + 3) (show (c.n : Int) ≠ 0 by omega);have hi1 := Int.emod_lt_of_pos ((p : Int) * 7 + 3) (show (0 : Int) < (c.n : Int) by omega);rw [ht];clear hcc hby ht;by_cases hpl : p < c.n
  ·have hnl : 256 < n := by omega
   clear hlt;go_enter Tryz.func10, Tryz.ntmps10
   go_wp2
   go_ret2
   exact ⟨rfl, rfl⟩
  ·clear hlt;go_enter Tryz.func10, Tryz.ntmps10
   go_wp2
   go_ret2
   exact ⟨rfl, rfl⟩
theorem sl_tail (s : ByteArray) (k : Nat) (wx : World) (h : (k : Int) ≤ (s.size : Int)) : (Instr.slice 9 (.string s) (some (.int .i64 (k : Int))) none none).run Tryz.prog wx = .ok (.string (s.extract k s.size)) wx := by
 have h1 : ¬ ((k : Int) < 0) := by omega
 simp [Instr.slice, go_sem];omega
theorem l1Byte_mod (n : Int) (w : World) (h0 : 0 ≤ n) (h1 : n ≤ 4000000000) :
  Calls Tryz.prog 14 #[.int .i64 n] w fun e w' => e = .returned (.string (strOfNums [n % 256])) ∧ Below w.heap.size w w' := by
 have hcv := conv_one w (n % 256);have hw : IntKind.u8.wrap n = n % 256 := by simp [IntKind.wrap, IntKind.bits, IntKind.signed]
 go_enter Tryz.func14, Tryz.ntmps14
 go_wp2
 go_ret;exact ⟨rfl, by go_grown⟩
def TxtE (n : Nat) (w : World) (e : Ending) (w' : World) : Prop := ∃ u : ByteArray, e = .returned (.string u) ∧ u.size ≤ n ∧ Below w.heap.size w w'
theorem spoilText_in (c : Sl Int) (P : Nat) (t : ByteArray) (hP : P ≤ 4000) (ht : t.size ≤ 1500000000) (w : World) (v : Value) (hC : IsCode w v c) :
  Calls Tryz.prog 13 #[v, .int .i64 P, .string t] w (TxtE (t.size + 1) w) := by
 obtain ⟨a, ha⟩ : ∃ z, tk c P 6 = z := ⟨_, rfl⟩;obtain ⟨k, hk⟩ : ∃ z : Nat, tk c (P + 1) ((t.size : Int) + 1) = z := Int.eq_ofNat_of_zero_le (tk_bd _ _ _).1;obtain ⟨x, hx⟩ : ∃ z, tk c (P + 2) 256 = z := ⟨_, rfl⟩;have a1 := (tk_bd c P 6).1;have a2 := (tk_bd c P 6).2 (by omega);have k2 := (tk_bd c (P + 1) ((t.size : Int) + 1)).2 (by omega);have x1 := (tk_bd c (P + 2) 256).1;have x2 := (tk_bd c (P + 2) 256).2 (by omega);rw [ha] at a1 a2;rw [hk] at k2;rw [hx] at x1 x2;have q1 := l1Take_big c v P 6 w hC (by omega) (by omega);have q2 := l1Take_big c v (P + 1) ((t.size : Int) + 1) w hC (by omega) (by omega);have q3 := l1Take_big c v (P + 2) 256 w hC (by omega) (by omega);rw [ha] at q1;rw [hk] at q2;rw [hx] at q3;replace q1 : Hid _ := q1;replace q2 : Hid _ := q2;replace q3 : Hid _ := q3;obtain ⟨ao, cap, rfl⟩ := (show ∃ ao cap, v = .slice ao c.n cap from IsArr.slice hC.ints);have hsm := hC.small;clear hC ha hk hx;have hz1 : (t.extract 0 k).size = k := by rw [ByteArray.size_extract]; omega
 have hsl1 : ∀ wx, (Instr.slice 9 (.string t) none (some (.int .i64 (k : Int))) none).run Tryz.prog wx = .ok (.string (t.extract 0 k)) wx := fun wx => WPut.sl_head t k wx (by omega);have hz2 : (t.extract k t.size).size = t.size - k := by rw [ByteArray.size_extract]; omega
 have hsl2 : ∀ wx, (Instr.slice 9 (.string t) (some (.int .i64 (k : Int))) none none).run Tryz.prog wx = .ok (.string (t.extract k t.size)) wx := fun wx => sl_tail t k wx (by omega);have hw1 : IntKind.i64.wrap ((t.size : Int) + 1) = (t.size : Int) + 1 := by simp [IntKind.wrap, IntKind.bits, IntKind.signed]; omega
 go_enter Tryz.func13, Tryz.ntmps13;go_wp2_with fail;refine Calls.mono q1.out ?_;rintro e w' ⟨rfl, rfl⟩;go_wp2_with fail;refine Calls.mono q2.out ?_;rintro e w' ⟨rfl, rfl⟩;go_wp2_with fail;refine Calls.mono q3.out ?_;rintro e w' ⟨rfl, rfl⟩;clear q1 q2 q3;have hs1 : (strOfNums [x % 256]).size = 1 := strOfNums_size _;have hw2 : IntKind.i64.wrap ((k : Int) + 1) = (k : Int) + 1 := by simp [IntKind.wrap, IntKind.bits, IntKind.signed]; omega
 by_cases hkt : k < t.size
 ·have hkI : (k : Int) < (t.size : Int) := by omega
  have hz3 : (t.extract (k + 1) t.size).size = t.size - (k + 1) := by rw [ByteArray.size_extract]; omega
  have hsl3 : ∀ wx, (Instr.slice 9 (.string t) (some (.int .i64 ((k : Int) + 1))) none none).run Tryz.prog wx = .ok (.string (t.extract (k + 1) t.size)) wx := fun wx => sl_tail t (k + 1) wx (by omega);by_cases h0 : a = 0
  ·subst h0;go_wp2_with fail
   go_region
   go_wp2_with fail;go_ret;exact ⟨_, rfl, by rw [ByteArray.size_append, hz1, hz3]; omega, by go_grown⟩
  have h0b : (a == 0) = false := by simpa using h0
  by_cases h4 : a < 4
  ·go_wp2_with fail;refine wp_region_held_drew (S := fun _ => True) (by kernel_rfl) trivial (fun hH => ?_);clear hH;refine tkd 0 55 (.string t) trivial ?_;try simp only [tK]
   refine tkd 1 56 (.int .i64 (k : Int)) trivial ?_;try simp only [tK]
   refine tkd 2 57 (.string (t.extract 0 k)) trivial ?_;try simp only [tK]
   refine tkd 3 58 (.int .i64 x) trivial ?_;try simp only [tK]
   refine tkd 6 61 (.string t) trivial ?_;try simp only [tK]
   refine tkd 7 62 (.int .i64 (k : Int)) trivial ?_;try simp only [tK]
   refine tkd 8 63 (.int .i64 ((k : Int) + 1)) trivial ?_;try simp only [tK]
   refine tkd 9 64 (.string (t.extract (k + 1) t.size)) trivial ?_;try simp only [tK]
   refine rdy1 4 (fun K hK => ?_);go_simp;refine (l1Byte_mod x _ (by omega) (by omega)).mono ?_;rintro e w1 ⟨rfl, b1⟩;have bw : Below w'.heap.size w' w1 := (Below.refl w'.heap.size w').drew.trans b1;go_wp2_with fail;refine hK.out _ _ trivial (fun hzz => ?_);clear hK K hzz b1;try simp only [tK]
   refine tkd 5 60 (.string (t.extract 0 k ++ strOfNums [x % 256])) trivial ?_ (hy := Or.inl ⟨by rfl, by intro wv hSv; clear hSv; go_simp <;> omega⟩);try simp only [tK]
   refine tkd 10 65 (.string (t.extract 0 k ++ strOfNums [x % 256] ++ t.extract (k + 1) t.size)) trivial ?_ (hy := Or.inl ⟨by rfl, by intro wv hSv; clear hSv; go_simp <;> omega⟩);try simp only [tK]
   refine tkd 11 6 (.string (t.extract 0 k ++ strOfNums [x % 256] ++ t.extract (k + 1) t.size)) trivial ?_ (hy := Or.inl ⟨by rfl, by intro wv hSv; clear hSv; go_simp <;> omega⟩);try simp only [tK]
   refine wpAnyH_done (by kernel_rfl) ?_ _;go_wp2_with fail;go_ret;exact ⟨_, rfl, by simp only [ByteArray.size_append, hz1, hz3, hs1]; omega, bw⟩
  have h4b : ¬ a < 4 := h4;clear hsl3 hz3;by_cases h5 : a = 4
  ·subst h5;go_wp2_with fail;refine wp_region_held_drew (S := fun _ => True) (by kernel_rfl) trivial (fun hH => ?_);clear hH;refine tkd 0 68 (.string t) trivial ?_;try simp only [tK]
   refine tkd 1 69 (.int .i64 (k : Int)) trivial ?_;try simp only [tK]
   refine tkd 2 70 (.string (t.extract 0 k)) trivial ?_;try simp only [tK]
   refine tkd 3 71 (.int .i64 x) trivial ?_;try simp only [tK]
   refine tkd 6 74 (.string t) trivial ?_;try simp only [tK]
   refine tkd 7 75 (.int .i64 (k : Int)) trivial ?_;try simp only [tK]
   refine tkd 8 76 (.string (t.extract k t.size)) trivial ?_;try simp only [tK]
   refine rdy1 4 (fun K hK => ?_);go_simp;refine (l1Byte_mod x _ (by omega) (by omega)).mono ?_;rintro e w1 ⟨rfl, b1⟩;have bw : Below w'.heap.size w' w1 := (Below.refl w'.heap.size w').drew.trans b1;go_wp2_with fail;refine hK.out _ _ trivial (fun hzz => ?_);clear hK K hzz b1;try simp only [tK]
   refine tkd 5 73 (.string (t.extract 0 k ++ strOfNums [x % 256])) trivial ?_ (hy := Or.inl ⟨by rfl, by intro wv hSv; clear hSv; go_simp <;> omega⟩);try simp only [tK]
   refine tkd 9 77 (.string (t.extract 0 k ++ strOfNums [x % 256] ++ t.extract k t.size)) trivial ?_ (hy := Or.inl ⟨by rfl, by intro wv hSv; clear hSv; go_simp <;> omega⟩);try simp only [tK]
   refine tkd 10 6 (.string (t.extract 0 k ++ strOfNums [x % 256] ++ t.extract k t.size)) trivial ?_ (hy := Or.inl ⟨by rfl, by intro wv hSv; clear hSv; go_simp <;> omega⟩);try simp only [tK]
   refine wpAnyH_done (by kernel_rfl) ?_ _;go_wp2_with fail;go_ret;exact ⟨_, rfl, by simp only [ByteArray.size_append, hz1, hz2, hs1]; omega, bw⟩
  ·have h5b : (a == 4) = false := by simpa using h5
   go_wp2_with fail;go_ret;exact ⟨_, rfl, by rw [hz1]; omega, by go_grown⟩
 ·have hkI : ¬ (k : Int) < (t.size : Int) := by omega
  by_cases h5 : a = 4
  ·subst h5;go_wp2_with fail;refine wp_region_held_drew (S := fun _ => True) (by kernel_rfl) trivial (fun hH => ?_);clear hH;refine tkd 0 68 (.string t) trivial ?_;try simp only [tK]
   refine tkd 1 69 (.int .i64 (k : Int)) trivial ?_;try simp only [tK]
   refine tkd 2 70 (.string (t.extract 0 k)) trivial ?_;try simp only [tK]
   refine tkd 3 71 (.int .i64 x) trivial ?_;try simp only [tK]
   refine tkd 6 74 (.string t) trivial ?_;try simp only [tK]
   refine tkd 7 75 (.int .i64 (k : Int)) trivial ?_;try simp only [tK]
   refine tkd 8 76 (.string (t.extract k t.size)) trivial ?_;try simp only [tK]
   refine rdy1 4 (fun K hK => ?_);go_simp;refine (l1Byte_mod x _ (by omega) (by omega)).mono ?_;rintro e w1 ⟨rfl, b1⟩;have bw : Below w'.heap.size w' w1 := (Below.refl w'.heap.size w').drew.trans b1;go_wp2_with fail;refine hK.out _ _ trivial (fun hzz => ?_);clear hK K hzz b1;try simp only [tK]
   refine tkd 5 73 (.string (t.extract 0 k ++ strOfNums [x % 256])) trivial ?_ (hy := Or.inl ⟨by rfl, by intro wv hSv; clear hSv; go_simp <;> omega⟩);try simp only [tK]
   refine tkd 9 77 (.string (t.extract 0 k ++ strOfNums [x % 256] ++ t.extract k t.size)) trivial ?_ (hy := Or.inl ⟨by rfl, by intro wv hSv; clear hSv; go_simp <;> omega⟩);try simp only [tK]
   refine tkd 10 6 (.string (t.extract 0 k ++ strOfNums [x % 256] ++ t.extract k t.size)) trivial ?_ (hy := Or.inl ⟨by rfl, by intro wv hSv; clear hSv; go_simp <;> omega⟩);try simp only [tK]
   refine wpAnyH_done (by kernel_rfl) ?_ _;go_wp2_with fail;go_ret;exact ⟨_, rfl, by simp only [ByteArray.size_append, hz1, hz2, hs1]; omega, bw⟩
  ·have h5b : (a == 4) = false := by simpa using h5
   by_cases h0 : a = 0
   ·subst h0;go_wp2_with fail;go_ret;exact ⟨_, rfl, by rw [hz1]; omega, by go_grown⟩
   ·have h0b : (a == 0) = false := by simpa using h0
    by_cases h4 : a < 4
    ·go_wp2_with fail;go_ret;exact ⟨_, rfl, by rw [hz1]; omega, by go_grown⟩
    ·go_wp2_with fail;go_ret;exact ⟨_, rfl, by rw [hz1]; omega, by go_grown⟩
end Go.Proofs.YtnhanccjnhgjoaaGreatDoor

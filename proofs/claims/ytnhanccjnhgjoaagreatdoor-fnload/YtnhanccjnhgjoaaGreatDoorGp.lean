import Derived.Test.YtnhanccjnhgjoaaGreatDoorGa
import Derived.WalkSmall
import Derived.WalkKit
import Derived.Tactics2
import Derived.Deep.RegionHeld3
import Derived.Deep.QuietTactic
import Derived.Deep.RegionWith
import Derived.IntWalk
import Derived.Deep.Cut
import Derived.Test.YtnhanccjnhgjoaaGreatDoorRows
import Derived.ProofKit
import Derived.Handy
import Derived.OpenShut
import Derived.WalkLawsBesides
import Derived.WalkSpells
import Derived.Laws.BitsAllLaws
namespace Go.Proofs.YtnhanccjnhgjoaaGreatDoor
open Go.RowKit
set_option linter.unusedVariables false
set_option linter.unusedSimpArgs false
set_option maxRecDepth 100000
set_option maxHeartbeats 9000000
def rV (s : ByteArray) (r : RS) : Value := .agg #[.string s, .int .i64 (r.pos : Int), .int .i64 r.bad]
theorem l3Fail_in (s : ByteArray) (r : RS) (c : Int) (w : World) :
  Calls Tryz.prog 80 #[rV s r, .int .i64 c] w fun e w' => e = .returned (rV s (r.fail c)) ∧ Below w.heap.size w w' := by
 obtain ⟨p, b⟩ := r;unfold rV;by_cases hb : b = 0
 ·subst hb;rw [RS.fail_ok rfl];go_enter Tryz.func80, Tryz.ntmps80;go_wp2_with fail;refine bodyPost_ret (v := .agg #[.string s, .int .i64 (p : Int), .int .i64 c]) ?_ rfl ⟨rfl, by go_grown⟩;simp [results, Tryz.results80, go_sem]
 ·rw [RS.fail_bad hb];have hne : (b == 0) = false := by simpa using hb
  go_enter Tryz.func80, Tryz.ntmps80;go_wp2_with fail;refine bodyPost_ret (v := .agg #[.string s, .int .i64 (p : Int), .int .i64 b]) ?_ rfl ⟨rfl, by go_grown⟩;simp [results, Tryz.results80, go_sem]
theorem l3Byte_bad (s : ByteArray) (hi : Int) (p : Nat) (b : Int) (w : World) (hb : b ≠ 0) :
  Calls Tryz.prog 36 #[.agg #[.string s, .int .i64 (p : Int), .int .i64 b], .int .i64 hi] w fun e w' => e = .returned (.tuple #[.int .i64 0, .agg #[.string s, .int .i64 (p : Int), .int .i64 b]]) ∧ Below w.heap.size w w' := by
 have hne : (b != 0) = true := by simpa using hb
 go_enter Tryz.func36, Tryz.ntmps36;go_wp2_with fail
 go_region
 go_wp2_with fail;refine bodyPost_ret (v := .tuple #[.int .i64 0, .agg #[.string s, .int .i64 (p : Int), .int .i64 b]]) ?_ rfl ⟨rfl, by go_grown⟩;simp [results, Tryz.results36, go_sem]
theorem l3Byte_short (s : ByteArray) (hi : Int) (p : Nat) (w : World) (hs : s.size ≤ 2000000000) (hp : s.size ≤ p) (hp2 : p ≤ s.size) :
  Calls Tryz.prog 36 #[.agg #[.string s, .int .i64 (p : Int), .int .i64 0], .int .i64 hi] w fun e w' => e = .returned (.tuple #[.int .i64 0, .agg #[.string s, .int .i64 (p : Int), .int .i64 2]]) ∧ Below w.heap.size w w' := by
 have hpI : (p : Int) ≥ (s.size : Int) := by omega
 have hf := fun y => l3Fail_in s ⟨p, 0⟩ 2 y;rw [RS.fail_ok rfl] at hf;unfold rV at hf;replace hf : Hid (∀ y, Calls Tryz.prog 80 #[.agg #[.string s, .int .i64 ((p : Nat) : Int), .int .i64 0], .int .i64 2] y fun e w' => e = .returned (.agg #[.string s, .int .i64 ((p : Nat) : Int), .int .i64 2]) ∧ Below y.heap.size y w') := hf;go_enter Tryz.func36, Tryz.ntmps36;go_wp2_with fail;have Q0 := RowL.new (w.alloc (.cells #[.string s, .int .i64 (p : Int), .int .i64 0] 50)) [.string ⟨#[]⟩, .int .i64 0, .int .i64 0] 50;rw [World.size_alloc] at Q0;have bw : Below w.heap.size w ((w.alloc (.cells #[.string s, .int .i64 (p : Int), .int .i64 0] 50)).alloc (.cells #[.string ⟨#[]⟩, .int .i64 0, .int .i64 0] 50)) := ((Below.refl _ _).alloc (Nat.le_refl _) _).alloc (by rw [World.size_alloc]; omega) _;generalize ((w.alloc (.cells #[.string s, .int .i64 (p : Int), .int .i64 0] 50)).alloc (.cells #[.string ⟨#[]⟩, .int .i64 0, .int .i64 0] 50)) = w2 at Q0 bw ⊢;refine (hf.out w2).mono ?_;rintro e y ⟨rfl, b9⟩;replace Q0 := Q0.call b9;replace bw := bw.trans (b9.mono bw.size);have e0 := Q0.cell 0 rfl;have e1 := Q0.cell 1 rfl;have e2 := Q0.cell 2 rfl;have ef := Q0.frozen;have hq2 := Q0.lt;have L := (((Q0.set 0 (.string s)).set 1 (.int .i64 (p : Int))).set 2 (.int .i64 2));have bf := (Below.setCell (Below.setCell (Below.setCell bw (p := ⟨w.heap.size + 1, 0, none⟩) (Nat.le_succ _) (.string s)) (p := ⟨w.heap.size + 1, 1, none⟩) (Nat.le_succ _) (.int .i64 (p : Int))) (p := ⟨w.heap.size + 1, 2, none⟩) (Nat.le_succ _) (.int .i64 2));have l0 := L.cell 0 rfl;have l1 := L.cell 1 rfl;have l2 := L.cell 2 rfl;replace L : Hid _ := L;replace Q0 : Hid _ := Q0;clear b9 hf;go_wp2_with fail;refine bodyPost_ret (v := .tuple #[.int .i64 0, .agg #[.string s, .int .i64 (p : Int), .int .i64 2]]) ?_ rfl ⟨rfl, bf⟩;simp [results, Tryz.results36, go_sem, l0, l1, l2]
theorem l3Byte_big (s : ByteArray) (hi : Nat) (p : Nat) (w : World) (hs : s.size ≤ 2000000000) (hp : p < s.size) (hh : hi < s[p].toNat) :
  Calls Tryz.prog 36 #[.agg #[.string s, .int .i64 (p : Int), .int .i64 0], .int .i64 (hi : Int)] w fun e w' => e = .returned (.tuple #[.int .i64 0, .agg #[.string s, .int .i64 ((p : Int) + 1), .int .i64 3]]) ∧ Below w.heap.size w w' := by
 have hpI : ¬ (p : Int) ≥ (s.size : Int) := by omega
 have hpI2 : (p : Int) < (s.size : Int) := by omega
 have h256 : s[p].toNat < 256 := UInt8.toNat_lt _;obtain ⟨x, hx⟩ : ∃ x : Nat, x = s[p].toNat := ⟨_, rfl⟩;have hxi : ((s[p].toNat : Nat) : Int) = (x : Int) := by rw [hx]
 rw [← hx] at h256 hh;have hw64 : wrap64 (x : Int) = (x : Int) := by unfold wrap64; omega
 have hhI : (x : Int) > (hi : Int) := by omega
 have hf := fun y => l3Fail_in s ⟨p + 1, 0⟩ 3 y;rw [RS.fail_ok rfl] at hf;unfold rV at hf;replace hf : Hid (∀ y, Calls Tryz.prog 80 #[.agg #[.string s, .int .i64 ((p : Int) + 1), .int .i64 0], .int .i64 3] y fun e w' => e = .returned (.agg #[.string s, .int .i64 ((p : Int) + 1), .int .i64 3]) ∧ Below y.heap.size y w') := hf;go_enter Tryz.func36, Tryz.ntmps36;go_wp2_with fail;have Q0 := RowL.new (w.alloc (.cells #[.string s, .int .i64 ((p : Int) + 1), .int .i64 0] 50)) [.string ⟨#[]⟩, .int .i64 0, .int .i64 0] 50;rw [World.size_alloc] at Q0;have bw : Below w.heap.size w ((w.alloc (.cells #[.string s, .int .i64 ((p : Int) + 1), .int .i64 0] 50)).alloc (.cells #[.string ⟨#[]⟩, .int .i64 0, .int .i64 0] 50)) := ((Below.refl _ _).alloc (Nat.le_refl _) _).alloc (by rw [World.size_alloc]; omega) _;generalize ((w.alloc (.cells #[.string s, .int .i64 ((p : Int) + 1), .int .i64 0] 50)).alloc (.cells #[.string ⟨#[]⟩, .int .i64 0, .int .i64 0] 50)) = w2 at Q0 bw ⊢;refine (hf.out w2).mono ?_;rintro e y ⟨rfl, b9⟩;replace Q0 := Q0.call b9;replace bw := bw.trans (b9.mono bw.size);have e0 := Q0.cell 0 rfl;have e1 := Q0.cell 1 rfl;have e2 := Q0.cell 2 rfl;have ef := Q0.frozen;have hq2 := Q0.lt;have L := (((Q0.set 0 (.string s)).set 1 (.int .i64 ((p : Int) + 1))).set 2 (.int .i64 3));have bf := (Below.setCell (Below.setCell (Below.setCell bw (p := ⟨w.heap.size + 1, 0, none⟩) (Nat.le_succ _) (.string s)) (p := ⟨w.heap.size + 1, 1, none⟩) (Nat.le_succ _) (.int .i64 ((p : Int) + 1))) (p := ⟨w.heap.size + 1, 2, none⟩) (Nat.le_succ _) (.int .i64 3));have l0 := L.cell 0 rfl;have l1 := L.cell 1 rfl;have l2 := L.cell 2 rfl;replace L : Hid _ := L;replace Q0 : Hid _ := Q0;clear b9 hf;go_wp2_with fail;refine bodyPost_ret (v := .tuple #[.int .i64 0, .agg #[.string s, .int .i64 ((p : Int) + 1), .int .i64 3]]) ?_ rfl ⟨rfl, bf⟩;simp [results, Tryz.results36, go_sem, l0, l1, l2]
theorem l3Byte_ok (s : ByteArray) (hi : Nat) (p : Nat) (w : World) (hs : s.size ≤ 2000000000) (hp : p < s.size) (hh : s[p].toNat ≤ hi) :
  Calls Tryz.prog 36 #[.agg #[.string s, .int .i64 (p : Int), .int .i64 0], .int .i64 (hi : Int)] w fun e w' => e = .returned (.tuple #[.int .i64 (s[p].toNat : Int), .agg #[.string s, .int .i64 ((p : Int) + 1), .int .i64 0]]) ∧ Below w.heap.size w w' := by
 have hpI : ¬ (p : Int) ≥ (s.size : Int) := by omega
 have hpI2 : (p : Int) < (s.size : Int) := by omega
 have h256 : s[p].toNat < 256 := UInt8.toNat_lt _;obtain ⟨x, hx⟩ : ∃ x : Nat, x = s[p].toNat := ⟨_, rfl⟩;have hxi : ((s[p].toNat : Nat) : Int) = (x : Int) := by rw [hx]
 rw [← hx] at h256 hh;have hw64 : wrap64 (x : Int) = (x : Int) := by unfold wrap64; omega
 have hhI : ¬ (x : Int) > (hi : Int) := by omega
 rw [hxi];go_enter Tryz.func36, Tryz.ntmps36;go_wp2_with fail
 go_region
 go_wp2_with fail;refine bodyPost_ret (v := .tuple #[.int .i64 (x : Int), .agg #[.string s, .int .i64 ((p : Int) + 1), .int .i64 0]]) ?_ rfl ⟨rfl, by go_grown⟩;simp [results, Tryz.results36, go_sem]
theorem l3Byte_in (s : ByteArray) (hi : Nat) (r : RS) (w : World) (hs : s.size ≤ 2000000000) (hp : r.pos ≤ s.size) :
  Calls Tryz.prog 36 #[rV s r, .int .i64 (hi : Int)] w fun e w' => e = .returned (.tuple #[.int .i64 ((rdByte s hi r).1 : Int), rV s (rdByte s hi r).2]) ∧ Below w.heap.size w w' := by
 obtain ⟨p, b⟩ := r;by_cases hb : b = 0
 ·subst hb;by_cases hlt : p < s.size
  ·by_cases hh : hi < s[p].toNat
   ·have e : rdByte s hi ⟨p, 0⟩ = (0, ⟨p + 1, 3⟩) := by simp [rdByte, hlt, hh]
    rw [e];exact l3Byte_big s hi p w hs hlt hh
   ·have e : rdByte s hi ⟨p, 0⟩ = (s[p].toNat, ⟨p + 1, 0⟩) := by simp [rdByte, hlt, hh]
    rw [e];exact l3Byte_ok s hi p w hs hlt (by omega)
  ·have e : rdByte s hi ⟨p, 0⟩ = (0, ⟨p, 2⟩) := by simp [rdByte, hlt]
   rw [e];exact l3Byte_short s hi p w hs (by omega) hp
 ·have e : rdByte s hi ⟨p, b⟩ = (0, ⟨p, b⟩) := by simp [rdByte, hb]
  rw [e];exact l3Byte_bad s hi p b w hb
theorem sl_mid (s : ByteArray) (p n : Nat) (wx : World) (hs : s.size ≤ 2000000000) (h : p + n ≤ s.size) : (Instr.slice 9 (.string s) (some (.int .i64 (p : Int))) (some (.int .i64 ((p : Int) + (n : Int)))) none).run Tryz.prog wx = .ok (.string (s.extract p (p + n))) wx := by
 have h1 : ¬ ((p : Int) < 0) := by omega
 have e1 : ((p : Int) + (n : Int)).toNat = p + n := by omega
 simp [Instr.slice, go_sem, e1];omega
theorem l3Bytes_bad (s : ByteArray) (n : Int) (p : Nat) (b : Int) (w : World) (hb : b ≠ 0) :
  Calls Tryz.prog 38 #[.agg #[.string s, .int .i64 (p : Int), .int .i64 b], .int .i64 n] w fun e w' => e = .returned (.tuple #[.string ⟨#[]⟩, .agg #[.string s, .int .i64 (p : Int), .int .i64 b]]) ∧ Below w.heap.size w w' := by
 have hne : (b != 0) = true := by simpa using hb
 go_enter Tryz.func38, Tryz.ntmps38;go_wp2_with fail
 go_region
 go_wp2_with fail;refine bodyPost_ret (v := .tuple #[.string ⟨#[]⟩, .agg #[.string s, .int .i64 (p : Int), .int .i64 b]]) ?_ rfl ⟨rfl, by go_grown⟩;simp [results, Tryz.results38, go_sem]
theorem l3Bytes_short (s : ByteArray) (n : Nat) (p : Nat) (w : World) (hs : s.size ≤ 2000000000) (hp : s.size < p + n) (hp2 : p ≤ s.size) (hn : n ≤ 2000000000) :
  Calls Tryz.prog 38 #[.agg #[.string s, .int .i64 (p : Int), .int .i64 0], .int .i64 (n : Int)] w fun e w' => e = .returned (.tuple #[.string ⟨#[]⟩, .agg #[.string s, .int .i64 (p : Int), .int .i64 2]]) ∧ Below w.heap.size w w' := by
 have hpI : (n : Int) > (s.size : Int) - (p : Int) := by omega
 have hf := fun y => l3Fail_in s ⟨p, 0⟩ 2 y;rw [RS.fail_ok rfl] at hf;unfold rV at hf;replace hf : Hid (∀ y, Calls Tryz.prog 80 #[.agg #[.string s, .int .i64 ((p : Nat) : Int), .int .i64 0], .int .i64 2] y fun e w' => e = .returned (.agg #[.string s, .int .i64 ((p : Nat) : Int), .int .i64 2]) ∧ Below y.heap.size y w') := hf;go_enter Tryz.func38, Tryz.ntmps38;go_wp2_with fail;have Q0 := RowL.new (w.alloc (.cells #[.string s, .int .i64 (p : Int), .int .i64 0] 50)) [.string ⟨#[]⟩, .int .i64 0, .int .i64 0] 50;rw [World.size_alloc] at Q0;have bw : Below w.heap.size w ((w.alloc (.cells #[.string s, .int .i64 (p : Int), .int .i64 0] 50)).alloc (.cells #[.string ⟨#[]⟩, .int .i64 0, .int .i64 0] 50)) := ((Below.refl _ _).alloc (Nat.le_refl _) _).alloc (by rw [World.size_alloc]; omega) _;generalize ((w.alloc (.cells #[.string s, .int .i64 (p : Int), .int .i64 0] 50)).alloc (.cells #[.string ⟨#[]⟩, .int .i64 0, .int .i64 0] 50)) = w2 at Q0 bw ⊢;refine (hf.out w2).mono ?_;rintro e y ⟨rfl, b9⟩;replace Q0 := Q0.call b9;replace bw := bw.trans (b9.mono bw.size);have e0 := Q0.cell 0 rfl;have e1 := Q0.cell 1 rfl;have e2 := Q0.cell 2 rfl;have ef := Q0.frozen;have hq2 := Q0.lt;have L := (((Q0.set 0 (.string s)).set 1 (.int .i64 (p : Int))).set 2 (.int .i64 2));have bf := (Below.setCell (Below.setCell (Below.setCell bw (p := ⟨w.heap.size + 1, 0, none⟩) (Nat.le_succ _) (.string s)) (p := ⟨w.heap.size + 1, 1, none⟩) (Nat.le_succ _) (.int .i64 (p : Int))) (p := ⟨w.heap.size + 1, 2, none⟩) (Nat.le_succ _) (.int .i64 2));have l0 := L.cell 0 rfl;have l1 := L.cell 1 rfl;have l2 := L.cell 2 rfl;replace L : Hid _ := L;replace Q0 : Hid _ := Q0;clear b9 hf;go_wp2_with fail;refine bodyPost_ret (v := .tuple #[.string ⟨#[]⟩, .agg #[.string s, .int .i64 (p : Int), .int .i64 2]]) ?_ rfl ⟨rfl, bf⟩;simp [results, Tryz.results38, go_sem, l0, l1, l2]
theorem l3Bytes_ok (s : ByteArray) (n : Nat) (p : Nat) (w : World) (hs : s.size ≤ 2000000000) (hp : p + n ≤ s.size) :
  Calls Tryz.prog 38 #[.agg #[.string s, .int .i64 (p : Int), .int .i64 0], .int .i64 (n : Int)] w fun e w' => e = .returned (.tuple #[.string (s.extract p (p + n)), .agg #[.string s, .int .i64 ((p : Int) + (n : Int)), .int .i64 0]]) ∧ Below w.heap.size w w' := by
 have hpI : ¬ (n : Int) > (s.size : Int) - (p : Int) := by omega
 go_enter Tryz.func38, Tryz.ntmps38;go_wp2_with fail;have hsl := fun wx => sl_mid s p n wx hs hp
 go_region
 go_wp2_with fail;refine bodyPost_ret (v := .tuple #[.string (s.extract p (p + n)), .agg #[.string s, .int .i64 ((p : Int) + (n : Int)), .int .i64 0]]) ?_ rfl ⟨rfl, by go_grown⟩;simp [results, Tryz.results38, go_sem]
theorem l3Bytes_in (s : ByteArray) (n : Nat) (r : RS) (w : World) (hs : s.size ≤ 2000000000) (hp : r.pos ≤ s.size) (hn : n ≤ 2000000000) :
  Calls Tryz.prog 38 #[rV s r, .int .i64 (n : Int)] w fun e w' => e = .returned (.tuple #[.string (rdBytes s n r).1, rV s (rdBytes s n r).2]) ∧ Below w.heap.size w w' := by
 obtain ⟨p, b⟩ := r;by_cases hb : b = 0
 ·subst hb;by_cases hlt : p + n ≤ s.size
  ·have e : rdBytes s n ⟨p, 0⟩ = (s.extract p (p + n), ⟨p + n, 0⟩) := by simp [rdBytes, hlt]
   rw [e];exact l3Bytes_ok s n p w hs hlt
  ·have e : rdBytes s n ⟨p, 0⟩ = (ByteArray.empty, ⟨p, 2⟩) := by simp [rdBytes, hlt]
   rw [e];exact l3Bytes_short s n p w hs (by omega) hp hn
 ·have e : rdBytes s n ⟨p, b⟩ = (ByteArray.empty, ⟨p, b⟩) := by simp [rdBytes, hb]
  rw [e];exact l3Bytes_bad s n p b w hb
def vrE : Option (Int × Nat) → Value
 | some (n, q) => .tuple #[.int .i64 n, .int .i64 (q : Int), .bool true]
 | none => .tuple #[.int .i64 0, .int .i64 0, .bool false]
structure VrOk (s : ByteArray) (V : Nat → Option (Int × Nat)) : Prop where
 sp : ∀ a, a ≤ s.size → ∀ w, Calls Tryz.prog 81 #[.string s, .int .i64 (a : Int)] w fun e w' => e = .returned (vrE (V a)) ∧ Below w.heap.size w w'
 im : ∀ a, a ≤ s.size → ∀ w, Calls Tryz.prog 122 #[.string s, .int .i64 (a : Int)] w fun e w' => e = .returned (vrE (V a)) ∧ Below w.heap.size w w'
 bd : ∀ a n q, V a = some (n, q) → 0 ≤ n ∧ n ≤ 16777215 ∧ a < q ∧ q ≤ s.size
theorem l3Number_bad (s : ByteArray) (lo hi : Int) (p : Nat) (b : Int) (w : World) (hb : b ≠ 0) :
  Calls Tryz.prog 37 #[.agg #[.string s, .int .i64 (p : Int), .int .i64 b], .int .i64 lo, .int .i64 hi] w fun e w' => e = .returned (.tuple #[.int .i64 0, .agg #[.string s, .int .i64 (p : Int), .int .i64 b]]) ∧ Below w.heap.size w w' := by
 have hne : (b != 0) = true := by simpa using hb
 go_enter Tryz.func37, Tryz.ntmps37;go_wp2_with fail
 go_region
 go_wp2_with fail;refine bodyPost_ret (v := .tuple #[.int .i64 0, .agg #[.string s, .int .i64 (p : Int), .int .i64 b]]) ?_ rfl ⟨rfl, by go_grown⟩;simp [results, Tryz.results37, go_sem]
theorem l3Number_ok (s : ByteArray) (V : Nat → Option (Int × Nat)) (hV : VrOk s V) (lo hi : Int) (p : Nat) (n : Int) (q : Nat) (w : World) (hs : s.size ≤ 2000000000) (hp : p ≤ s.size) (hv : V p = some (n, q)) (hl : lo ≤ n) (hh : n ≤ hi) :
  Calls Tryz.prog 37 #[.agg #[.string s, .int .i64 (p : Int), .int .i64 0], .int .i64 lo, .int .i64 hi] w fun e w' => e = .returned (.tuple #[.int .i64 n, .agg #[.string s, .int .i64 (q : Int), .int .i64 0]]) ∧ Below w.heap.size w w' := by
 have hg : Hid (∀ y, Calls Tryz.prog 81 #[.string s, .int .i64 (p : Int)] y fun e w' => e = .returned (.tuple #[.int .i64 n, .int .i64 (q : Int), .bool true]) ∧ Below y.heap.size y w') := fun y => by have := hV.sp p hp y; rw [hv] at this; exact this
 obtain ⟨n0, n1, q0, q1⟩ := hV.bd p n q hv;clear hV;have hlI : ¬ n < lo := by omega
 have hhI : ¬ n > hi := by omega
 go_enter Tryz.func37, Tryz.ntmps37;go_wp2_with fail;have B0 := (RowL.new w [.string s, .int .i64 (p : Int), .int .i64 0] 50).alloc (.cells #[.string ⟨#[]⟩, .int .i64 0, .int .i64 0] 50);have Q0 := RowL.new (w.alloc (.cells #[.string s, .int .i64 (p : Int), .int .i64 0] 50)) [.string ⟨#[]⟩, .int .i64 0, .int .i64 0] 50;rw [World.size_alloc] at Q0;have bw : Below w.heap.size w ((w.alloc (.cells #[.string s, .int .i64 (p : Int), .int .i64 0] 50)).alloc (.cells #[.string ⟨#[]⟩, .int .i64 0, .int .i64 0] 50)) := ((Below.refl _ _).alloc (Nat.le_refl _) _).alloc (by rw [World.size_alloc]; omega) _;generalize ((w.alloc (.cells #[.string s, .int .i64 (p : Int), .int .i64 0] 50)).alloc (.cells #[.string ⟨#[]⟩, .int .i64 0, .int .i64 0] 50)) = w2 at B0 Q0 bw ⊢;refine (hg.out w2).mono ?_;rintro e y ⟨rfl, b9⟩;replace Q0 := Q0.call b9;replace B0 := B0.call b9;replace bw := bw.trans (b9.mono bw.size);clear b9 hg;have c0 := B0.cell 0 rfl;have c1 := B0.cell 1 rfl;have c2 := B0.cell 2 rfl;have cf := B0.frozen;have hq1 := B0.lt;replace B0 : Hid (RowL y w.heap.size 50 [.string s, .int .i64 (p : Int), .int .i64 0]) := B0;replace Q0 : Hid (RowL y (w.heap.size + 1) 50 [.string ⟨#[]⟩, .int .i64 0, .int .i64 0]) := Q0;go_upto_region 14 with fail;have B1 := B0.out.set 1 (.int .i64 (q : Int));have Q1 := Q0.out.other (a := ⟨w.heap.size, 1, none⟩) (by simp) (.int .i64 (q : Int));have b1 := Below.setCell bw (p := ⟨w.heap.size, 1, none⟩) (Nat.le_refl _) (.int .i64 (q : Int));clear c0 c1 c2 cf hq1 B0 Q0 bw;generalize y.setCell ⟨w.heap.size, 1, none⟩ (.int .i64 (q : Int)) = y2 at B1 Q1 b1 ⊢;have c0 := B1.cell 0 rfl;have c1 := B1.cell 1 rfl;have c2 := B1.cell 2 rfl;have hq1 := B1.lt;have e0 := Q1.cell 0 rfl;have e1 := Q1.cell 1 rfl;have e2 := Q1.cell 2 rfl;have ef := Q1.frozen;have hq2 := Q1.lt
 go_region
 have L := (((Q1.set 0 (.string s)).set 1 (.int .i64 (q : Int))).set 2 (.int .i64 0));have bf := (Below.setCell (Below.setCell (Below.setCell b1 (p := ⟨w.heap.size + 1, 0, none⟩) (Nat.le_succ _) (.string s)) (p := ⟨w.heap.size + 1, 1, none⟩) (Nat.le_succ _) (.int .i64 (q : Int))) (p := ⟨w.heap.size + 1, 2, none⟩) (Nat.le_succ _) (.int .i64 0));replace L := L.call (Below.refl _ _).drew;replace bf := bf.drew;generalize (((y2.setCell ⟨w.heap.size + 1, 0, none⟩ (.string s)).setCell ⟨w.heap.size + 1, 1, none⟩ (.int .i64 (q : Int))).setCell ⟨w.heap.size + 1, 2, none⟩ (.int .i64 0)).drew = y3 at L bf ⊢;have l0 := L.cell 0 rfl;have l1 := L.cell 1 rfl;have l2 := L.cell 2 rfl;clear c0 c1 c2 hq1 e0 e1 e2 ef hq2;go_wp2_with fail;refine bodyPost_ret (v := .tuple #[.int .i64 n, .agg #[.string s, .int .i64 (q : Int), .int .i64 0]]) ?_ rfl ⟨rfl, bf⟩;simp [results, Tryz.results37, go_sem, l0, l1, l2]
theorem l3Number_limit (s : ByteArray) (V : Nat → Option (Int × Nat)) (hV : VrOk s V) (lo hi : Int) (p : Nat) (n : Int) (q : Nat) (w : World) (hs : s.size ≤ 2000000000) (hp : p ≤ s.size) (hv : V p = some (n, q)) (hl : n < lo ∨ hi < n) :
  Calls Tryz.prog 37 #[.agg #[.string s, .int .i64 (p : Int), .int .i64 0], .int .i64 lo, .int .i64 hi] w fun e w' => e = .returned (.tuple #[.int .i64 0, .agg #[.string s, .int .i64 (q : Int), .int .i64 4]]) ∧ Below w.heap.size w w' := by
 have hg : Hid (∀ y, Calls Tryz.prog 81 #[.string s, .int .i64 (p : Int)] y fun e w' => e = .returned (.tuple #[.int .i64 n, .int .i64 (q : Int), .bool true]) ∧ Below y.heap.size y w') := fun y => by have := hV.sp p hp y; rw [hv] at this; exact this
 obtain ⟨n0, n1, q0, q1⟩ := hV.bd p n q hv;clear hV;have hf := fun y => l3Fail_in s ⟨q, 0⟩ 4 y;rw [RS.fail_ok rfl] at hf;unfold rV at hf;replace hf : Hid (∀ y, Calls Tryz.prog 80 #[.agg #[.string s, .int .i64 ((q : Nat) : Int), .int .i64 0], .int .i64 4] y fun e w' => e = .returned (.agg #[.string s, .int .i64 ((q : Nat) : Int), .int .i64 4]) ∧ Below y.heap.size y w') := hf;go_enter Tryz.func37, Tryz.ntmps37;go_wp2_with fail;have B0 := (RowL.new w [.string s, .int .i64 (p : Int), .int .i64 0] 50).alloc (.cells #[.string ⟨#[]⟩, .int .i64 0, .int .i64 0] 50);have Q0 := RowL.new (w.alloc (.cells #[.string s, .int .i64 (p : Int), .int .i64 0] 50)) [.string ⟨#[]⟩, .int .i64 0, .int .i64 0] 50;rw [World.size_alloc] at Q0;have bw : Below w.heap.size w ((w.alloc (.cells #[.string s, .int .i64 (p : Int), .int .i64 0] 50)).alloc (.cells #[.string ⟨#[]⟩, .int .i64 0, .int .i64 0] 50)) := ((Below.refl _ _).alloc (Nat.le_refl _) _).alloc (by rw [World.size_alloc]; omega) _;generalize ((w.alloc (.cells #[.string s, .int .i64 (p : Int), .int .i64 0] 50)).alloc (.cells #[.string ⟨#[]⟩, .int .i64 0, .int .i64 0] 50)) = w2 at B0 Q0 bw ⊢;refine (hg.out w2).mono ?_;rintro e y ⟨rfl, b9⟩;replace Q0 := Q0.call b9;replace B0 := B0.call b9;replace bw := bw.trans (b9.mono bw.size);clear b9 hg;have c0 := B0.cell 0 rfl;have c1 := B0.cell 1 rfl;have c2 := B0.cell 2 rfl;have cf := B0.frozen;have hq1 := B0.lt;replace B0 : Hid (RowL y w.heap.size 50 [.string s, .int .i64 (p : Int), .int .i64 0]) := B0;replace Q0 : Hid (RowL y (w.heap.size + 1) 50 [.string ⟨#[]⟩, .int .i64 0, .int .i64 0]) := Q0;by_cases hlo : n < lo
 focus
  skip
 rotate_left
 focus
  have hhI : n > hi := by omega
 all_goals
  go_upto_region 13 with fail;have B1 := B0.out.set 1 (.int .i64 (q : Int));have Q1 := Q0.out.other (a := ⟨w.heap.size, 1, none⟩) (by simp) (.int .i64 (q : Int));have b1 := Below.setCell bw (p := ⟨w.heap.size, 1, none⟩) (Nat.le_refl _) (.int .i64 (q : Int));clear c0 c1 c2 cf hq1 B0 Q0 bw;generalize y.setCell ⟨w.heap.size, 1, none⟩ (.int .i64 (q : Int)) = y2 at B1 Q1 b1 ⊢;have c0 := B1.cell 0 rfl;have c1 := B1.cell 1 rfl;have c2 := B1.cell 2 rfl;have hq1 := B1.lt;go_wp2_with fail;refine (hf.out y2).mono ?_;rintro e y4 ⟨rfl, b9⟩;replace Q1 := Q1.call b9;replace b1 := b1.trans (b9.mono b1.size);have e0 := Q1.cell 0 rfl;have e1 := Q1.cell 1 rfl;have e2 := Q1.cell 2 rfl;have ef := Q1.frozen;have hq2 := Q1.lt;have L := (((Q1.set 0 (.string s)).set 1 (.int .i64 (q : Int))).set 2 (.int .i64 4));have bf := (Below.setCell (Below.setCell (Below.setCell b1 (p := ⟨w.heap.size + 1, 0, none⟩) (Nat.le_succ _) (.string s)) (p := ⟨w.heap.size + 1, 1, none⟩) (Nat.le_succ _) (.int .i64 (q : Int))) (p := ⟨w.heap.size + 1, 2, none⟩) (Nat.le_succ _) (.int .i64 4));have l0 := L.cell 0 rfl;have l1 := L.cell 1 rfl;have l2 := L.cell 2 rfl;replace L : Hid _ := L;replace Q1 : Hid _ := Q1;clear b9 hf c0 c1 c2 hq1;go_wp2_with fail;refine bodyPost_ret (v := .tuple #[.int .i64 0, .agg #[.string s, .int .i64 (q : Int), .int .i64 4]]) ?_ rfl ⟨rfl, bf⟩;simp [results, Tryz.results37, go_sem, l0, l1, l2]
def Goes (s : ByteArray) (p k : Nat) : Prop := ∀ j, j < k → ∃ h : p + j < s.size, 128 ≤ s[p + j].toNat
theorem Goes.succ {s : ByteArray} {p k : Nat} (h : Goes s p k) (hk : p + k < s.size) (hb : 128 ≤ s[p + k].toNat) : Goes s p (k + 1) := fun j hj => by
 by_cases e : j = k
 ·subst e; exact ⟨hk, hb⟩
 ·exact h j (by omega)
theorem Goes.cut {s : ByteArray} {p k : Nat} (h : Goes s p k) (hp : p ≤ s.size) (h4 : k < 4) (hk : s.size ≤ p + k) : Cut4 s p := by
 refine ⟨by omega, fun j hj hpj => ?_⟩;obtain ⟨h1, h2⟩ := h (j - p) (by omega);have e : p + (j - p) = j := by omega
 simpa only [e] using h2
theorem Goes.nocut {s : ByteArray} {p k : Nat} (h : Goes s p k) (hp : p ≤ s.size) (hk : k = 4 ∨ ∃ h : p + k < s.size, s[p + k].toNat < 128) : ¬ Cut4 s p := by
 rintro ⟨h1, h2⟩;rcases hk with rfl | ⟨h3, h4⟩
 ·obtain ⟨h5, -⟩ := h 3 (by omega);omega
 ·have := h2 (p + k) h3 (by omega);omega
open Classical in
theorem l3Number_none (s : ByteArray) (V : Nat → Option (Int × Nat)) (hV : VrOk s V) (lo hi : Int) (p : Nat) (c : Int) (w : World) (hs : s.size ≤ 2000000000) (hp : p ≤ s.size) (hv : V p = none) (hc : c = if Cut4 s p then 2 else 3) :
  Calls Tryz.prog 37 #[.agg #[.string s, .int .i64 (p : Int), .int .i64 0], .int .i64 lo, .int .i64 hi] w fun e w' => e = .returned (.tuple #[.int .i64 0, .agg #[.string s, .int .i64 (p : Int), .int .i64 c]]) ∧ Below w.heap.size w w' := by
 have hg : Hid (∀ y, Calls Tryz.prog 81 #[.string s, .int .i64 (p : Int)] y fun e w' => e = .returned (.tuple #[.int .i64 0, .int .i64 0, .bool false]) ∧ Below y.heap.size y w') := fun y => by have := hV.sp p hp y; rw [hv] at this; exact this
 clear hV;have h2 := fun y => l3Fail_in s ⟨p, 0⟩ 2 y;rw [RS.fail_ok rfl] at h2;unfold rV at h2;replace h2 : Hid (∀ y, Calls Tryz.prog 80 #[.agg #[.string s, .int .i64 ((p : Nat) : Int), .int .i64 0], .int .i64 2] y fun e w' => e = .returned (.agg #[.string s, .int .i64 ((p : Nat) : Int), .int .i64 2]) ∧ Below y.heap.size y w') := h2;have h3 := fun y => l3Fail_in s ⟨p, 0⟩ 3 y;rw [RS.fail_ok rfl] at h3;unfold rV at h3;replace h3 : Hid (∀ y, Calls Tryz.prog 80 #[.agg #[.string s, .int .i64 ((p : Nat) : Int), .int .i64 0], .int .i64 3] y fun e w' => e = .returned (.agg #[.string s, .int .i64 ((p : Nat) : Int), .int .i64 3]) ∧ Below y.heap.size y w') := h3;go_enter Tryz.func37, Tryz.ntmps37;go_wp2_with fail;have B0 := (RowL.new w [.string s, .int .i64 (p : Int), .int .i64 0] 50).alloc (.cells #[.string ⟨#[]⟩, .int .i64 0, .int .i64 0] 50);have Q0 := RowL.new (w.alloc (.cells #[.string s, .int .i64 (p : Int), .int .i64 0] 50)) [.string ⟨#[]⟩, .int .i64 0, .int .i64 0] 50;rw [World.size_alloc] at Q0;have bw : Below w.heap.size w ((w.alloc (.cells #[.string s, .int .i64 (p : Int), .int .i64 0] 50)).alloc (.cells #[.string ⟨#[]⟩, .int .i64 0, .int .i64 0] 50)) := ((Below.refl _ _).alloc (Nat.le_refl _) _).alloc (by rw [World.size_alloc]; omega) _;generalize ((w.alloc (.cells #[.string s, .int .i64 (p : Int), .int .i64 0] 50)).alloc (.cells #[.string ⟨#[]⟩, .int .i64 0, .int .i64 0] 50)) = w2 at B0 Q0 bw ⊢;refine (hg.out w2).mono ?_;rintro e y ⟨rfl, b9⟩;replace Q0 := Q0.call b9;replace B0 := B0.call b9;replace bw := bw.trans (b9.mono bw.size);clear b9 hg;have c0 := B0.cell 0 rfl;have c1 := B0.cell 1 rfl;have c2 := B0.cell 2 rfl;have cf := B0.frozen;have hq1 := B0.lt;replace B0 : Hid (RowL y w.heap.size 50 [.string s, .int .i64 (p : Int), .int .i64 0]) := B0;replace Q0 : Hid (RowL y (w.heap.size + 1) 50 [.string ⟨#[]⟩, .int .i64 0, .int .i64 0]) := Q0;go_wp2_with fail;go_loopw [11] (fun kv wr => ∃ k : Nat, kv = .int .i64 (k : Int) ∧ k ≤ 4 ∧ Hid (Goes s p k) ∧ wr = y) (fun kv _ => 4 - (intOf kv).toNat);case atStart => exact ⟨0, rfl, by omega, fun j h => absurd h (by omega), rfl⟩
 case round =>
  obtain ⟨k, rfl, hk, hG, rfl⟩ := hrel;by_cases hlt : p + k < s.size
  ·have hltI : (p : Int) + (k : Int) < (s.size : Int) := by omega
   by_cases hk4 : k < 4
   ·have hk4I : (k : Int) < 4 := by omega
    by_cases hb : 128 ≤ s[p + k].toNat
    ·have hbI : ((s[p + k].toNat : Nat) : Int) ≥ 128 := by omega
     have hG2 : Hid (Goes s p (k + 1)) := hG.out.succ hlt hb;go_wp2_with fail;go_roundw;case rel => exact ⟨k + 1, by go_num, by omega, hG2, by first | rfl | trivial⟩
     case measure => simp [intOf]; omega
    ·have hbI : ¬ ((s[p + k].toNat : Nat) : Int) ≥ 128 := by omega
     have hno : ¬ Cut4 s p := hG.out.nocut hp (.inr ⟨hlt, by omega⟩);rw [if_neg hno] at hc;subst hc;have hf := h3;clear h2 h3 hno;go_wp2_with fail;refine (hf.out _).mono ?_;rintro e y4 ⟨rfl, b9⟩;replace Q0 := Q0.out.call b9;replace bw := bw.trans (b9.mono bw.size);have e0 := Q0.cell 0 rfl;have e1 := Q0.cell 1 rfl;have e2 := Q0.cell 2 rfl;have ef := Q0.frozen;have hq2 := Q0.lt;have L := (((Q0.set 0 (.string s)).set 1 (.int .i64 (p : Int))).set 2 (.int .i64 3));have bf := (Below.setCell (Below.setCell (Below.setCell bw (p := ⟨w.heap.size + 1, 0, none⟩) (Nat.le_succ _) (.string s)) (p := ⟨w.heap.size + 1, 1, none⟩) (Nat.le_succ _) (.int .i64 (p : Int))) (p := ⟨w.heap.size + 1, 2, none⟩) (Nat.le_succ _) (.int .i64 3));have l0 := L.cell 0 rfl;have l1 := L.cell 1 rfl;have l2 := L.cell 2 rfl;replace L : Hid _ := L;replace Q0 : Hid _ := Q0;clear b9 hf c0 c1 c2 hq1;go_wp2_with fail;refine bodyPost_ret (v := .tuple #[.int .i64 0, .agg #[.string s, .int .i64 (p : Int), .int .i64 3]]) ?_ rfl ⟨rfl, bf⟩;simp [results, Tryz.results37, go_sem, l0, l1, l2]
   ·have hk4I : ¬ (k : Int) < 4 := by omega
    have hno : ¬ Cut4 s p := hG.out.nocut hp (.inl (by omega));rw [if_neg hno] at hc;subst hc;have hf := h3;clear h2 h3 hno;go_wp2_with fail;refine (hf.out _).mono ?_;rintro e y4 ⟨rfl, b9⟩;replace Q0 := Q0.out.call b9;replace bw := bw.trans (b9.mono bw.size);have e0 := Q0.cell 0 rfl;have e1 := Q0.cell 1 rfl;have e2 := Q0.cell 2 rfl;have ef := Q0.frozen;have hq2 := Q0.lt;have L := (((Q0.set 0 (.string s)).set 1 (.int .i64 (p : Int))).set 2 (.int .i64 3));have bf := (Below.setCell (Below.setCell (Below.setCell bw (p := ⟨w.heap.size + 1, 0, none⟩) (Nat.le_succ _) (.string s)) (p := ⟨w.heap.size + 1, 1, none⟩) (Nat.le_succ _) (.int .i64 (p : Int))) (p := ⟨w.heap.size + 1, 2, none⟩) (Nat.le_succ _) (.int .i64 3));have l0 := L.cell 0 rfl;have l1 := L.cell 1 rfl;have l2 := L.cell 2 rfl;replace L : Hid _ := L;replace Q0 : Hid _ := Q0;clear b9 hf c0 c1 c2 hq1;go_wp2_with fail;refine bodyPost_ret (v := .tuple #[.int .i64 0, .agg #[.string s, .int .i64 (p : Int), .int .i64 3]]) ?_ rfl ⟨rfl, bf⟩;simp [results, Tryz.results37, go_sem, l0, l1, l2]
  ·have hltI : ¬ (p : Int) + (k : Int) < (s.size : Int) := by omega
   have hk4 : k < 4 ∨ k = 4 := by omega
   rcases hk4 with hk4 | hk4
   ·have hk4I : (k : Int) < 4 := by omega
    have hltJ : (p : Int) + (k : Int) ≥ (s.size : Int) := by omega
    have hyes : Cut4 s p := hG.out.cut hp hk4 (by omega);rw [if_pos hyes] at hc;subst hc;have hf := h2;clear h2 h3 hyes;go_wp2_with fail;refine (hf.out _).mono ?_;rintro e y4 ⟨rfl, b9⟩;replace Q0 := Q0.out.call b9;replace bw := bw.trans (b9.mono bw.size);have e0 := Q0.cell 0 rfl;have e1 := Q0.cell 1 rfl;have e2 := Q0.cell 2 rfl;have ef := Q0.frozen;have hq2 := Q0.lt;have L := (((Q0.set 0 (.string s)).set 1 (.int .i64 (p : Int))).set 2 (.int .i64 2));have bf := (Below.setCell (Below.setCell (Below.setCell bw (p := ⟨w.heap.size + 1, 0, none⟩) (Nat.le_succ _) (.string s)) (p := ⟨w.heap.size + 1, 1, none⟩) (Nat.le_succ _) (.int .i64 (p : Int))) (p := ⟨w.heap.size + 1, 2, none⟩) (Nat.le_succ _) (.int .i64 2));have l0 := L.cell 0 rfl;have l1 := L.cell 1 rfl;have l2 := L.cell 2 rfl;replace L : Hid _ := L;replace Q0 : Hid _ := Q0;clear b9 hf c0 c1 c2 hq1;go_wp2_with fail;refine bodyPost_ret (v := .tuple #[.int .i64 0, .agg #[.string s, .int .i64 (p : Int), .int .i64 2]]) ?_ rfl ⟨rfl, bf⟩;simp [results, Tryz.results37, go_sem, l0, l1, l2]
   ·have hk4I : ¬ (k : Int) < 4 := by omega
    have hno : ¬ Cut4 s p := hG.out.nocut hp (.inl hk4);rw [if_neg hno] at hc;subst hc;have hf := h3;clear h2 h3 hno;go_wp2_with fail;refine (hf.out _).mono ?_;rintro e y4 ⟨rfl, b9⟩;replace Q0 := Q0.out.call b9;replace bw := bw.trans (b9.mono bw.size);have e0 := Q0.cell 0 rfl;have e1 := Q0.cell 1 rfl;have e2 := Q0.cell 2 rfl;have ef := Q0.frozen;have hq2 := Q0.lt;have L := (((Q0.set 0 (.string s)).set 1 (.int .i64 (p : Int))).set 2 (.int .i64 3));have bf := (Below.setCell (Below.setCell (Below.setCell bw (p := ⟨w.heap.size + 1, 0, none⟩) (Nat.le_succ _) (.string s)) (p := ⟨w.heap.size + 1, 1, none⟩) (Nat.le_succ _) (.int .i64 (p : Int))) (p := ⟨w.heap.size + 1, 2, none⟩) (Nat.le_succ _) (.int .i64 3));have l0 := L.cell 0 rfl;have l1 := L.cell 1 rfl;have l2 := L.cell 2 rfl;replace L : Hid _ := L;replace Q0 : Hid _ := Q0;clear b9 hf c0 c1 c2 hq1;go_wp2_with fail;refine bodyPost_ret (v := .tuple #[.int .i64 0, .agg #[.string s, .int .i64 (p : Int), .int .i64 3]]) ?_ rfl ⟨rfl, bf⟩;simp [results, Tryz.results37, go_sem, l0, l1, l2]
open Classical in
theorem l3Number_in (s : ByteArray) (V : Nat → Option (Int × Nat)) (hV : VrOk s V) (lo hi : Int) (r : RS) (w : World) (hs : s.size ≤ 2000000000) (hp : r.pos ≤ s.size) :
  Calls Tryz.prog 37 #[rV s r, .int .i64 lo, .int .i64 hi] w fun e w' => e = .returned (.tuple #[.int .i64 (rdNum s V lo hi r).1, rV s (rdNum s V lo hi r).2]) ∧ Below w.heap.size w w' := by
 obtain ⟨p, b⟩ := r;by_cases hb : b = 0
 ·subst hb
  cases hv : V p with
  | none =>
   have e : rdNum s V lo hi ⟨p, 0⟩ = (0, ⟨p, if Cut4 s p then 2 else 3⟩) := by
    have hne : (if Cut4 s p then (2 : Int) else 3) ≠ 0 := by split <;> decide
    simp [rdNum, rdAny, hv, hne]
   rw [e];exact l3Number_none s V hV lo hi p _ w hs hp hv rfl
  | some x =>
   obtain ⟨n, q⟩ := x;by_cases hl : n < lo ∨ hi < n
   ·have e : rdNum s V lo hi ⟨p, 0⟩ = (0, ⟨q, 4⟩) := by simp [rdNum, rdAny, hv, hl]
    rw [e];exact l3Number_limit s V hV lo hi p n q w hs hp hv hl
   ·have e : rdNum s V lo hi ⟨p, 0⟩ = (n, ⟨q, 0⟩) := by simp [rdNum, rdAny, hv, hl]
    rw [e];exact l3Number_ok s V hV lo hi p n q w hs hp hv (by omega) (by omega)
 ·have e : rdNum s V lo hi ⟨p, b⟩ = (0, ⟨p, b⟩) := by simp [rdNum, rdAny, hb]
  rw [e];exact l3Number_bad s lo hi p b w hb
theorem rdAny_pos {s : ByteArray} {V : Nat → Option (Int × Nat)} (hV : VrOk s V) {r : RS} (hp : r.pos ≤ s.size) : (rdAny s V r).2.pos ≤ s.size := by
 unfold rdAny;split
 ·exact hp
 ·split
  ·rename_i n q h;exact (hV.bd _ _ _ h).2.2.2
  ·exact hp
theorem rdNum_pos {s : ByteArray} {V : Nat → Option (Int × Nat)} (hV : VrOk s V) {lo hi : Int} {r : RS} (hp : r.pos ≤ s.size) : (rdNum s V lo hi r).2.pos ≤ s.size := by
 have h := rdAny_pos hV hp;unfold rdNum;dsimp only;split
 ·exact h
 ·split
  ·exact h
  ·exact h
theorem rdNum_bd {s : ByteArray} {V : Nat → Option (Int × Nat)} {lo hi : Int} (r : RS) (h0 : 0 ≤ lo) (h1 : 0 ≤ hi) : 0 ≤ (rdNum s V lo hi r).1 ∧ (rdNum s V lo hi r).1 ≤ hi := by
 unfold rdNum;dsimp only;split
 ·exact ⟨Int.le_refl _, h1⟩
 ·split
  ·exact ⟨Int.le_refl _, h1⟩
  ·omega
theorem rdByte_pos {s : ByteArray} {hi : Nat} {r : RS} (hp : r.pos ≤ s.size) : (rdByte s hi r).2.pos ≤ s.size := by
 unfold rdByte;split
 ·exact hp
 ·split
  ·split <;> (dsimp only; omega)
  ·exact hp
theorem rdByte_bd (s : ByteArray) (hi : Nat) (r : RS) : (rdByte s hi r).1 ≤ hi := by
 unfold rdByte;split
 ·exact Nat.zero_le _
 ·split
  ·split
   ·exact Nat.zero_le _
   ·dsimp only; omega
  ·exact Nat.zero_le _
theorem rdBytes_pos {s : ByteArray} {n : Nat} {r : RS} (hp : r.pos ≤ s.size) : (rdBytes s n r).2.pos ≤ s.size := by
 unfold rdBytes;split
 ·exact hp
 ·split
  ·dsimp only; omega
  ·exact hp
theorem rdBytes_size (s : ByteArray) (n : Nat) (r : RS) : (rdBytes s n r).1.size ≤ s.size := by
 unfold rdBytes;split
 ·exact Nat.zero_le _
 ·split
  ·rw [ByteArray.size_extract]; omega
  ·exact Nat.zero_le _
theorem rdText_pos {s : ByteArray} {V : Nat → Option (Int × Nat)} (hV : VrOk s V) {r : RS} (hp : r.pos ≤ s.size) : (rdText s V r).2.pos ≤ s.size := rdBytes_pos (rdNum_pos hV hp)
theorem l3Text_in (s : ByteArray) (V : Nat → Option (Int × Nat)) (hV : VrOk s V) (r : RS) (w : World) (hs : s.size ≤ 2000000000) (hp : r.pos ≤ s.size) :
  Calls Tryz.prog 83 #[rV s r] w fun e w' => e = .returned (.tuple #[.string (rdText s V r).1, rV s (rdText s V r).2]) ∧ Below w.heap.size w w' := by
 have hn : Hid (∀ y, Calls Tryz.prog 37 #[rV s r, .int .i64 0, .int .i64 1000] y fun e w' => e = .returned (.tuple #[.int .i64 (rdNum s V 0 1000 r).1, rV s (rdNum s V 0 1000 r).2]) ∧ Below y.heap.size y w') := fun y => l3Number_in s V hV 0 1000 r y hs hp;have hp2 := rdNum_pos (lo := 0) (hi := 1000) hV hp;have hbd := rdNum_bd (s := s) (V := V) (lo := 0) (hi := 1000) r (by decide) (by decide);unfold rdText;dsimp only;generalize rdNum s V 0 1000 r = x at hn hp2 hbd ⊢;obtain ⟨n, r1⟩ := x;dsimp only at hn hp2 hbd ⊢;obtain ⟨k, rfl⟩ : ∃ k : Nat, n = (k : Int) := ⟨n.toNat, by omega⟩;rw [Int.toNat_natCast];have hb : Hid (∀ y, Calls Tryz.prog 38 #[rV s r1, .int .i64 (k : Int)] y fun e w' => e = .returned (.tuple #[.string (rdBytes s k r1).1, rV s (rdBytes s k r1).2]) ∧ Below y.heap.size y w') := fun y => l3Bytes_in s k r1 y hs hp2 (by omega);generalize rdBytes s k r1 = z at hb ⊢;obtain ⟨t, r2⟩ := z;dsimp only at hb ⊢;clear hV hp2 hbd hp;unfold rV at hn hb ⊢;go_enter Tryz.func83, Tryz.ntmps83;go_wp2_with fail;have B0 := (RowL.new w [.string s, .int .i64 (r.pos : Int), .int .i64 r.bad] 50).alloc (.cells #[.string ⟨#[]⟩, .int .i64 0, .int .i64 0] 50);have Q0 := RowL.new (w.alloc (.cells #[.string s, .int .i64 (r.pos : Int), .int .i64 r.bad] 50)) [.string ⟨#[]⟩, .int .i64 0, .int .i64 0] 50;rw [World.size_alloc] at Q0;have bw : Below w.heap.size w ((w.alloc (.cells #[.string s, .int .i64 (r.pos : Int), .int .i64 r.bad] 50)).alloc (.cells #[.string ⟨#[]⟩, .int .i64 0, .int .i64 0] 50)) := ((Below.refl _ _).alloc (Nat.le_refl _) _).alloc (by rw [World.size_alloc]; omega) _;generalize ((w.alloc (.cells #[.string s, .int .i64 (r.pos : Int), .int .i64 r.bad] 50)).alloc (.cells #[.string ⟨#[]⟩, .int .i64 0, .int .i64 0] 50)) = w2 at B0 Q0 bw ⊢;refine Calls.mono (hn.out w2) ?_;rintro e y ⟨rfl, b9⟩;replace Q0 := Q0.call b9;replace bw := bw.trans (b9.mono bw.size);clear b9 hn B0;replace Q0 : Hid (RowL y (w.heap.size + 1) 50 [.string ⟨#[]⟩, .int .i64 0, .int .i64 0]) := Q0;go_wp2_with fail;have b5 : Below y.heap.size y (y.alloc (.cells #[.string s, .int .i64 (r1.pos : Int), .int .i64 r1.bad] 50)) := (Below.refl _ _).alloc (Nat.le_refl _) _;replace Q0 := Q0.out.call b5;replace bw := bw.trans (b5.mono bw.size);generalize y.alloc (.cells #[.string s, .int .i64 (r1.pos : Int), .int .i64 r1.bad] 50) = y1 at Q0 bw ⊢;refine Calls.mono (hb.out y1) ?_;rintro e y2 ⟨rfl, b9⟩;replace Q0 := Q0.call b9;replace bw := bw.trans (b9.mono bw.size);clear b9 hb b5;have e0 := Q0.cell 0 rfl;have e1 := Q0.cell 1 rfl;have e2 := Q0.cell 2 rfl;have ef := Q0.frozen;have hq2 := Q0.lt;have L := (((Q0.set 0 (.string s)).set 1 (.int .i64 (r2.pos : Int))).set 2 (.int .i64 r2.bad));have bf := (Below.setCell (Below.setCell (Below.setCell bw (p := ⟨w.heap.size + 1, 0, none⟩) (Nat.le_succ _) (.string s)) (p := ⟨w.heap.size + 1, 1, none⟩) (Nat.le_succ _) (.int .i64 (r2.pos : Int))) (p := ⟨w.heap.size + 1, 2, none⟩) (Nat.le_succ _) (.int .i64 r2.bad));have l0 := L.cell 0 rfl;have l1 := L.cell 1 rfl;have l2 := L.cell 2 rfl;replace L : Hid _ := L;replace Q0 : Hid _ := Q0;go_wp2_with fail;refine bodyPost_ret (v := .tuple #[.string t, .agg #[.string s, .int .i64 (r2.pos : Int), .int .i64 r2.bad]]) ?_ rfl ⟨rfl, bf⟩;simp [results, Tryz.results83, go_sem, l0, l1, l2]
end Go.Proofs.YtnhanccjnhgjoaaGreatDoor
namespace Go.Proofs.YtnhanccjnhgjoaaGreatDoor
open Go.RowKit
set_option linter.unusedVariables false
set_option maxRecDepth 100000
set_option maxHeartbeats 9000000
theorem ret_int {k : IntKind} {a b : Int} (h : a = b) : Ending.returned (.int k a) = .returned (.int k b) := by rw [h]
theorem ret_iib {k l : IntKind} {a b a' b' : Int} {c : Bool} (h : a = a') (g : b = b') : Ending.returned (.tuple #[.int k a, .int l b, .bool c]) = .returned (.tuple #[.int k a', .int l b', .bool c]) := by rw [h, g]
theorem or2 (i : Nat) (x y : Nat) (hx : x < 2 ^ i) (hy : y % 2 ^ i = 0) : x ||| y = x + y := by
 rw [Nat.or_comm, nat_join i y x hy hx, Nat.add_comm]
theorem or4 (x0 x1 x2 x3 : Nat) (h0 : x0 < 256) (h1 : x1 < 256) (h2 : x2 < 256) (h3 : x3 < 256) :
  bits .or .u32 (bits .or .u32 (bits .or .u32 (bits .or .u32 0 ((x0 : Int) % 4294967296)) ((x1 : Int) % 4294967296 * 256 % 4294967296)) ((x2 : Int) % 4294967296 * 65536 % 4294967296)) ((x3 : Int) % 4294967296 * 16777216 % 4294967296)
   = ((x0 + 256 * x1 + 65536 * x2 + 16777216 * x3 : Nat) : Int) := by
 have e0 : (x0 : Int) % 4294967296 = ((x0 : Nat) : Int) := by omega
 have e1 : (x1 : Int) % 4294967296 * 256 % 4294967296 = ((256 * x1 : Nat) : Int) := by omega
 have e2 : (x2 : Int) % 4294967296 * 65536 % 4294967296 = ((65536 * x2 : Nat) : Int) := by omega
 have e3 : (x3 : Int) % 4294967296 * 16777216 % 4294967296 = ((16777216 * x3 : Nat) : Int) := by omega
 rw [e0, e1, e2, e3, show (0 : Int) = ((0 : Nat) : Int) from rfl, u32_or_nat 0 x0 (by omega) (by omega), Nat.zero_or, u32_or_nat _ _ (by omega) (by omega), or2 8 _ _ (by omega) (by omega),
  u32_or_nat _ _ (by omega) (by omega), or2 16 _ _ (by omega) (by omega), u32_or_nat _ _ (by omega) (by omega), or2 24 _ _ (by omega) (by omega)]
def le4 (s : ByteArray) (a : Nat) : Nat := (s.get! a).toNat + 256 * (s.get! (a + 1)).toNat + 65536 * (s.get! (a + 2)).toNat + 16777216 * (s.get! (a + 3)).toNat
def le8 (s : ByteArray) (a : Nat) : Nat := le4 s a + 4294967296 * le4 s (a + 4)
theorem u8lt (x : UInt8) : x.toNat < 256 := x.toNat_lt
theorem le4_lt (s : ByteArray) (a : Nat) : le4 s a < 4294967296 := by
 unfold le4;have := u8lt (s.get! a); have := u8lt (s.get! (a + 1)); have := u8lt (s.get! (a + 2)); have := u8lt (s.get! (a + 3));omega
theorem get_bang (s : ByteArray) (i : Nat) (h : i < s.size) : s[i] = s.get! i := by
 simp [ByteArray.get!, ByteArray.getElem_eq_getElem_data, h]
theorem u64_nat (n : Nat) (h : n < 18446744073709551616) : IntKind.u64.wrap (n : Int) = (n : Int) := by
 rw [IntKind.wrap_u64]; omega
theorem hstep (u x : Nat) (hu : u < 72057594037927936) (hx : x < 256) : IntKind.u64.wrap (IntKind.u64.wrap ((u : Int) * 256) + IntKind.u64.wrap (x : Int)) = ((u * 256 + x : Nat) : Int) := by
 simp only [IntKind.wrap_u64]; omega
theorem h8 (x0 x1 x2 x3 x4 x5 x6 x7 : Nat) (h0 : x0 < 256) (h1 : x1 < 256) (h2 : x2 < 256) (h3 : x3 < 256) (h4 : x4 < 256) (h5 : x5 < 256) (h6 : x6 < 256) (h7 : x7 < 256) :
  IntKind.u64.wrap (IntKind.u64.wrap (IntKind.u64.wrap (IntKind.u64.wrap (IntKind.u64.wrap (IntKind.u64.wrap (IntKind.u64.wrap (IntKind.u64.wrap (IntKind.u64.wrap (IntKind.u64.wrap (IntKind.u64.wrap (IntKind.u64.wrap
   (IntKind.u64.wrap (IntKind.u64.wrap (IntKind.u64.wrap (IntKind.u64.wrap (x7 : Int)) * 256) + IntKind.u64.wrap (x6 : Int)) * 256) + IntKind.u64.wrap (x5 : Int)) * 256) + IntKind.u64.wrap (x4 : Int)) * 256)
   + IntKind.u64.wrap (x3 : Int)) * 256) + IntKind.u64.wrap (x2 : Int)) * 256) + IntKind.u64.wrap (x1 : Int)) * 256) + IntKind.u64.wrap (x0 : Int))
  = ((x0 + 256 * x1 + 65536 * x2 + 16777216 * x3 + 4294967296 * (x4 + 256 * x5 + 65536 * x6 + 16777216 * x7) : Nat) : Int) := by
 rw [u64_nat x7 (by omega), u64_nat x7 (by omega), hstep _ _ (by omega) h6, hstep _ _ (by omega) h5, hstep _ _ (by omega) h4, hstep _ _ (by omega) h3, hstep _ _ (by omega) h2, hstep _ _ (by omega) h1, hstep _ _ (by omega) h0]
 congr 1; omega
theorem wordAt_any (s : ByteArray) (a : Nat) (h : a + 4 ≤ s.size) (hs : s.size ≤ maxLen) (w : World) :
  Calls Tryz.prog 116 #[.string s, .int .i64 a] w fun e w' => e = .returned (.int .u32 (le4 s a)) ∧ w' = w := by
 unfold maxLen at hs;go_enter Tryz.func116, Tryz.ntmps116
 go_wp2
 go_rounds 5
 go_ret;refine ⟨ret_int ?_, rfl⟩;rw [or4 _ _ _ _ (u8lt _) (u8lt _) (u8lt _) (u8lt _)];simp only [le4, get_bang]
theorem specGetInt_yes (s : ByteArray) (a : Nat) (h : a + 8 ≤ s.size) (hs : s.size ≤ maxLen) (w : World) :
  Calls Tryz.prog 82 #[.string s, .int .i64 a] w fun e w' => e = .returned (.tuple #[.int .i64 (wrap64 (le8 s a)), .int .i64 (a + 8), .bool true]) ∧ w' = w := by
 unfold maxLen at hs;go_enter Tryz.func82, Tryz.ntmps82
 go_wp2
 go_rounds 9
 go_ret3
 refine ⟨ret_iib ?_ rfl, rfl⟩;rw [h8 _ _ _ _ _ _ _ _ (u8lt _) (u8lt _) (u8lt _) (u8lt _) (u8lt _) (u8lt _) (u8lt _) (u8lt _)];simp only [le8, le4, get_bang, Nat.add_assoc]
theorem wordAt_int (s : ByteArray) (z : Int) (h0 : 0 ≤ z) (h : z + 4 ≤ s.size) (hs : s.size ≤ maxLen) (w : World) :
  Calls Tryz.prog 116 #[.string s, .int .i64 z] w fun e w' => e = .returned (.int .u32 (le4 s z.toNat)) ∧ w' = w := by
 obtain ⟨a, rfl⟩ := Int.eq_ofNat_of_zero_le h0;exact wordAt_any s a (by omega) hs w
theorem or64 (s : ByteArray) (a : Nat) (hl : le4 s a < 4294967296) (hl2 : le4 s (a + 4) < 4294967296) : bits BinOp.or IntKind.u64 ((le4 s (a + 4) : Int) * 4294967296) (le4 s a : Int) = ((le8 s a : Nat) : Int) := by
 unfold le8;generalize le4 s a = x at *;generalize le4 s (a + 4) = y at *;rw [show (y : Int) * 4294967296 = ((y * 4294967296 : Nat) : Int) from by omega, u64_or_nat _ _ (by omega) (by omega), nat_join 32 _ _ (by omega) (by omega)]
 congr 1; omega
theorem implGetInt_yes (s : ByteArray) (a : Nat) (h : a + 8 ≤ s.size) (hs : s.size ≤ maxLen) (w : World) :
  Calls Tryz.prog 117 #[.string s, .int .i64 a] w fun e w' => e = .returned (.tuple #[.int .i64 (wrap64 (le8 s a)), .int .i64 (a + 8), .bool true]) ∧ w' = w := by
 have hs' := hs;unfold maxLen at hs;have hl := le4_lt s a;have hl2 := le4_lt s (a + 4);go_enter Tryz.func117, Tryz.ntmps117;go_wp2_with fail;refine (wordAt_int s _ (by omega) (by omega) hs' _).mono ?_;rintro e w' ⟨rfl, rfl⟩;go_wp2_with fail;refine (wordAt_int s _ (by omega) (by omega) hs' _).mono ?_;rintro e w' ⟨rfl, rfl⟩;rw [show ((a : Int) + 4).toNat = a + 4 from by omega];go_wp2_with fail
 go_ret3
 refine ⟨ret_iib ?_ rfl, rfl⟩;rw [or64 _ _ hl hl2]
def noInt (s : ByteArray) (z : Int) : Prop := z < 0 ∨ (s.size : Int) < z ∨ (s.size : Int) - z < 8
theorem specGetInt_no (s : ByteArray) (z : Int) (hz : -9223372036854775808 ≤ z) (hn : noInt s z) (hs : s.size ≤ maxLen) (w : World) :
  Calls Tryz.prog 82 #[.string s, .int .i64 z] w fun e w' => e = .returned (.tuple #[.int .i64 0, .int .i64 0, .bool false]) ∧ w' = w := by
 unfold maxLen at hs;unfold noInt at hn;by_cases h1 : z < 0
 ·go_enter Tryz.func82, Tryz.ntmps82
  go_wp2
  go_ret3
  exact ⟨rfl, rfl⟩
 ·by_cases h2 : (s.size : Int) < z
  ·go_enter Tryz.func82, Tryz.ntmps82
   go_wp2
   go_ret3
   exact ⟨rfl, rfl⟩
  ·have h3 : (s.size : Int) - z < 8 := by omega
   go_enter Tryz.func82, Tryz.ntmps82
   go_wp2
   go_ret3
   exact ⟨rfl, rfl⟩
theorem implGetInt_no (s : ByteArray) (z : Int) (hz : -9223372036854775808 ≤ z) (hn : noInt s z) (hs : s.size ≤ maxLen) (w : World) :
  Calls Tryz.prog 117 #[.string s, .int .i64 z] w fun e w' => e = .returned (.tuple #[.int .i64 0, .int .i64 0, .bool false]) ∧ w' = w := by
 unfold maxLen at hs;unfold noInt at hn;by_cases h1 : z < 0
 ·go_enter Tryz.func117, Tryz.ntmps117
  go_wp2
  go_ret3
  exact ⟨rfl, rfl⟩
 ·by_cases h2 : (s.size : Int) < z
  ·go_enter Tryz.func117, Tryz.ntmps117
   go_wp2
   go_ret3
   exact ⟨rfl, rfl⟩
  ·have h3 : (s.size : Int) - z < 8 := by omega
   go_enter Tryz.func117, Tryz.ntmps117
   go_wp2
   go_ret3
   exact ⟨rfl, rfl⟩
def gi0 (t : ByteArray) : Int := if 8 ≤ t.size then wrap64 (le8 t 0) else 0
theorem spec_gi (t : ByteArray) (ht : t.size ≤ 2000000000) : ∃ (q : Int) (b : Bool), ∀ w, Calls Tryz.prog 82 #[.string t, .int .i64 0] w fun e w' => e = .returned (.tuple #[.int .i64 (gi0 t), .int .i64 q, .bool b]) ∧ Below w.heap.size w w' := by
 have hm : t.size ≤ maxLen := by unfold maxLen; omega
 by_cases h : 8 ≤ t.size
 ·refine ⟨((0 : Nat) : Int) + 8, true, fun w => (specGetInt_yes t 0 (by omega) hm w).mono fun e w' ⟨he, hw⟩ => ?_⟩;subst hw;rw [he, gi0, if_pos h];exact ⟨rfl, Below.refl _ _⟩
 ·refine ⟨0, false, fun w => (specGetInt_no t 0 (by decide) (.inr (.inr (by omega))) hm w).mono fun e w' ⟨he, hw⟩ => ?_⟩;subst hw;rw [he, gi0, if_neg h];exact ⟨rfl, Below.refl _ _⟩
theorem impl_gi (t : ByteArray) (ht : t.size ≤ 2000000000) : ∃ (q : Int) (b : Bool), ∀ w, Calls Tryz.prog 117 #[.string t, .int .i64 0] w fun e w' => e = .returned (.tuple #[.int .i64 (gi0 t), .int .i64 q, .bool b]) ∧ Below w.heap.size w w' := by
 have hm : t.size ≤ maxLen := by unfold maxLen; omega
 by_cases h : 8 ≤ t.size
 ·refine ⟨((0 : Nat) : Int) + 8, true, fun w => (implGetInt_yes t 0 (by omega) hm w).mono fun e w' ⟨he, hw⟩ => ?_⟩;subst hw;rw [he, gi0, if_pos h];exact ⟨rfl, Below.refl _ _⟩
 ·refine ⟨0, false, fun w => (implGetInt_no t 0 (by decide) (.inr (.inr (by omega))) hm w).mono fun e w' ⟨he, hw⟩ => ?_⟩;subst hw;rw [he, gi0, if_neg h];exact ⟨rfl, Below.refl _ _⟩
end Go.Proofs.YtnhanccjnhgjoaaGreatDoor

import Derived.Test.YtplijnfaiofckaaGreatDoorGj
namespace Go.Proofs.YtplijnfaiofckaaGreatDoor
open Go.RowKit
set_option linter.unusedVariables false
set_option linter.unusedSimpArgs false
theorem qh7 (n a b : Int) (w : World) : Calls Tryz.prog 28 #[.int .i64 n, .int .i64 a, .int .i64 b] w fun e w' => Says e (a ≤ n ∧ n ≤ b) ∧ w = w' := by
 by_cases h1 : a ≤ n
 ·by_cases h2 : n ≤ b
  ·go_enter Tryz.func28, Tryz.ntmps28;go_wp2_with fail;go_ret;exact ⟨Says.yes (by first | rfl | (simp; omega)) ⟨h1, h2⟩, rfl⟩
  ·go_enter Tryz.func28, Tryz.ntmps28;go_wp2_with fail;go_ret;exact ⟨Says.no (by first | rfl | (simp; omega)) (by omega), rfl⟩
 ·go_enter Tryz.func28, Tryz.ntmps28;go_wp2_with fail;go_ret;exact ⟨Says.no (by first | rfl | (simp; omega)) (by omega), rfl⟩
theorem noneOrAll_in (n a : Nat) (w : World) : Calls Tryz.prog 96 #[.int .i64 (n : Int), .int .i64 (a : Int)] w fun e w' => Says e (n = 0 ∨ n = a) ∧ w = w' := by
 by_cases h1 : (n : Int) = 0
 ·go_enter Tryz.func96, Tryz.ntmps96;go_wp2_with fail;go_ret;exact ⟨Says.yes (by first | rfl | (simp; omega)) (by omega), rfl⟩
 ·by_cases h2 : (n : Int) = (a : Int)
  ·go_enter Tryz.func96, Tryz.ntmps96;go_wp2_with fail;go_ret;exact ⟨Says.yes (by first | rfl | (simp; omega)) (by omega), rfl⟩
  ·go_enter Tryz.func96, Tryz.ntmps96;go_wp2_with fail;go_ret;exact ⟨Says.no (by first | rfl | (simp; omega)) (by omega), rfl⟩
theorem textFits_in (t : ByteArray) (w : World) : Calls Tryz.prog 95 #[.string t] w fun e w' => Says e (t.size ≤ 1000) ∧ w = w' := by
 by_cases h1 : t.size ≤ 1000
 ·go_enter Tryz.func95, Tryz.ntmps95;go_wp2_with fail;go_ret;exact ⟨Says.yes (by first | rfl | (simp; omega)) h1, rfl⟩
 ·go_enter Tryz.func95, Tryz.ntmps95;go_wp2_with fail;go_ret;exact ⟨Says.no (by first | rfl | (simp; omega)) h1, rfl⟩
theorem numberFits_in (x : Int) (w : World) : Calls Tryz.prog 98 #[.int .i64 x] w fun e w' => Says e (NumOk x) ∧ w = w' := by
 go_enter Tryz.func98, Tryz.ntmps98;go_wp2_with fail;refine (qh7 x 0 16777215 _).mono ?_;rintro e w1 ⟨⟨r, rfl, hr⟩, rfl⟩;have hr' : Hid (r = true ↔ NumOk x) := hr;clear hr;go_wp2_with fail;go_ret;exact ⟨Says.of rfl hr'.out, rfl⟩
theorem upFits_in (d : UD) (w : World) : Calls Tryz.prog 94 #[.agg #[.bool d.stack, .int .i64 d.index]] w fun e w' => Says e (NumOk d.index) ∧ Below w.heap.size w w' := by
 go_enter Tryz.func94, Tryz.ntmps94;go_wp2_with fail;refine (numberFits_in d.index _).mono ?_;rintro e w1 ⟨⟨r, rfl, hr⟩, rfl⟩;have hr' : Hid (r = true ↔ NumOk d.index) := hr;clear hr;go_wp2_with fail;go_ret;exact ⟨Says.of rfl hr'.out, by go_grown⟩
theorem text_empty (t : ByteArray) (h : t.size = 0) : t = ⟨#[]⟩ := by
 cases t with
 | mk d => 
  have : d.size = 0 := h;rw [Array.eq_empty_of_size_eq_zero this]
theorem text_some (t : ByteArray) (h : ¬ t.size = 0) : t.toList.isEmpty = false := by
 cases he : t.toList.isEmpty with
 | false => rfl
 | true =>
  exfalso
  apply h;have h2 := decide_eq_emptyBytes t;rw [he] at h2;have : t = ByteArray.empty := of_decide_eq_true h2;rw [this];rfl
theorem plain_in (d : VD) (w : World) :
  Calls Tryz.prog 92 #[.agg #[.int .i64 d.kind, .int .i64 d.num, .string d.text]] w fun e w' => Says e (Plain d) ∧ Below w.heap.size w w' := by
 obtain ⟨k, n, t⟩ := d;dsimp only;by_cases ht : t.size = 0
 ·obtain rfl := text_empty t ht;by_cases k0 : k = 0
  ·subst k0;by_cases n0 : n = 0
   ·subst n0;go_enter Tryz.func92, Tryz.ntmps92;go_wp2_with fail;go_ret;exact ⟨Says.yes (by first | rfl | (simp; omega)) (by unfold Plain; dsimp only; omega), by go_grown⟩
   ·go_enter Tryz.func92, Tryz.ntmps92;go_wp2_with fail;go_ret;exact ⟨Says.no (by first | rfl | (simp; omega)) (by unfold Plain; dsimp only; omega), by go_grown⟩
  by_cases k1 : k = 1
  ·subst k1;by_cases n0 : n = 0
   ·subst n0;go_enter Tryz.func92, Tryz.ntmps92;go_wp2_with fail;go_ret;exact ⟨Says.yes (by first | rfl | (simp; omega)) (by unfold Plain; dsimp only; omega), by go_grown⟩
   by_cases n1 : n = 1
   ·subst n1;go_enter Tryz.func92, Tryz.ntmps92;go_wp2_with fail;go_ret;exact ⟨Says.yes (by first | rfl | (simp; omega)) (by unfold Plain; dsimp only; omega), by go_grown⟩
   ·go_enter Tryz.func92, Tryz.ntmps92;go_wp2_with fail;go_ret;exact ⟨Says.no (by first | rfl | (simp; omega)) (by unfold Plain; dsimp only; omega), by go_grown⟩
  by_cases k2 : k = 2
  ·subst k2;go_enter Tryz.func92, Tryz.ntmps92;go_wp2_with fail;go_ret;exact ⟨Says.yes (by first | rfl | (simp; omega)) (by unfold Plain; dsimp only; omega), by go_grown⟩
  by_cases k3 : k = 3
  ·subst k3;by_cases n0 : n = 0
   ·subst n0;go_enter Tryz.func92, Tryz.ntmps92;go_wp2_with fail;refine (textFits_in _ _).mono ?_;rintro e w1 ⟨⟨r, rfl, hr⟩, rfl⟩;have hr' : Hid (r = true ↔ Plain ⟨3, 0, ⟨#[]⟩⟩) := hr.trans (by unfold Plain; dsimp only; omega);clear hr;go_wp2_with fail;go_ret;exact ⟨Says.of rfl hr'.out, by go_grown⟩
   ·go_enter Tryz.func92, Tryz.ntmps92;go_wp2_with fail;go_ret;exact ⟨Says.no (by first | rfl | (simp; omega)) (by unfold Plain; dsimp only; omega), by go_grown⟩
  go_enter Tryz.func92, Tryz.ntmps92;go_wp2_with fail;go_ret;exact ⟨Says.no (by first | rfl | (simp; omega)) (by unfold Plain; dsimp only; omega), by go_grown⟩
 ·have hte := text_some t ht;by_cases k0 : k = 0
  ·subst k0;by_cases n0 : n = 0
   ·subst n0;go_enter Tryz.func92, Tryz.ntmps92;go_wp2_with fail;go_ret;exact ⟨Says.no (by first | rfl | (simp; omega)) (by unfold Plain; dsimp only; omega), by go_grown⟩
   ·go_enter Tryz.func92, Tryz.ntmps92;go_wp2_with fail;go_ret;exact ⟨Says.no (by first | rfl | (simp; omega)) (by unfold Plain; dsimp only; omega), by go_grown⟩
  by_cases k1 : k = 1
  ·subst k1;by_cases n0 : n = 0
   ·subst n0;go_enter Tryz.func92, Tryz.ntmps92;go_wp2_with fail;go_ret;exact ⟨Says.no (by first | rfl | (simp; omega)) (by unfold Plain; dsimp only; omega), by go_grown⟩
   by_cases n1 : n = 1
   ·subst n1;go_enter Tryz.func92, Tryz.ntmps92;go_wp2_with fail;go_ret;exact ⟨Says.no (by first | rfl | (simp; omega)) (by unfold Plain; dsimp only; omega), by go_grown⟩
   ·go_enter Tryz.func92, Tryz.ntmps92;go_wp2_with fail;go_ret;exact ⟨Says.no (by first | rfl | (simp; omega)) (by unfold Plain; dsimp only; omega), by go_grown⟩
  by_cases k2 : k = 2
  ·subst k2;go_enter Tryz.func92, Tryz.ntmps92;go_wp2_with fail;go_ret;exact ⟨Says.no (by first | rfl | (simp; omega)) (by unfold Plain; dsimp only; omega), by go_grown⟩
  by_cases k3 : k = 3
  ·subst k3;by_cases n0 : n = 0
   ·subst n0;go_enter Tryz.func92, Tryz.ntmps92;go_wp2_with fail;refine (textFits_in _ _).mono ?_;rintro e w1 ⟨⟨r, rfl, hr⟩, rfl⟩;have hr' : Hid (r = true ↔ Plain ⟨3, 0, t⟩) := hr.trans (by unfold Plain; dsimp only; omega);clear hr;go_wp2_with fail;go_ret;exact ⟨Says.of rfl hr'.out, by go_grown⟩
   ·go_enter Tryz.func92, Tryz.ntmps92;go_wp2_with fail;go_ret;exact ⟨Says.no (by first | rfl | (simp; omega)) (by unfold Plain; dsimp only; omega), by go_grown⟩
  go_enter Tryz.func92, Tryz.ntmps92;go_wp2_with fail;go_ret;exact ⟨Says.no (by first | rfl | (simp; omega)) (by unfold Plain; dsimp only; omega), by go_grown⟩
theorem everyValue_in (s : Sl VD) (v : Value) (w : World) (hv : IsVals (· < w.heap.size) w v s) :
  Calls Tryz.prog 91 #[v, .func (.func 92) #[] #[]] w fun e w' => Says e (∀ i, i < s.n → Plain (s.f i)) ∧ Below w.heap.size w w' := by
 obtain ⟨⟨ao, cap, rfl, hn, hc⟩, -⟩ := hv;obtain ⟨n, f⟩ := s;simp only at hn hc ⊢;go_enter Tryz.func91, Tryz.ntmps91;go_wp2_with fail;go_loopw [9] (fun i wr => ∃ (i' : Nat), i = .int .i64 i' ∧ i' ≤ n ∧ Below w.heap.size w wr ∧ Hid (∀ j, j < i' → Plain (f j))) (fun i _ => n - (intOf i).toNat);case atStart => exact ⟨0, rfl, by omega, Below.refl _ _, fun j hj => by omega⟩
 case round =>
  obtain ⟨i', rfl, q1, q2, q3⟩ := hrel;by_cases hi : i' < n
  ·obtain ⟨b, o, rfl, hb, hcc⟩ := hc (by omega);have c0 := hcc i' hi 0 (by omega);have c1 := hcc i' hi 1 (by omega);have c2 := hcc i' hi 2 (by omega);rw [← q2.cell (p := ⟨b, _, none⟩) hb] at c0 c1 c2;simp only [Nat.add_zero, Nat.mul_one, vC] at c0 c1 c2;clear hcc hc;go_wp2_with fail;refine (plain_in (f i') _).mono ?_;rintro e w1 ⟨⟨r, rfl, hr⟩, b1⟩;have hb1 : Below w.heap.size w w1 := (q2.alloc q2.size _).trans (b1.mono (by have := q2.size; simp; omega));clear c0 c1 c2
   cases r with
   | false =>
    have hno : Hid (¬ ∀ i, i < n → Plain (f i)) := fun h => by simpa using hr.2 (h i' hi)
    clear hr;go_wp2_with fail;go_ret;exact ⟨Says.no rfl hno.out, hb1⟩
   | true =>
    have q5 : Hid (∀ j, j < i' + 1 → Plain (f j)) := fun j hj => by
     by_cases hji : j = i'
     ·subst hji; exact hr.1 rfl
     ·exact q3.out j (by omega)
    clear hr q3;go_wp2_with fail;go_roundw;case rel => exact ⟨i' + 1, rfl, by omega, hb1, q5⟩
    case measure => simp [intOf]; omega
  ·have z1 : Hid (∀ i, i < n → Plain (f i)) := fun j hj => q3.out j (by omega);clear q3;go_wp2_with fail;go_ret;exact ⟨Says.yes rfl z1.out, q2⟩
theorem everyUp_in (s : Sl UD) (v : Value) (w : World) (hv : IsUps (· < w.heap.size) w v s) :
  Calls Tryz.prog 93 #[v, .func (.func 94) #[] #[]] w fun e w' => Says e (∀ i, i < s.n → NumOk (s.f i).index) ∧ Below w.heap.size w w' := by
 obtain ⟨ao, cap, rfl, hn, hc⟩ := hv;obtain ⟨n, f⟩ := s;simp only at hn hc ⊢;go_enter Tryz.func93, Tryz.ntmps93;go_wp2_with fail;go_loopw [9] (fun i wr => ∃ (i' : Nat), i = .int .i64 i' ∧ i' ≤ n ∧ Below w.heap.size w wr ∧ Hid (∀ j, j < i' → NumOk (f j).index)) (fun i _ => n - (intOf i).toNat);case atStart => exact ⟨0, rfl, by omega, Below.refl _ _, fun j hj => by omega⟩
 case round =>
  obtain ⟨i', rfl, q1, q2, q3⟩ := hrel;by_cases hi : i' < n
  ·obtain ⟨b, o, rfl, hb, hcc⟩ := hc (by omega);have c0 := hcc i' hi 0 (by omega);have c1 := hcc i' hi 1 (by omega);rw [← q2.cell (p := ⟨b, _, none⟩) hb] at c0 c1;simp only [Nat.add_zero, Nat.mul_one, uC] at c0 c1;clear hcc hc;go_wp2_with fail;refine (upFits_in (f i') _).mono ?_;rintro e w1 ⟨⟨r, rfl, hr⟩, b1⟩;have hb1 : Below w.heap.size w w1 := (q2.alloc q2.size _).trans (b1.mono (by have := q2.size; simp; omega));clear c0 c1
   cases r with
   | false =>
    have hno : Hid (¬ ∀ i, i < n → NumOk (f i).index) := fun h => by simpa using hr.2 (h i' hi)
    clear hr;go_wp2_with fail;go_ret;exact ⟨Says.no rfl hno.out, hb1⟩
   | true =>
    have q5 : Hid (∀ j, j < i' + 1 → NumOk (f j).index) := fun j hj => by
     by_cases hji : j = i'
     ·subst hji; exact hr.1 rfl
     ·exact q3.out j (by omega)
    clear hr q3;go_wp2_with fail;go_roundw;case rel => exact ⟨i' + 1, rfl, by omega, hb1, q5⟩
    case measure => simp [intOf]; omega
  ·have z1 : Hid (∀ i, i < n → NumOk (f i).index) := fun j hj => q3.out j (by omega);clear q3;go_wp2_with fail;go_ret;exact ⟨Says.yes rfl z1.out, q2⟩
theorem everyInt_in (s : Sl Int) (v : Value) (w : World) (hv : IsInts .i64 (· < w.heap.size) w v s) :
  Calls Tryz.prog 97 #[v, .func (.func 98) #[] #[]] w fun e w' => Says e (∀ i, i < s.n → NumOk (s.f i)) ∧ Below w.heap.size w w' := by
 obtain ⟨ao, cap, rfl, hn, hc⟩ := hv;obtain ⟨n, f⟩ := s;simp only at hn hc ⊢;go_enter Tryz.func97, Tryz.ntmps97;go_wp2_with fail;go_loopw [9] (fun i wr => ∃ (i' : Nat), i = .int .i64 i' ∧ i' ≤ n ∧ Below w.heap.size w wr ∧ Hid (∀ j, j < i' → NumOk (f j))) (fun i _ => n - (intOf i).toNat);case atStart => exact ⟨0, rfl, by omega, Below.refl _ _, fun j hj => by omega⟩
 case round =>
  obtain ⟨i', rfl, q1, q2, q3⟩ := hrel;by_cases hi : i' < n
  ·obtain ⟨b, o, rfl, hb, hcc⟩ := hc (by omega);have c0 := hcc i' hi 0 (by omega);rw [← q2.cell (p := ⟨b, _, none⟩) hb] at c0;simp only [Nat.add_zero, Nat.mul_one, iC] at c0;clear hcc hc;go_wp2_with fail;refine (numberFits_in (f i') _).mono ?_;rintro e w1 ⟨⟨r, rfl, hr⟩, rfl⟩;have hb1 := q2;clear c0
   cases r with
   | false =>
    have hno : Hid (¬ ∀ i, i < n → NumOk (f i)) := fun h => by simpa using hr.2 (h i' hi)
    clear hr;go_wp2_with fail;go_ret;exact ⟨Says.no rfl hno.out, hb1⟩
   | true =>
    have q5 : Hid (∀ j, j < i' + 1 → NumOk (f j)) := fun j hj => by
     by_cases hji : j = i'
     ·subst hji; exact hr.1 rfl
     ·exact q3.out j (by omega)
    clear hr q3;go_wp2_with fail;go_roundw;case rel => exact ⟨i' + 1, rfl, by omega, hb1, q5⟩
    case measure => simp [intOf]; omega
  ·have z1 : Hid (∀ i, i < n → NumOk (f i)) := fun j hj => q3.out j (by omega);clear q3;go_wp2_with fail;go_ret;exact ⟨Says.yes rfl z1.out, q2⟩
theorem everyStr_in (s : Sl ByteArray) (v : Value) (w : World) (hv : IsStrs (· < w.heap.size) w v s) :
  Calls Tryz.prog 99 #[v, .func (.func 95) #[] #[]] w fun e w' => Says e (∀ i, i < s.n → (s.f i).size ≤ 1000) ∧ Below w.heap.size w w' := by
 obtain ⟨⟨ao, cap, rfl, hn, hc⟩, -⟩ := hv;obtain ⟨n, f⟩ := s;simp only at hn hc ⊢;go_enter Tryz.func99, Tryz.ntmps99;go_wp2_with fail;go_loopw [9] (fun i wr => ∃ (i' : Nat), i = .int .i64 i' ∧ i' ≤ n ∧ Below w.heap.size w wr ∧ Hid (∀ j, j < i' → (f j).size ≤ 1000)) (fun i _ => n - (intOf i).toNat);case atStart => exact ⟨0, rfl, by omega, Below.refl _ _, fun j hj => by omega⟩
 case round =>
  obtain ⟨i', rfl, q1, q2, q3⟩ := hrel;by_cases hi : i' < n
  ·obtain ⟨b, o, rfl, hb, hcc⟩ := hc (by omega);have c0 := hcc i' hi 0 (by omega);rw [← q2.cell (p := ⟨b, _, none⟩) hb] at c0;simp only [Nat.add_zero, Nat.mul_one, sC] at c0;clear hcc hc;go_wp2_with fail;refine (textFits_in (f i') _).mono ?_;rintro e w1 ⟨⟨r, rfl, hr⟩, rfl⟩;have hb1 := q2;clear c0
   cases r with
   | false =>
    have hno : Hid (¬ ∀ i, i < n → (f i).size ≤ 1000) := fun h => by simpa using hr.2 (h i' hi)
    clear hr;go_wp2_with fail;go_ret;exact ⟨Says.no rfl hno.out, hb1⟩
   | true =>
    have q5 : Hid (∀ j, j < i' + 1 → (f j).size ≤ 1000) := fun j hj => by
     by_cases hji : j = i'
     ·subst hji; exact hr.1 rfl
     ·exact q3.out j (by omega)
    clear hr q3;go_wp2_with fail;go_roundw;case rel => exact ⟨i' + 1, rfl, by omega, hb1, q5⟩
    case measure => simp [intOf]; omega
  ·have z1 : Hid (∀ i, i < n → (f i).size ≤ 1000) := fun j hj => q3.out j (by omega);clear q3;go_wp2_with fail;go_ret;exact ⟨Says.yes rfl z1.out, q2⟩
end Go.Proofs.YtplijnfaiofckaaGreatDoor
namespace Go.Proofs.YtplijnfaiofckaaGreatDoor
open Go.RowKit
set_option linter.unusedVariables false
set_option linter.unusedSimpArgs false
set_option maxRecDepth 100000
set_option maxHeartbeats 9000000
theorem protoFits_in (p : PD) (a3 a4 a5 a8 a9 : Value) (w : World) (hp : IsProto (· < w.heap.size) w a3 a4 a5 a8 a9 p) :
  Calls Tryz.prog 29 #[pAgg p a3 a4 a5 a8 a9] w fun e w' => Says e (ProtoOk p) ∧ Below w.heap.size w w' := by
 have hpp : Hid (IsProto (· < w.heap.size) w a3 a4 a5 a8 a9 p) := hp;obtain ⟨p3, p4, p5, p8, p9, -⟩ := hp;obtain ⟨o3, c3, rfl, -, -⟩ := p3;obtain ⟨o5, c5, rfl, -, -⟩ := p5;obtain ⟨o8, c8, rfl, -, -⟩ := p8;obtain ⟨⟨o4, c4, rfl, -, -⟩, -⟩ := p4;obtain ⟨⟨o9, c9, rfl, -, -⟩, -⟩ := p9;unfold pAgg;go_enter Tryz.func29, Tryz.ntmps29;go_wp2_with fail;have R0 : RowL (w.alloc (.cells #[.int .i64 p.params, .bool p.vararg, .int .i64 p.regs, .slice o3 p.code.n c3, .slice o4 p.consts.n c4, .slice o5 p.ups.n c5, .int .i64 p.kids, .string p.name, .slice o8 p.lines.n c8, .slice o9 p.upNames.n c9] 63)) w.heap.size 63 [.int .i64 p.params, .bool p.vararg, .int .i64 p.regs, .slice o3 p.code.n c3, .slice o4 p.consts.n c4, .slice o5 p.ups.n c5, .int .i64 p.kids, .string p.name, .slice o8 p.lines.n c8, .slice o9 p.upNames.n c9] := RowL.new w _ 63;have bw : Below w.heap.size w (w.alloc (.cells #[.int .i64 p.params, .bool p.vararg, .int .i64 p.regs, .slice o3 p.code.n c3, .slice o4 p.consts.n c4, .slice o5 p.ups.n c5, .int .i64 p.kids, .string p.name, .slice o8 p.lines.n c8, .slice o9 p.upNames.n c9] 63)) := by go_grown
 generalize w.alloc (.cells #[.int .i64 p.params, .bool p.vararg, .int .i64 p.regs, .slice o3 p.code.n c3, .slice o4 p.consts.n c4, .slice o5 p.ups.n c5, .int .i64 p.kids, .string p.name, .slice o8 p.lines.n c8, .slice o9 p.upNames.n c9] 63) = wx at R0 bw ⊢;refine (qh7 p.regs 1 250 _).mono ?_;rintro e y0 ⟨⟨r, rfl, hr⟩, rfl⟩;have z0 : Hid (r = true → (1 ≤ p.regs ∧ p.regs ≤ 250)) := hr.1;have n0 : Hid (ProtoOk p → r = true) := fun h => hr.2 ⟨h.regs1, h.regs2⟩;clear hr;obtain rfl | rfl : r = false ∨ r = true := by cases r <;> simp
 ·have hno : Hid (¬ ProtoOk p) := fun h => by simpa using n0.out h
  clear z0 n0;go_wp2_with fail;go_ret;exact ⟨Says.no rfl hno.out, bw⟩
 replace z0 : Hid (1 ≤ p.regs ∧ p.regs ≤ 250) := z0.out rfl;clear n0;have u0 := R0.cell 0 rfl;have u2 := R0.cell 2 rfl;go_wp2_with fail;clear u0 u2;refine (qh7 p.params 0 p.regs _).mono ?_;rintro e y1 ⟨⟨r, rfl, hr⟩, rfl⟩;have z1 : Hid (r = true → (0 ≤ p.params ∧ p.params ≤ p.regs)) := hr.1;have n1 : Hid (ProtoOk p → r = true) := fun h => hr.2 ⟨h.par1, h.par2⟩;clear hr;obtain rfl | rfl : r = false ∨ r = true := by cases r <;> simp
 ·have hno : Hid (¬ ProtoOk p) := fun h => by simpa using n1.out h
  clear z1 n1;go_wp2_with fail;go_ret;exact ⟨Says.no rfl hno.out, bw⟩
 replace z1 : Hid (0 ≤ p.params ∧ p.params ≤ p.regs) := z1.out rfl;clear n1;have u3 := R0.cell 3 rfl;go_wp2_with fail;clear u3;refine (qh7 p.code.n 1 2000 _).mono ?_;rintro e y2 ⟨⟨r, rfl, hr⟩, rfl⟩;have z2 : Hid (r = true → (1 ≤ (p.code.n : Int) ∧ (p.code.n : Int) ≤ 2000)) := hr.1;have n2 : Hid (ProtoOk p → r = true) := fun h => hr.2 (by have := h.code1; have := h.code2; omega);clear hr;obtain rfl | rfl : r = false ∨ r = true := by cases r <;> simp
 ·have hno : Hid (¬ ProtoOk p) := fun h => by simpa using n2.out h
  clear z2 n2;go_wp2_with fail;go_ret;exact ⟨Says.no rfl hno.out, bw⟩
 replace z2 : Hid (1 ≤ (p.code.n : Int) ∧ (p.code.n : Int) ≤ 2000) := z2.out rfl;clear n2;have u4 := R0.cell 4 rfl;by_cases g3 : p.consts.n ≤ 500
 rotate_left
 ·have hno : Hid (¬ ProtoOk p) := fun h => g3 h.consts;go_wp2_with fail;go_ret;exact ⟨Says.no (by first | rfl | (simp; omega)) hno.out, bw⟩
 go_wp2_with fail;clear u4;refine (everyValue_in p.consts _ _ ((hpp.out.later bw).consts)).mono ?_;rintro e y4 ⟨⟨r, rfl, hr⟩, b1⟩;replace R0 := R0.call b1;replace bw : Below w.heap.size w y4 := bw.trans (b1.mono bw.size);clear b1;have z4 : Hid (r = true → (∀ i, i < p.consts.n → Plain (p.consts.f i))) := hr.1;have n4 : Hid (ProtoOk p → r = true) := fun h => hr.2 h.allConsts;clear hr;obtain rfl | rfl : r = false ∨ r = true := by cases r <;> simp
 ·have hno : Hid (¬ ProtoOk p) := fun h => by simpa using n4.out h
  clear z4 n4;go_wp2_with fail;go_ret;exact ⟨Says.no rfl hno.out, bw⟩
 replace z4 : Hid (∀ i, i < p.consts.n → Plain (p.consts.f i)) := z4.out rfl;clear n4;have u5 := R0.cell 5 rfl;by_cases g5 : p.ups.n ≤ 60
 rotate_left
 ·have hno : Hid (¬ ProtoOk p) := fun h => g5 h.ups;go_wp2_with fail;go_ret;exact ⟨Says.no (by first | rfl | (simp; omega)) hno.out, bw⟩
 go_wp2_with fail;clear u5;refine (everyUp_in p.ups _ _ ((hpp.out.later bw).ups)).mono ?_;rintro e y6 ⟨⟨r, rfl, hr⟩, b1⟩;replace R0 := R0.call b1;replace bw : Below w.heap.size w y6 := bw.trans (b1.mono bw.size);clear b1;have z6 : Hid (r = true → (∀ i, i < p.ups.n → NumOk (p.ups.f i).index)) := hr.1;have n6 : Hid (ProtoOk p → r = true) := fun h => hr.2 h.allUps;clear hr;obtain rfl | rfl : r = false ∨ r = true := by cases r <;> simp
 ·have hno : Hid (¬ ProtoOk p) := fun h => by simpa using n6.out h
  clear z6 n6;go_wp2_with fail;go_ret;exact ⟨Says.no rfl hno.out, bw⟩
 replace z6 : Hid (∀ i, i < p.ups.n → NumOk (p.ups.f i).index) := z6.out rfl;clear n6;have u7 := R0.cell 7 rfl;go_wp2_with fail;clear u7;refine (textFits_in p.name _).mono ?_;rintro e y7 ⟨⟨r, rfl, hr⟩, rfl⟩;have z7 : Hid (r = true → (p.name.size ≤ 1000)) := hr.1;have n7 : Hid (ProtoOk p → r = true) := fun h => hr.2 h.name;clear hr;obtain rfl | rfl : r = false ∨ r = true := by cases r <;> simp
 ·have hno : Hid (¬ ProtoOk p) := fun h => by simpa using n7.out h
  clear z7 n7;go_wp2_with fail;go_ret;exact ⟨Says.no rfl hno.out, bw⟩
 replace z7 : Hid (p.name.size ≤ 1000) := z7.out rfl;clear n7;have u8 := R0.cell 8 rfl;have u3 := R0.cell 3 rfl;go_wp2_with fail;clear u8 u3;refine (noneOrAll_in p.lines.n p.code.n _).mono ?_;rintro e y8 ⟨⟨r, rfl, hr⟩, rfl⟩;have z8 : Hid (r = true → (p.lines.n = 0 ∨ p.lines.n = p.code.n)) := hr.1;have n8 : Hid (ProtoOk p → r = true) := fun h => hr.2 h.lines;clear hr;obtain rfl | rfl : r = false ∨ r = true := by cases r <;> simp
 ·have hno : Hid (¬ ProtoOk p) := fun h => by simpa using n8.out h
  clear z8 n8;go_wp2_with fail;go_ret;exact ⟨Says.no rfl hno.out, bw⟩
 replace z8 : Hid (p.lines.n = 0 ∨ p.lines.n = p.code.n) := z8.out rfl;clear n8;have u8 := R0.cell 8 rfl;go_wp2_with fail;clear u8;refine (everyInt_in p.lines _ _ ((hpp.out.later bw).lines)).mono ?_;rintro e y9 ⟨⟨r, rfl, hr⟩, b1⟩;replace R0 := R0.call b1;replace bw : Below w.heap.size w y9 := bw.trans (b1.mono bw.size);clear b1;have z9 : Hid (r = true → (∀ i, i < p.lines.n → NumOk (p.lines.f i))) := hr.1;have n9 : Hid (ProtoOk p → r = true) := fun h => hr.2 h.allLines;clear hr;obtain rfl | rfl : r = false ∨ r = true := by cases r <;> simp
 ·have hno : Hid (¬ ProtoOk p) := fun h => by simpa using n9.out h
  clear z9 n9;go_wp2_with fail;go_ret;exact ⟨Says.no rfl hno.out, bw⟩
 replace z9 : Hid (∀ i, i < p.lines.n → NumOk (p.lines.f i)) := z9.out rfl;clear n9;have u9 := R0.cell 9 rfl;have u5 := R0.cell 5 rfl;go_wp2_with fail;clear u9 u5;refine (noneOrAll_in p.upNames.n p.ups.n _).mono ?_;rintro e y10 ⟨⟨r, rfl, hr⟩, rfl⟩;have z10 : Hid (r = true → (p.upNames.n = 0 ∨ p.upNames.n = p.ups.n)) := hr.1;have n10 : Hid (ProtoOk p → r = true) := fun h => hr.2 h.upNames;clear hr;obtain rfl | rfl : r = false ∨ r = true := by cases r <;> simp
 ·have hno : Hid (¬ ProtoOk p) := fun h => by simpa using n10.out h
  clear z10 n10;go_wp2_with fail;go_ret;exact ⟨Says.no rfl hno.out, bw⟩
 replace z10 : Hid (p.upNames.n = 0 ∨ p.upNames.n = p.ups.n) := z10.out rfl;clear n10;have u9 := R0.cell 9 rfl;go_wp2_with fail;clear u9;refine (everyStr_in p.upNames _ _ ((hpp.out.later bw).upNames)).mono ?_;rintro e y11 ⟨⟨r, rfl, hr⟩, b1⟩;replace R0 := R0.call b1;replace bw : Below w.heap.size w y11 := bw.trans (b1.mono bw.size);clear b1;have z11 : Hid (r = true → (∀ i, i < p.upNames.n → (p.upNames.f i).size ≤ 1000)) := hr.1;have n11 : Hid (ProtoOk p → r = true) := fun h => hr.2 h.allUpNames;clear hr;have hr : Hid (r = true ↔ ProtoOk p) := ⟨fun h => ⟨z0.out.1, z0.out.2, z1.out.1, z1.out.2, by have := z2.out; omega, by have := z2.out; omega, by omega, by omega, z7.out, z8.out, z10.out, z4.out, z6.out, z9.out, z11.out h⟩, n11.out⟩;go_wp2_with fail;go_ret;exact ⟨Says.of rfl hr.out, bw⟩
end Go.Proofs.YtplijnfaiofckaaGreatDoor

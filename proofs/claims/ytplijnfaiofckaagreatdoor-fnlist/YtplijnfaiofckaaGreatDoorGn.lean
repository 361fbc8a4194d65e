import Derived.Test.YtplijnfaiofckaaGreatDoorGg
import Derived.Test.YtplijnfaiofckaaGreatDoorGb
import Derived.Deep.CutRange
namespace Go.Proofs.YtplijnfaiofckaaGreatDoor
open Go.RowKit
set_option linter.unusedVariables false
set_option linter.unusedSimpArgs false
set_option maxRecDepth 100000
set_option maxHeartbeats 9000000
def names : List ByteArray := [⟨#[109, 111, 118, 101]⟩, ⟨#[108, 111, 97, 100, 107]⟩, ⟨#[108, 111, 97, 100, 110, 105, 108]⟩, ⟨#[108, 111, 97, 100, 98, 111, 111, 108]⟩, ⟨#[103, 101, 116, 117, 112]⟩, ⟨#[115, 101, 116, 117, 112]⟩, ⟨#[110, 101, 119, 116, 97, 98, 108, 101]⟩, ⟨#[103, 101, 116, 116, 97, 98, 108, 101]⟩, ⟨#[115, 101, 116, 116, 97, 98, 108, 101]⟩, ⟨#[97, 100, 100]⟩, ⟨#[115, 117, 98]⟩, ⟨#[109, 117, 108]⟩, ⟨#[100, 105, 118]⟩, ⟨#[109, 111, 100]⟩, ⟨#[99, 111, 110, 99, 97, 116]⟩, ⟨#[110, 111, 116]⟩, ⟨#[110, 101, 103]⟩, ⟨#[108, 101, 110]⟩, ⟨#[106, 117, 109, 112]⟩, ⟨#[101, 113]⟩, ⟨#[108, 101, 115, 115]⟩, ⟨#[116, 101, 115, 116]⟩, ⟨#[99, 97, 108, 108]⟩, ⟨#[114, 101, 116, 117, 114, 110]⟩, ⟨#[118, 97, 114, 97, 114, 103]⟩, ⟨#[99, 108, 111, 115, 117, 114, 101]⟩, ⟨#[99, 108, 111, 115, 101]⟩, ⟨#[102, 111, 114, 112, 114, 101, 112]⟩, ⟨#[102, 111, 114, 108, 111, 111, 112]⟩, ⟨#[99, 114, 101, 97, 116, 101]⟩, ⟨#[114, 101, 115, 117, 109, 101]⟩, ⟨#[121, 105, 101, 108, 100]⟩, ⟨#[115, 116, 97, 116, 117, 115]⟩, ⟨#[101, 114, 114, 111, 114]⟩]
def qd0 : Array Value := #[.string ⟨#[109, 111, 118, 101]⟩, .string ⟨#[108, 111, 97, 100, 107]⟩, .string ⟨#[108, 111, 97, 100, 110, 105, 108]⟩, .string ⟨#[108, 111, 97, 100, 98, 111, 111, 108]⟩, .string ⟨#[103, 101, 116, 117, 112]⟩, .string ⟨#[115, 101, 116, 117, 112]⟩, .string ⟨#[110, 101, 119, 116, 97, 98, 108, 101]⟩, .string ⟨#[103, 101, 116, 116, 97, 98, 108, 101]⟩, .string ⟨#[115, 101, 116, 116, 97, 98, 108, 101]⟩, .string ⟨#[97, 100, 100]⟩, .string ⟨#[115, 117, 98]⟩, .string ⟨#[109, 117, 108]⟩, .string ⟨#[100, 105, 118]⟩, .string ⟨#[109, 111, 100]⟩, .string ⟨#[99, 111, 110, 99, 97, 116]⟩, .string ⟨#[110, 111, 116]⟩, .string ⟨#[110, 101, 103]⟩, .string ⟨#[108, 101, 110]⟩, .string ⟨#[106, 117, 109, 112]⟩, .string ⟨#[101, 113]⟩, .string ⟨#[108, 101, 115, 115]⟩, .string ⟨#[116, 101, 115, 116]⟩, .string ⟨#[99, 97, 108, 108]⟩, .string ⟨#[114, 101, 116, 117, 114, 110]⟩, .string ⟨#[118, 97, 114, 97, 114, 103]⟩, .string ⟨#[99, 108, 111, 115, 117, 114, 101]⟩, .string ⟨#[99, 108, 111, 115, 101]⟩, .string ⟨#[102, 111, 114, 112, 114, 101, 112]⟩, .string ⟨#[102, 111, 114, 108, 111, 111, 112]⟩, .string ⟨#[99, 114, 101, 97, 116, 101]⟩, .string ⟨#[114, 101, 115, 117, 109, 101]⟩, .string ⟨#[121, 105, 101, 108, 100]⟩, .string ⟨#[115, 116, 97, 116, 117, 115]⟩, .string ⟨#[101, 114, 114, 111, 114]⟩]
theorem cells34_eq : qd0.toList = names.map Value.string := rfl
theorem names_len : names.length = 34 := rfl
structure Named (w : World) : Prop where
 cell : ∀ i, i < 34 → w.cell? ⟨0, i, none⟩ = (names[i]?).map Value.string
 pos : 0 < w.heap.size
theorem Named.below {w w' : World} (h : Named w) (b : Below w.heap.size w w') : Named w' :=
 ⟨fun i hi => (b.cell (p := ⟨0, i, none⟩) h.pos).trans (h.cell i hi), Nat.lt_of_lt_of_le h.pos b.size⟩
theorem l2Names_in (w : World) : Calls Tryz.prog 143 #[] w fun e w' => e = .returned (.slice (some ⟨w.heap.size, 0, none⟩) 34 34) ∧ w.alloc (.cells qd0 9) = w' := by
 go_enter Tryz.func143, Tryz.ntmps143;go_wp2_with fail;go_ret;exact ⟨rfl, rfl⟩
def nameOf (op : Int) (r : ByteArray) : Prop := (∃ k : Nat, k < 34 ∧ op = (k : Int) ∧ names[k]? = some r) ∨ (¬ (0 ≤ op ∧ op < 34) ∧ r = ⟨#[]⟩)
theorem name_at {k : Nat} (hk : k < 34) : ∃ r, names[k]? = some r := ⟨_, List.getElem?_eq_getElem (by rw [names_len]; exact hk)⟩
theorem specOpName_in (op : Int) (w : World) : Calls Tryz.prog 115 #[.int .i64 op] w fun e w' => (∃ r, e = .returned (.string r) ∧ nameOf op r) ∧ Below w.heap.size w w' := by
 by_cases h0 : op < 0
 ·go_enter Tryz.func115, Tryz.ntmps115;go_wp2_with fail;refine (l2Names_in _).mono ?_;rintro e w1 ⟨rfl, rfl⟩;have bw : Below w.heap.size w (w.alloc (.cells qd0 9)) := by go_grown
  generalize w.alloc (.cells qd0 9) = w1 at bw ⊢;go_wp2_with fail;go_ret;exact ⟨⟨_, rfl, .inr ⟨by omega, rfl⟩⟩, bw⟩
 by_cases h1 : 34 ≤ op
 ·go_enter Tryz.func115, Tryz.ntmps115;go_wp2_with fail;refine (l2Names_in _).mono ?_;rintro e w1 ⟨rfl, rfl⟩;have bw : Below w.heap.size w (w.alloc (.cells qd0 9)) := by go_grown
  generalize w.alloc (.cells qd0 9) = w1 at bw ⊢;go_wp2_with fail;go_ret;exact ⟨⟨_, rfl, .inr ⟨by omega, rfl⟩⟩, bw⟩
 obtain ⟨k, rfl⟩ : ∃ k : Nat, op = (k : Int) := ⟨op.toNat, by omega⟩;obtain ⟨r, hr⟩ := name_at (k := k) (by omega);have hr' : Hid (names[k]? = some r) := hr;have hk : k < 34 := by omega
 go_enter Tryz.func115, Tryz.ntmps115;go_wp2_with fail;refine (l2Names_in _).mono ?_;rintro e w1 ⟨rfl, rfl⟩;have bw : Below w.heap.size w (w.alloc (.cells qd0 9)) := by go_grown
 have hc : (w.alloc (.cells qd0 9)).cell? ⟨w.heap.size, k, none⟩ = some (.string r) := by
  rw [World.cell?_alloc_new, ← Array.getElem?_toList, cells34_eq, List.getElem?_map, hr];rfl
 generalize w.alloc (.cells qd0 9) = w1 at bw hc ⊢;clear hr;go_wp2_with fail;go_ret;exact ⟨⟨_, rfl, .inl ⟨k, hk, rfl, hr'.out⟩⟩, bw⟩
theorem implOpName_in (op : Int) (w : World) (hN : Named w) : Calls Tryz.prog 75 #[.int .i64 op] w fun e w' => (∃ r, e = .returned (.string r) ∧ nameOf op r) ∧ Below w.heap.size w w' := by
 by_cases h0 : op < 0
 ·go_enter Tryz.func75, Tryz.ntmps75;go_wp2_with fail;go_ret;exact ⟨⟨_, rfl, .inr ⟨by omega, rfl⟩⟩, by go_grown⟩
 by_cases h1 : 34 ≤ op
 ·go_enter Tryz.func75, Tryz.ntmps75;go_wp2_with fail;go_ret;exact ⟨⟨_, rfl, .inr ⟨by omega, rfl⟩⟩, by go_grown⟩
 obtain ⟨k, rfl⟩ : ∃ k : Nat, op = (k : Int) := ⟨op.toNat, by omega⟩;obtain ⟨r, hr⟩ := name_at (k := k) (by omega);have hr' : Hid (names[k]? = some r) := hr;have hk : k < 34 := by omega
 have hc := hN.cell k hk;rw [hr, Option.map_some] at hc;clear hr hN;go_enter Tryz.func75, Tryz.ntmps75;go_wp2_with fail;go_ret;exact ⟨⟨_, rfl, .inl ⟨k, hk, rfl, hr'.out⟩⟩, by go_grown⟩
theorem hidR {p : Prop} (h : p) : Hid p := h
def nm (k : Nat) : ByteArray := names.getD k ⟨#[]⟩
theorem nm_fin : ∀ k : Fin 34, (nm k.val).size ≤ 20 := by decide
theorem nm_size {k : Nat} (h : k < 34) : (nm k).size ≤ 20 := nm_fin ⟨k, h⟩
theorem nm_of {k : Nat} (hk : k < 34) {r : ByteArray} (h : nameOf (k : Int) r) : r = nm k := by
  rcases h with ⟨j, hj, e, hr⟩ | ⟨hn, _⟩
  · obtain rfl : k = j := by omega
    unfold nm;rw [List.getD, hr];rfl
  · exact absurd ⟨by omega, by omega⟩ hn
theorem specName (k : Nat) (hk : k < 34) (w : World) : Calls Tryz.prog 115 #[.int .i64 (k : Int)] w fun e w' => e = .returned (.string (nm k)) ∧ Below w.heap.size w w' :=
  (specOpName_in (k : Int) w).mono fun e w' ⟨⟨r, he, hr⟩, hb⟩ => ⟨by rw [he, nm_of hk hr], hb⟩
theorem implName (k : Nat) (hk : k < 34) (w : World) (hN : Named w) : Calls Tryz.prog 75 #[.int .i64 (k : Int)] w fun e w' => e = .returned (.string (nm k)) ∧ Below w.heap.size w w' :=
  (implOpName_in (k : Int) w hN).mono fun e w' ⟨⟨r, he, hr⟩, hb⟩ => ⟨by rw [he, nm_of hk hr], hb⟩
def WideOp (k : Nat) : Prop := k = 1 ∨ k = 18 ∨ k = 25 ∨ k = 27 ∨ k = 28
instance (k : Nat) : Decidable (WideOp k) := by unfold WideOp; infer_instance
theorem l6Wide_in (k : Nat) (hk : k < 34) (w : World) : Calls Tryz.prog 114 #[.int .i64 (k : Int)] w fun e w' => e = .returned (.bool (decide (WideOp k))) ∧ Below w.heap.size w w' := by
  have key : ∀ (n : Nat), n = k → Calls Tryz.prog 114 #[.int .i64 (k : Int)] w fun e w' => e = .returned (.bool (decide (WideOp k))) ∧ Below w.heap.size w w' := by
    intro n hn;have hk' : n < 34 := by omega
    subst hn;by_cases h1 : n = 1
    · subst h1
      go_enter Tryz.func114, Tryz.ntmps114;go_wp2_with fail;go_ret;exact ⟨rfl, by go_grown⟩
    by_cases h2 : n = 18
    · subst h2
      go_enter Tryz.func114, Tryz.ntmps114;go_wp2_with fail;go_ret;exact ⟨rfl, by go_grown⟩
    by_cases h3 : n = 25
    · subst h3
      go_enter Tryz.func114, Tryz.ntmps114;go_wp2_with fail;go_ret;exact ⟨rfl, by go_grown⟩
    by_cases h4 : n = 27
    · subst h4
      go_enter Tryz.func114, Tryz.ntmps114;go_wp2_with fail;go_ret;exact ⟨rfl, by go_grown⟩
    have e1 : ((n : Int) == 1) = false := by have : (n : Int) ≠ 1 := by omega
                                             simpa using this
    have e2 : ((n : Int) == 18) = false := by have : (n : Int) ≠ 18 := by omega
                                              simpa using this
    have e3 : ((n : Int) == 25) = false := by have : (n : Int) ≠ 25 := by omega
                                              simpa using this
    have e4 : ((n : Int) == 27) = false := by have : (n : Int) ≠ 27 := by omega
                                              simpa using this
    have e5 : decide (WideOp n) = ((n : Int) == 28) := by
      by_cases h5 : n = 28
      · subst h5; rfl
      · have : (n : Int) ≠ 28 := by omega
        have hw : ¬ WideOp n := by unfold WideOp; omega
        simp [hw, this]
    rw [e5];go_enter Tryz.func114, Tryz.ntmps114;go_wp2_with fail;go_ret;exact ⟨rfl, by go_grown⟩
  exact key k rfl
end Go.Proofs.YtplijnfaiofckaaGreatDoor
namespace Go.Proofs.YtplijnfaiofckaaGreatDoor
open Go.RowKit
set_option linter.unusedVariables false
set_option linter.unusedSimpArgs false
def I64 (n : Int) : Prop := -9223372036854775808 ≤ n ∧ n ≤ 9223372036854775807
theorem pm_cons (M acc : Nat) (c : UInt8) (l : List UInt8) : Lib.parseUintM M acc (c :: l) = if 48 ≤ c.toNat ∧ c.toNat ≤ 57 then (if 1844674407370955162 ≤ acc then .range else if M < acc * 10 + (c.toNat - 48) then .range else Lib.parseUintM M (acc * 10 + (c.toNat - 48)) l) else .syntax := rfl
theorem pm_app (M : Nat) (r : List UInt8) : ∀ (l : List UInt8) (acc a : Nat), Lib.parseUintM M acc l = .ok a → Lib.parseUintM M acc (l ++ r) = Lib.parseUintM M a r
 | [], acc, a, h => by
  simp only [Lib.parseUintM] at h
  cases h
  rfl
 | c :: l, acc, a, h => by
  rw [pm_cons] at h;rw [List.cons_append, pm_cons];by_cases h1 : 48 ≤ c.toNat ∧ c.toNat ≤ 57
  ·rw [if_pos h1] at h ⊢;by_cases h2 : 1844674407370955162 ≤ acc
   ·rw [if_pos h2] at h; cases h
   ·rw [if_neg h2] at h ⊢;by_cases h3 : M < acc * 10 + (c.toNat - 48)
    ·rw [if_pos h3] at h; cases h
    ·rw [if_neg h3] at h ⊢;exact pm_app M r l _ a h
  ·rw [if_neg h1] at h; cases h
theorem dg_byte {d : Nat} (h : d < 10) : (UInt8.ofNat (48 + d)).toNat = 48 + d := by
 rw [UInt8.toNat_ofNat'];omega
theorem pm_dec : ∀ (u : Nat), u ≤ 18446744073709551615 → Lib.parseUintM 18446744073709551615 0 (Lib.decDigits u) = .ok u := by
 intro u
 induction u using Nat.strongRecOn with
 | _ u ih =>
  intro hu;by_cases h : u < 10
  ·rw [Lib.decDigits, dif_pos h];unfold Lib.parseUintM;rw [dg_byte h, if_pos (by omega), if_neg (by omega), if_neg (by omega)];unfold Lib.parseUintM
   congr 1
   omega
  ·rw [Lib.decDigits, dif_neg h, pm_app _ _ _ _ _ (ih (u / 10) (by omega) (by omega))];unfold Lib.parseUintM;rw [dg_byte (by omega), if_pos (by omega), if_neg (by omega), if_neg (by omega)];unfold Lib.parseUintM
   congr 1
   omega
theorem decDigits_ne (u : Nat) : Lib.decDigits u ≠ [] := by
 rw [Lib.decDigits];split <;> simp
theorem decDigits_head (u : Nat) : ∃ c r, Lib.decDigits u = c :: r ∧ 48 ≤ c.toNat ∧ c.toNat ≤ 57 := by
 induction u using Nat.strongRecOn with
 | _ u ih =>
  by_cases h : u < 10
  ·exact ⟨_, [], by rw [Lib.decDigits, dif_pos h], by rw [dg_byte h]; omega, by rw [dg_byte h]; omega⟩
  ·obtain ⟨c, r, h1, h2, h3⟩ := ih (u / 10) (by omega);exact ⟨c, r ++ [UInt8.ofNat (48 + u % 10)], by rw [Lib.decDigits, dif_neg h, h1]; rfl, h2, h3⟩
theorem parse_dec {n : Int} (h : I64 n) : Lib.parseIntB 64 (dec n).data.toList = .ok n := by
 have e : (dec n).data.toList = Lib.itoa n := rfl;rw [e];unfold I64 at h;by_cases hn : n < 0
 ·obtain ⟨u, hu⟩ : ∃ u : Nat, n = -(u : Int) := ⟨n.natAbs, by omega⟩;subst hu
  have hi : Lib.itoa (-(u : Int)) = 45 :: Lib.decDigits u := by
   unfold Lib.itoa;rw [if_pos hn];simp
  rw [hi, Lib.parseIntB_minus];unfold Lib.parseUintB;rw [if_neg (decDigits_ne _), show 2 ^ 64 - 1 = 18446744073709551615 from rfl, pm_dec u (by omega)];simp only [Lib.signedC];rw [if_neg (by omega)]
 ·obtain ⟨u, hu⟩ : ∃ u : Nat, n = (u : Int) := ⟨n.toNat, by omega⟩;subst hu
  have hi : Lib.itoa (u : Int) = Lib.decDigits u := by
   unfold Lib.itoa;rw [if_neg hn];simp
  obtain ⟨c, r, h1, h2, h3⟩ := decDigits_head u;rw [hi, h1, Lib.parseIntB_plain _ _ _ (by omega) (by omega), ← h1];unfold Lib.parseUintB;rw [if_neg (decDigits_ne _), show 2 ^ 64 - 1 = 18446744073709551615 from rfl, pm_dec u (by omega)];simp only [Lib.signlessC];rw [if_neg (by omega)]
theorem dec_inj {m n : Int} (hm : I64 m) (hn : I64 n) (h : dec m = dec n) : m = n := by
 have h1 := parse_dec hm;rw [h, parse_dec hn] at h1;exact (by injection h1 with h2; exact h2.symm)
noncomputable def decOf (s : ByteArray) : Option Int := by
 classical
 exact if h : ∃ n, I64 n ∧ s = dec n then some h.choose else none
theorem decOf_dec {n : Int} (h : I64 n) : decOf (dec n) = some n := by
 classical
 unfold decOf;have hx : ∃ m, I64 m ∧ dec n = dec m := ⟨n, h, rfl⟩;rw [dif_pos hx]
 congr 1
 exact (dec_inj h hx.choose_spec.1 hx.choose_spec.2).symm
theorem decOf_some {s : ByteArray} {n : Int} (h : decOf s = some n) : I64 n ∧ s = dec n := by
 classical
 unfold decOf at h;by_cases hx : ∃ n, I64 n ∧ s = dec n
 ·rw [dif_pos hx] at h;have := hx.choose_spec;rw [Option.some.inj h] at this;exact this
 ·rw [dif_neg hx] at h
  cases h
theorem dec_list (n : Int) : (dec n).data.toList = if n < 0 then 45 :: Lib.decDigits n.natAbs else Lib.decDigits n.natAbs := by
 have e : (dec n).data.toList = Lib.itoa n := rfl;rw [e];unfold Lib.itoa;by_cases h : n < 0
 ·rw [if_pos h, if_pos h]
 ·rw [if_neg h, if_neg h]
  congr 1
  omega
end Go.Proofs.YtplijnfaiofckaaGreatDoor
namespace Go.Proofs.YtplijnfaiofckaaGreatDoor
open Go.RowKit
set_option linter.unusedVariables false
set_option linter.unusedSimpArgs false
set_option maxRecDepth 100000
set_option maxHeartbeats 9000000
theorem get_list {s : ByteArray} {i : Nat} (h : i < s.size) : s.data.toList[i]? = some s[i] := by
 rw [Array.getElem?_toList, Array.getElem?_eq_getElem h];rfl
theorem str_eq (a b : ByteArray) : (a.toList == b.toList) = decide (a = b) := by
 by_cases h : a = b
 ·subst h; simp
 ·rw [decide_eq_false h];simp only [ByteArray.toList_eq, beq_eq_false_iff_ne, ne_eq];intro e;exact h (ByteArray.ext (Array.ext' e))
end Go.Proofs.YtplijnfaiofckaaGreatDoor
namespace Go.Proofs.YtplijnfaiofckaaGreatDoor
open Go.RowKit Go.Lib Go.Shelf
set_option linter.unusedVariables false
set_option linter.unusedSimpArgs false
set_option maxRecDepth 100000
set_option maxHeartbeats 9000000
noncomputable def natOf (s : ByteArray) (hi : Int) : Int := match decOf s with
 | some n => if 0 ≤ n ∧ n ≤ hi then n else -1
 | none => -1
def hxD : ByteArray := ⟨#[48, 49, 50, 51, 52, 53, 54, 55, 56, 57, 97, 98, 99, 100, 101, 102]⟩
def hexV (c : Int) : Int := if 48 ≤ c ∧ c ≤ 57 then c - 48 else if 97 ≤ c ∧ c ≤ 102 then c - 87 else -1
theorem hexV_lt (c : Int) : hexV c ≤ 15 ∧ -1 ≤ hexV c := by
 unfold hexV;split
 ·omega
 ·split <;> omega
def unhexL : List UInt8 → Option (List UInt8)
 | [] => some []
 | [_] => none
 | a :: b :: r => if hexV (a.toNat : Int) < 0 ∨ hexV (b.toNat : Int) < 0 then none else (unhexL r).map fun l => UInt8.ofNat (hexV (a.toNat : Int) * 16 + hexV (b.toNat : Int)).toNat :: l
def qd1 (s : ByteArray) : Option ByteArray := (unhexL s.data.toList).map fun l => ⟨l.toArray⟩
theorem unhex_odd : ∀ (l : List UInt8), l.length % 2 = 1 → unhexL l = none
 | [], h => by simp at h
 | [_], _ => rfl
 | a :: b :: r, h => by
  unfold unhexL;split
  ·rfl
  ·rw [unhex_odd r (by simp at h; omega)];rfl
theorem drop2 {s : ByteArray} {i : Nat} (h : i + 1 < s.size) : s.data.toList.drop i = s[i] :: s[i + 1] :: s.data.toList.drop (i + 2) := by
 have h1 := get_list (s := s) (i := i) (by omega);have h2 := get_list h;have hl : s.data.toList.length = s.size := by rw [Array.length_toList]; rfl
 rw [List.drop_eq_getElem_cons (by omega), List.drop_eq_getElem_cons (by omega)];rw [List.getElem?_eq_getElem (by omega)] at h1 h2;rw [Option.some.inj h1, Option.some.inj h2]
def HexEnds (s : ByteArray) (e : Ending) : Prop := ∃ (t : ByteArray) (b : Bool), e = .returned (.tuple #[.string t, .bool b]) ∧ (b = true → qd1 s = some t) ∧ (b = false → qd1 s = none)
def HexAt (s : ByteArray) (i : Nat) (X : ByteArray) : Prop := unhexL s.data.toList = (unhexL (s.data.toList.drop i)).map fun l => X.data.toList ++ l
theorem HexAt.start (s : ByteArray) : HexAt s 0 ByteArray.empty := by
 unfold HexAt;rw [List.drop_zero]
 cases unhexL s.data.toList <;> rfl
theorem by_one (x : UInt8) (X : ByteArray) (l : List UInt8) : X.data.toList ++ (x :: l) = (X ++ (⟨#[x]⟩ : ByteArray)).data.toList ++ l := by
 rw [ByteArray.data_append, Array.toList_append];simp
theorem HexAt.step {s : ByteArray} {i : Nat} {X : ByteArray} (h : HexAt s i X) (hi : i + 1 < s.size) (h1 : 0 ≤ hexV (s[i].toNat : Int)) (h2 : 0 ≤ hexV (s[i + 1].toNat : Int)) :
  HexAt s (i + 2) (X ++ ⟨#[UInt8.ofNat (hexV (s[i].toNat : Int) * 16 + hexV (s[i + 1].toNat : Int)).toNat]⟩) := by
 unfold HexAt at h ⊢;rw [h, drop2 hi, unhexL, if_neg (by omega)]
 cases unhexL (s.data.toList.drop (i + 2)) with
 | none => rfl
 | some l =>
  simp only [Option.map_some, Option.some.injEq];exact by_one _ _ _
theorem HexAt.bad {s : ByteArray} {i : Nat} {X : ByteArray} (h : HexAt s i X) (hi : i + 1 < s.size) (h1 : hexV (s[i].toNat : Int) < 0 ∨ hexV (s[i + 1].toNat : Int) < 0) : qd1 s = none := by
 unfold HexAt at h;unfold qd1;rw [h, drop2 hi, unhexL, if_pos h1];rfl
theorem HexAt.fin {s : ByteArray} {X : ByteArray} (h : HexAt s s.size X) : qd1 s = some X := by
 have hl : s.data.toList.length = s.size := by rw [Array.length_toList]; rfl
 unfold HexAt at h;unfold qd1;rw [List.drop_eq_nil_of_le (by omega)] at h;rw [h];simp [unhexL]
theorem unhexOf_odd {s : ByteArray} (h : s.size % 2 = 1) : qd1 s = none := by
 have hl : s.data.toList.length = s.size := by rw [Array.length_toList]; rfl
 unfold qd1;rw [unhex_odd _ (by omega)];rfl
theorem info8A : (Tryz.prog.info? 5).map (fun i => (i.zero, i.size, i.bytes)) = some (some (.int .u8 0), 1, 1) := by kernel_rfl
theorem byte_cells {x : Int} (h0 : 0 ≤ x) (h1 : x ≤ 255) : strCells (⟨#[UInt8.ofNat x.toNat]⟩ : ByteArray) = [.int .u8 x] := by
 simp only [strCells, List.map_cons, List.map_nil];have : ((UInt8.ofNat x.toNat).toNat : Int) = x := by rw [UInt8.toNat_ofNat']; omega
 rw [this]
end Go.Proofs.YtplijnfaiofckaaGreatDoor
namespace Go.Proofs.YtplijnfaiofckaaGreatDoor
open Go.RowKit
set_option linter.unusedVariables false
set_option linter.unusedSimpArgs false
set_option maxRecDepth 100000
set_option maxHeartbeats 9000000
instance (k : Nat) : Decidable (WideOp k) := by unfold WideOp; infer_instance
end Go.Proofs.YtplijnfaiofckaaGreatDoor
namespace Go.Proofs.YtplijnfaiofckaaGreatDoor
open Go.RowKit
set_option linter.unusedVariables false
end Go.Proofs.YtplijnfaiofckaaGreatDoor

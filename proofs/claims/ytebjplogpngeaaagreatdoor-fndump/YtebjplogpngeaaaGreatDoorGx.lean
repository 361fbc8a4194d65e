import Derived.Test.YtebjplogpngeaaaGreatDoorGu
import Derived.Test.YtebjplogpngeaaaGreatDoorLvX
import Derived.Test.YtebjplogpngeaaaGreatDoorGm
import Derived.Test.YtebjplogpngeaaaGreatDoorGw
import Derived.Test.YtebjplogpngeaaaGreatDoorGd
namespace Go.Proofs.YtebjplogpngeaaaGreatDoor
open Go.RowKit
set_option linter.unusedVariables false
set_option linter.unusedSimpArgs false
/-- B stands at p. -/
def At (s : ByteArray) (p : Nat) (B : ByteArray) : Prop := ∃ X Y, s = X ++ B ++ Y ∧ X.size = p
theorem At.left {s : ByteArray} {p : Nat} {A B : ByteArray} (h : At s p (A ++ B)) : At s p A := by
  obtain ⟨X, Y, e, hx⟩ := h
  exact ⟨X, B ++ Y, by rw [e]; simp only [ByteArray.append_assoc], hx⟩
theorem At.right {s : ByteArray} {p : Nat} {A B : ByteArray} (h : At s p (A ++ B)) : At s (p + A.size) B := by
  obtain ⟨X, Y, e, hx⟩ := h
  exact ⟨X ++ A, Y, by rw [e]; simp only [ByteArray.append_assoc], by rw [ByteArray.size_append, hx]⟩
theorem At.le {s : ByteArray} {p : Nat} {B : ByteArray} (h : At s p B) : p + B.size ≤ s.size := by
  obtain ⟨X, Y, e, hx⟩ := h
  rw [e, ByteArray.size_append, ByteArray.size_append]
  omega
theorem At.ext {s : ByteArray} {p : Nat} {B : ByteArray} (h : At s p B) : s.extract p (p + B.size) = B := by
  obtain ⟨X, Y, rfl, rfl⟩ := h
  apply ByteArray.ext
  simp only [ByteArray.data_extract, ByteArray.data_append, ByteArray.size]
  apply Array.ext'
  simp only [Array.toList_extract, Array.toList_append, List.extract]
  have hx : X.data.size = X.data.toList.length := by simp
  have hb : B.data.size = B.data.toList.length := by simp
  rw [hx, hb, List.append_assoc, List.drop_left, Nat.add_sub_cancel_left, List.take_left]
theorem At.of {s : ByteArray} {p q : Nat} {B : ByteArray} (h : s.extract p q = B) (h1 : p ≤ q) (h2 : q ≤ s.size) : At s p B := by
  refine ⟨s.extract 0 p, s.extract q s.size, ?_, by rw [ByteArray.size_extract]; omega⟩
  rw [← h]
  apply ByteArray.ext
  simp only [ByteArray.data_extract, ByteArray.data_append]
  have hq : q ≤ s.data.size := h2
  apply Array.ext'
  simp only [Array.toList_append, Array.toList_extract, List.extract, Nat.sub_zero, List.drop_zero]
  have e3 : (s.data.toList.drop q).take (s.size - q) = s.data.toList.drop q := List.take_of_length_le (by rw [List.length_drop, Array.length_toList]; exact Nat.le_refl _)
  rw [e3]
  have e1 : s.data.toList.take p ++ (s.data.toList.drop p).take (q - p) = s.data.toList.take q := by
    rw [← List.take_add]; congr 1; omega
  rw [e1, List.take_append_drop]
theorem At.more {s t : ByteArray} {p : Nat} {B : ByteArray} (h : At s p B) : At (s ++ t) p B := by
  obtain ⟨X, Y, rfl, hx⟩ := h
  exact ⟨X, Y ++ t, by simp only [ByteArray.append_assoc], hx⟩
theorem At.rest {s : ByteArray} {p : Nat} {B : ByteArray} (h : At s p B) : (s.extract p s.size).extract 0 B.size = B := by
  rw [WPut.rest_head _ _ _ h.le]; exact h.ext
theorem take_split {α : Type} (l : List α) (a b : Nat) (h : a ≤ b) : l.take b = l.take a ++ (l.drop a).take (b - a) := by
  rw [← List.take_add, show a + (b - a) = b by omega]
theorem proper_prefix : ∀ (l m : List Int), WPut.proper l → WPut.proper (l ++ m) → m = []
  | [], m, h, _ => h.elim
  | [x], [], _, _ => rfl
  | [x], y :: ys, h, k => by have := h.2; have := k.1; omega
  | x :: y :: xs, m, h, k => proper_prefix (y :: xs) m h.2.2 k.2.2
/-- no varint is the beginning of another one. -/
theorem pv_prefix {r : ByteArray} {m n : Int} (hm0 : 0 ≤ m) (hm1 : m ≤ 16777215) (hn0 : 0 ≤ n) (hn1 : n ≤ 16777215) (h1 : r.extract 0 (WPut.pv m).size = WPut.pv m) (h2 : r.extract 0 (WPut.pv n).size = WPut.pv n) (hl : (WPut.pv m).size ≤ (WPut.pv n).size) : m = n := by
  obtain ⟨_, _, p1, d1⟩ := WPut.at_pv hm0 hm1 h1
  obtain ⟨_, _, p2, d2⟩ := WPut.at_pv hn0 hn1 h2
  have e : (r.extract 0 (WPut.pv n).size).data.toList = (r.extract 0 (WPut.pv m).size).data.toList ++ (r.data.toList.drop (WPut.pv m).size).take ((WPut.pv n).size - (WPut.pv m).size) := by
    simp only [ByteArray.data_extract, Array.toList_extract, List.extract, Nat.sub_zero, List.drop_zero]
    exact take_split _ _ _ hl
  rw [e, List.map_append] at p2 d2
  have := proper_prefix _ _ p1 p2
  rw [this, List.append_nil] at d2
  rw [← d1, ← d2]
/-- f reads x where B stands. -/
def Rds {α : Type} (s : ByteArray) (f : RS → α × RS) (x : α) (B : ByteArray) : Prop := ∀ p, At s p B → f ⟨p, 0⟩ = (x, ⟨p + B.size, 0⟩)
/-- one reader behind another. -/
def bnd {α β : Type} (f : RS → α × RS) (g : α → RS → β × RS) (r : RS) : β × RS := g (f r).1 (f r).2
theorem Rds.bnd {α β : Type} {s : ByteArray} {f : RS → α × RS} {g : α → RS → β × RS} {x : α} {y : β} {A B : ByteArray} (h1 : Rds s f x A) (h2 : Rds s (g x) y B) : Rds s (bnd f g) y (A ++ B) := fun p hp => by
  unfold Proofs.YtebjplogpngeaaaGreatDoor.bnd
  rw [h1 p hp.left, h2 _ hp.right, ByteArray.size_append, Nat.add_assoc]
theorem Rds.pure {α : Type} {s : ByteArray} (x : α) : Rds s (fun r => (x, r)) x ByteArray.empty := fun p _ => by simp
theorem Rds.end {α β : Type} {s : ByteArray} {f : RS → α × RS} {k : α → β} {x : α} {A : ByteArray} (h1 : Rds s f x A) : Rds s (Proofs.YtebjplogpngeaaaGreatDoor.bnd f fun a r => (k a, r)) (k x) A := fun p hp => by
  unfold Proofs.YtebjplogpngeaaaGreatDoor.bnd
  rw [h1 p hp]
section
variable {s : ByteArray} {V : Nat → Option (Int × Nat)} (hV : VrAt s V)
include hV
theorem at_V {p : Nat} {n : Int} (h0 : 0 ≤ n) (h1 : n ≤ 16777215) (hp : At s p (WPut.pv n)) : V p = some (n, p + (WPut.pv n).size) := by
  have hle := hp.le
  cases e : V p with
  | none => exact absurd hp.rest (hV.none p (by omega) e n h0 h1)
  | some x =>
    obtain ⟨m, q⟩ := x
    obtain ⟨b0, b1, b2, b3⟩ := hV.ok.bd p m q e
    have hm := hV.some p m q e
    have hq : q = p + (WPut.pv m).size := by rw [← hm, ByteArray.size_extract]; omega
    subst hq
    have hm' : (s.extract p s.size).extract 0 (WPut.pv m).size = WPut.pv m := by rw [WPut.rest_head _ _ _ b3]; exact hm
    have hn' := hp.rest
    have : m = n := by
      by_cases hl : (WPut.pv m).size ≤ (WPut.pv n).size
      · exact pv_prefix b0 b1 h0 h1 hm' hn' hl
      · exact (pv_prefix h0 h1 b0 b1 hn' hm' (by omega)).symm
    rw [this]
theorem rds_any {n : Int} (h0 : 0 ≤ n) (h1 : n ≤ 16777215) : Rds s (rdAny s V) n (WPut.pv n) := fun p hp => by
  unfold rdAny
  rw [if_neg (by simp)]
  simp only [at_V hV h0 h1 hp]
theorem rds_num {lo hi n : Int} (h0 : 0 ≤ n) (h1 : n ≤ 16777215) (hl : lo ≤ n) (hh : n ≤ hi) : Rds s (rdNum s V lo hi) n (WPut.pv n) := fun p hp => by
  unfold rdNum
  rw [rds_any hV h0 h1 p hp]
  dsimp only
  rw [if_neg (by simp), if_neg (by omega)]
theorem rds_cnt {all n : Int} (h0 : 0 ≤ n) (h1 : n ≤ 16777215) (hl : n = 0 ∨ n = all) : Rds s (rdCnt s V all) n (WPut.pv n) := fun p hp => by
  unfold rdCnt
  rw [rds_any hV h0 h1 p hp]
  dsimp only
  rw [if_neg (by simp), if_pos hl]
end
theorem rds_bytes {s : ByteArray} (B : ByteArray) : Rds s (rdBytes s B.size) B B := fun p hp => by
  unfold rdBytes
  rw [if_neg (by simp), if_pos hp.le, hp.ext]
theorem by1_get (n : Int) (h0 : 0 ≤ n) (h1 : n ≤ 255) : (by1 n).data.toList = [UInt8.ofNat n.toNat] := by
  unfold by1
  rw [strOfNums_data]
  rfl
theorem At.one {s : ByteArray} {p : Nat} {n : Int} (h0 : 0 ≤ n) (h1 : n ≤ 255) (h : At s p (by1 n)) : ∃ hp : p < s.size, s[p].toNat = n.toNat := by
  have hle := h.le
  rw [by1_size] at hle
  refine ⟨by omega, ?_⟩
  have e := congrArg (fun b : ByteArray => b.data.toList) h.ext
  simp only [by1_get n h0 h1, by1_size] at e
  simp only [ByteArray.data_extract, Array.toList_extract, List.extract] at e
  have hlt : p < s.data.toList.length := by simp; exact hle
  rw [show p + 1 - p = 1 by omega, List.take_one, List.head?_drop, List.getElem?_eq_getElem hlt] at e
  simp at e
  have e2 : s[p] = s.data.toList[p] := rfl
  rw [e2]
  simp only [Array.getElem_toList]
  rw [e]
  simp
  omega
theorem rds_byte {s : ByteArray} {hi : Nat} {n : Int} (h0 : 0 ≤ n) (h1 : n ≤ hi) (h2 : n ≤ 255) : Rds s (rdByte s hi) n.toNat (by1 n) := fun p hp => by
  obtain ⟨hlt, e⟩ := hp.one h0 h2
  unfold rdByte
  rw [if_neg (by simp), dif_pos hlt]
  dsimp only
  rw [e, if_neg (by omega), by1_size]
theorem rds_flag {s : ByteArray} (b : Bool) : Rds s (rdByte s 1) (if b then 1 else 0) (flagB b) := by
  have := rds_byte (s := s) (hi := 1) (n := if b then 1 else 0) (by split <;> omega) (by split <;> omega) (by split <;> omega)
  cases b <;> exact this
theorem rds_text {s : ByteArray} {V : Nat → Option (Int × Nat)} (hV : VrAt s V) {B : ByteArray} (h : B.size ≤ 1000) : Rds s (rdText s V) B (sizedB B) := by
  have h1 := rds_num hV (lo := 0) (hi := 1000) (n := (B.size : Int)) (by omega) (by omega) (by omega) (by omega)
  have : rdText s V = bnd (rdNum s V 0 1000) fun x r => rdBytes s x.toNat r := rfl
  rw [this]
  exact Rds.bnd h1 (by rw [Int.toNat_natCast]; exact rds_bytes B)
theorem rdSev_snoc {α : Type} {rd : RS → α × RS} : ∀ (n : Nat) (r : RS) (acc L : List α) (r' : RS), rdSev rd n r acc = (L, r') → r'.bad = 0 → (rd r').2.bad = 0 → rdSev rd (n + 1) r acc = (L ++ [(rd r').1], (rd r').2)
  | 0, r, acc, L, r', h, h0, h1 => by
    simp only [rdSev, Prod.mk.injEq] at h
    obtain ⟨rfl, rfl⟩ := h
    rw [rdSev_ok h1, rdSev]
  | n + 1, r, acc, L, r', h, h0, h1 => by
    by_cases hb : (rd r).2.bad = 0
    · rw [rdSev_ok hb] at h ⊢
      exact rdSev_snoc n _ _ L r' h h0 h1
    · rw [rdSev_bad hb] at h
      simp only [Prod.mk.injEq] at h
      obtain ⟨rfl, rfl⟩ := h
      exact absurd h0 hb
theorem rds_sev {α : Type} {s : ByteArray} {rd : RS → α × RS} {f : Nat → α} {B : Nat → ByteArray} : ∀ (n : Nat), (∀ i, i < n → Rds s rd (f i) (B i)) → Rds s (fun r => rdSev rd n r []) ((List.range n).map f) (cat B n)
  | 0, _ => fun p _ => by simp [rdSev, cat]
  | n + 1, h => fun p hp => by
    have ih := rds_sev n (fun i hi => h i (by omega)) p hp.left
    have hr := h n (by omega) _ hp.right
    have := rdSev_snoc n ⟨p, 0⟩ [] _ _ ih rfl (by rw [hr])
    show rdSev rd (n + 1) ⟨p, 0⟩ [] = _
    rw [this, hr, List.range_succ, List.map_append, cat_succ, ByteArray.size_append, Nat.add_assoc]
    rfl
end Go.Proofs.YtebjplogpngeaaaGreatDoor
namespace Go.Proofs.YtebjplogpngeaaaGreatDoor
open Go.RowKit
set_option linter.unusedVariables false
set_option linter.unusedSimpArgs false
theorem empty_of {b : ByteArray} (h : b.size = 0) : b = ByteArray.empty := by
  apply ByteArray.ext
  exact Array.size_eq_zero_iff.1 h
theorem le4_nums (a b c d : Int) (l : List Int) (ha : 0 ≤ a ∧ a ≤ 255) (hb : 0 ≤ b ∧ b ≤ 255) (hc : 0 ≤ c ∧ c ≤ 255) (hd : 0 ≤ d ∧ d ≤ 255) : (le4 (strOfNums (a :: b :: c :: d :: l)) 0 : Int) = a + 256 * b + 65536 * c + 16777216 * d := by
  have e : le4 (strOfNums (a :: b :: c :: d :: l)) 0 = (UInt8.ofNat a.toNat).toNat + 256 * (UInt8.ofNat b.toNat).toNat + 65536 * (UInt8.ofNat c.toNat).toNat + 16777216 * (UInt8.ofNat d.toNat).toNat := rfl
  rw [e]
  simp only [UInt8.toNat_ofNat']
  omega
theorem le4_nums4 (x y z t a b c d : Int) (ha : 0 ≤ a ∧ a ≤ 255) (hb : 0 ≤ b ∧ b ≤ 255) (hc : 0 ≤ c ∧ c ≤ 255) (hd : 0 ≤ d ∧ d ≤ 255) : (le4 (strOfNums [x, y, z, t, a, b, c, d]) 4 : Int) = a + 256 * b + 65536 * c + 16777216 * d := by
  have e : le4 (strOfNums [x, y, z, t, a, b, c, d]) 4 = (UInt8.ofNat a.toNat).toNat + 256 * (UInt8.ofNat b.toNat).toNat + 65536 * (UInt8.ofNat c.toNat).toNat + 16777216 * (UInt8.ofNat d.toNat).toNat := rfl
  rw [e]
  simp only [UInt8.toNat_ofNat']
  omega
theorem rds_word {s : ByteArray} {z : Int} (h0 : 0 ≤ z) (h1 : z ≤ 4294967295) : Rds s (rdWord s) z.toNat (u4 z) := fun p hp => by
  have h := rds_bytes (s := s) (u4 z) p hp
  rw [u4_size] at h
  unfold rdWord
  dsimp only
  rw [h, u4_size]
  dsimp only
  rw [if_neg (by omega)]
  have e := le4_nums (z % 256) (z / 256 % 256) (z / 65536 % 256) (z / 16777216 % 256) [] (by omega) (by omega) (by omega) (by omega)
  have : le4 (u4 z) 0 = z.toNat := by
    have e2 : (le4 (u4 z) 0 : Int) = z := by
      show (le4 (strOfNums _) 0 : Int) = z
      rw [e]; omega
    omega
  rw [this]
theorem gi0_i8 {z : Int} (h0 : -9223372036854775808 ≤ z) (h1 : z ≤ 9223372036854775807) : gi0 (i8 z) = z := by
  unfold gi0
  rw [if_pos (by rw [i8_size]; omega)]
  obtain ⟨y, hy⟩ : ∃ y, z % 18446744073709551616 = y := ⟨_, rfl⟩
  have hl : WPut.leL 8 y = [y % 256, y / 256 % 256, y / 256 / 256 % 256, y / 256 / 256 / 256 % 256, y / 256 / 256 / 256 / 256 % 256, y / 256 / 256 / 256 / 256 / 256 % 256, y / 256 / 256 / 256 / 256 / 256 / 256 % 256, y / 256 / 256 / 256 / 256 / 256 / 256 / 256 % 256] := rfl
  have e1 := le4_nums (y % 256) (y / 256 % 256) (y / 256 / 256 % 256) (y / 256 / 256 / 256 % 256) [y / 256 / 256 / 256 / 256 % 256, y / 256 / 256 / 256 / 256 / 256 % 256, y / 256 / 256 / 256 / 256 / 256 / 256 % 256, y / 256 / 256 / 256 / 256 / 256 / 256 / 256 % 256] (by omega) (by omega) (by omega) (by omega)
  have e2 := le4_nums4 (y % 256) (y / 256 % 256) (y / 256 / 256 % 256) (y / 256 / 256 / 256 % 256) (y / 256 / 256 / 256 / 256 % 256) (y / 256 / 256 / 256 / 256 / 256 % 256) (y / 256 / 256 / 256 / 256 / 256 / 256 % 256) (y / 256 / 256 / 256 / 256 / 256 / 256 / 256 % 256) (by omega) (by omega) (by omega) (by omega)
  have h8 : (le8 (i8 z) 0 : Int) = y := by
    unfold le8 i8
    rw [hy, hl]
    simp only [Nat.zero_add, Int.natCast_add, Int.natCast_mul]
    rw [e1, e2]
    omega
  rw [h8]
  unfold wrap64 at *
  omega
theorem rds_val {s : ByteArray} {V : Nat → Option (Int × Nat)} (hV : VrAt s V) {d : VD} (hp : Plain d) (h0 : -9223372036854775808 ≤ d.num) (h1 : d.num ≤ 9223372036854775807) : Rds s (rdVal s V gi0) d (constB d) := by
  obtain ⟨kind, num, text⟩ := d
  have e : rdVal s V gi0 = bnd (rdByte s 4) fun x r => if x = 1 ∨ x = 2 then (⟨1, (x : Int) - 1, ByteArray.empty⟩, r) else if x = 3 then (⟨2, gi0 (rdBytes s 8 r).1, ByteArray.empty⟩, (rdBytes s 8 r).2) else if x = 4 then (⟨3, 0, (rdText s V r).1⟩, (rdText s V r).2) else (⟨0, 0, ByteArray.empty⟩, r) := rfl
  rw [e]
  unfold Plain at hp
  dsimp only at hp h0 h1
  rcases hp with ⟨rfl, rfl, ht⟩ | ⟨rfl, hn, ht⟩ | ⟨rfl, ht⟩ | ⟨rfl, rfl, ht⟩
  · rw [empty_of ht]
    intro p hp
    have hp' : At s p (by1 0) := hp
    have := rds_byte (s := s) (hi := 4) (n := 0) (by omega) (by omega) (by omega) p hp'
    unfold bnd
    rw [this]
    rfl
  · rw [empty_of ht]
    intro p hp
    have hp' : At s p (by1 (1 + num)) := hp
    have := rds_byte (s := s) (hi := 4) (n := 1 + num) (by omega) (by omega) (by omega) p hp'
    unfold bnd
    rw [this]
    rcases hn with rfl | rfl <;> rfl
  · rw [empty_of ht]
    intro p hp
    have hp' : At s p (by1 3 ++ i8 num) := hp
    have := rds_byte (s := s) (hi := 4) (n := 3) (by omega) (by omega) (by omega) p hp'.left
    have h8 := rds_bytes (s := s) (i8 num) _ hp'.right
    rw [i8_size] at h8
    unfold bnd
    rw [this]
    show (({ kind := 2, num := gi0 (rdBytes s 8 ⟨p + (by1 3).size, 0⟩).1, text := ByteArray.empty } : VD), (rdBytes s 8 ⟨p + (by1 3).size, 0⟩).2) = (_, ⟨p + (by1 3 ++ i8 num).size, 0⟩)
    rw [h8, gi0_i8 h0 h1, ByteArray.size_append, i8_size, Nat.add_assoc]
  · intro p hp
    have hp' : At s p (by1 4 ++ sizedB text) := hp
    have := rds_byte (s := s) (hi := 4) (n := 4) (by omega) (by omega) (by omega) p hp'.left
    have h8 := rds_text hV ht _ hp'.right
    unfold bnd
    rw [this]
    show (({ kind := 3, num := 0, text := (rdText s V ⟨p + (by1 4).size, 0⟩).1 } : VD), (rdText s V ⟨p + (by1 4).size, 0⟩).2) = (_, ⟨p + (by1 4 ++ sizedB text).size, 0⟩)
    rw [h8, ByteArray.size_append, Nat.add_assoc]
theorem rds_up {s : ByteArray} {V : Nat → Option (Int × Nat)} (hV : VrAt s V) {u : UD} (h : NumOk u.index) : Rds s (rdUp s V) u (upB u) := by
  have e : rdUp s V = bnd (rdByte s 1) fun a => bnd (rdAny s V) fun b r => (⟨decide (a = 1), b⟩, r) := rfl
  rw [e]
  have := Rds.bnd (rds_flag (s := s) u.stack) (g := fun a => bnd (rdAny s V) fun b r => ((⟨decide (a = 1), b⟩ : UD), r)) (Rds.end (k := fun b => (⟨decide ((if u.stack then 1 else 0) = 1), b⟩ : UD)) (rds_any hV h.1 h.2))
  obtain ⟨st, ix⟩ := u
  cases st <;> exact this
/-- the prototype that is read. -/
def prOf (p : PD) : PR :=
  { params := p.params, regs := p.regs, kids := p.kids, vararg := p.vararg, code := (List.range p.code.n).map fun i => (p.code.f i).toNat, consts := (List.range p.consts.n).map p.consts.f, ups := (List.range p.ups.n).map p.ups.f,
    name := p.name, lines := (List.range p.lines.n).map p.lines.f, upNames := (List.range p.upNames.n).map p.upNames.f }
theorem rds_dbg {s : ByteArray} {V : Nat → Option (Int × Nat)} (hV : VrAt s V) {p : PD} (ok : ProtoOk p) (hb : ¬ Bare p) :
    Rds s (rdDbg s V p.code.n p.ups.n) (p.name, (List.range p.lines.n).map p.lines.f, (List.range p.upNames.n).map p.upNames.f) (sizedB p.name ++ (pvN p.lines.n ++ (linesB p ++ (pvN p.upNames.n ++ upNamesB p)))) := by
  have h1 := ok.lines
  have h2 := ok.upNames
  have h3 := ok.code2
  have h4 := ok.ups
  have e : rdDbg s V p.code.n p.ups.n = bnd (rdText s V) fun t => bnd (rdCnt s V p.code.n) fun a => bnd (fun r => rdSev (rdAny s V) a.toNat r []) fun ls => bnd (rdCnt s V p.ups.n) fun b => bnd (fun r => rdSev (rdText s V) b.toNat r []) fun ns r => ((t, ls, ns), if t.size = 0 ∧ ls.length = 0 ∧ ns.length = 0 then r.fail 3 else r) := rfl
  rw [e]
  refine Rds.bnd (rds_text hV ok.name) (Rds.bnd (rds_cnt hV (by omega) (by omega) (by omega)) (Rds.bnd (x := (List.range p.lines.n).map p.lines.f) ?_ (Rds.bnd (rds_cnt hV (by omega) (by omega) (by omega)) ?_)))
  · rw [Int.toNat_natCast]
    exact rds_sev p.lines.n fun i hi => rds_any hV (ok.allLines i hi).1 (ok.allLines i hi).2
  · intro q hq
    have h := rds_sev (s := s) (rd := rdText s V) p.upNames.n (fun i hi => rds_text hV (ok.allUpNames i hi)) q hq
    unfold bnd
    rw [Int.toNat_natCast]
    dsimp only at h ⊢
    rw [h]
    dsimp only
    rw [if_neg]
    · rfl
    · simp only [List.length_map, List.length_range]
      exact hb
theorem rds_pro {s : ByteArray} {V : Nat → Option (Int × Nat)} (hV : VrAt s V) {p : PD} (ok : ProtoOk p) (hw : PW p) {most : Int} (hk0 : 0 ≤ p.kids) (hk1 : p.kids ≤ most) (hk2 : p.kids ≤ 16777215) : Rds s (rdPro s V gi0 most) (prOf p) (protoB p) := by
  have a1 := ok.regs1
  have a2 := ok.regs2
  have a3 := ok.par1
  have a4 := ok.par2
  have a5 := ok.code1
  have a6 := ok.code2
  have a7 := ok.consts
  have a8 := ok.ups
  have e : rdPro s V gi0 most = bnd (rdByte s 1) fun a => bnd (rdNum s V 0 250) fun b => bnd (rdNum s V (max 1 b) 250) fun c => bnd (rdNum s V 1 2000) fun d => bnd (fun r => rdSev (rdWord s) d.toNat r []) fun co => bnd (rdNum s V 0 500) fun e => bnd (fun r => rdSev (rdVal s V gi0) e.toNat r []) fun cs => bnd (rdNum s V 0 60) fun f => bnd (fun r => rdSev (rdUp s V) f.toNat r []) fun us => bnd (rdNum s V 0 most) fun k => bnd (rdByte s 1) fun g => bnd (fun r => if g = 1 then rdDbg s V co.length us.length r else ((⟨#[]⟩, [], []), r)) fun x r => (⟨b, c, k, decide (a = 1), co, cs, us, x.1, x.2.1, x.2.2⟩, r) := rfl
  have hB : protoB p = flagB p.vararg ++ (WPut.pv p.params ++ (WPut.pv p.regs ++ (pvN p.code.n ++ (codeB p ++ (pvN p.consts.n ++ (constsB p ++ (pvN p.ups.n ++ (upsB p ++ (WPut.pv p.kids ++ debugB p))))))))) := by
    simp only [protoB, ByteArray.append_assoc]
  rw [e, hB]
  refine Rds.bnd (rds_flag p.vararg) (Rds.bnd (rds_num hV a3 (by omega) a3 (by omega)) (Rds.bnd (rds_num hV (by omega) (by omega) (by omega) a2) (Rds.bnd (rds_num hV (n := (p.code.n : Int)) (by omega) (by omega) (by omega) (by omega)) (Rds.bnd (x := (List.range p.code.n).map fun i => (p.code.f i).toNat) ?_ (Rds.bnd (rds_num hV (n := (p.consts.n : Int)) (by omega) (by omega) (by omega) (by omega)) (Rds.bnd (x := (List.range p.consts.n).map p.consts.f) ?_ (Rds.bnd (rds_num hV (n := (p.ups.n : Int)) (by omega) (by omega) (by omega) (by omega)) (Rds.bnd (x := (List.range p.ups.n).map p.ups.f) ?_ (Rds.bnd (rds_num hV hk0 hk2 hk0 hk1) ?_)))))))))
  · rw [Int.toNat_natCast]
    exact rds_sev p.code.n fun i hi => rds_word (hw.code i hi).1 (hw.code i hi).2
  · rw [Int.toNat_natCast]
    exact rds_sev p.consts.n fun i hi => rds_val hV (ok.allConsts i hi) (hw.consts i hi).low (hw.consts i hi).high
  · rw [Int.toNat_natCast]
    exact rds_sev p.ups.n fun i hi => rds_up hV (ok.allUps i hi)
  · have ev : decide ((if p.vararg then 1 else 0) = 1) = p.vararg := by cases p.vararg <;> rfl
    by_cases hb : Bare p
    · rw [debugB_bare hb]
      intro q hq
      have h := rds_flag (s := s) false q hq
      unfold bnd
      rw [h]
      dsimp only
      rw [ev]
      obtain ⟨b1, b2, b3⟩ := hb
      unfold prOf
      rw [b2, b3, empty_of b1]
      rfl
    · rw [debugB_full hb]
      simp only [ByteArray.append_assoc]
      have hd := rds_dbg hV ok hb
      intro q hq
      have h := rds_flag (s := s) true q hq.left
      have h2 := hd _ hq.right
      unfold bnd
      rw [h]
      dsimp only
      rw [ev, List.length_map, List.length_map, List.length_range, List.length_range]
      simp only [if_true]
      have hsz : ∀ X Y : ByteArray, q + (X ++ Y).size = q + X.size + Y.size := fun X Y => by rw [ByteArray.size_append, Nat.add_assoc]
      rw [h2, hsz (flagB true)]
      rfl
end Go.Proofs.YtebjplogpngeaaaGreatDoor
namespace Go.Proofs.YtebjplogpngeaaaGreatDoor
open Go.RowKit
set_option linter.unusedVariables false
set_option linter.unusedSimpArgs false
/-- the prototypes from number i up to e. -/
def prsOf (C : Sl PD) (i e : Nat) : List PR := (List.range' i (e - i)).map fun j => prOf (C.f j)
theorem prsOf_nil (C : Sl PD) (i : Nat) : prsOf C i i = [] := by simp [prsOf]
theorem prsOf_join (C : Sl PD) {i m e : Nat} (h1 : i ≤ m) (h2 : m ≤ e) : prsOf C i m ++ prsOf C m e = prsOf C i e := by
  unfold prsOf
  rw [← List.map_append]
  congr 1
  have := List.range'_append_1 (s := i) (m := m - i) (n := e - m)
  rw [show i + (m - i) = m by omega] at this
  rw [this]
  congr 1
  omega
theorem prsOf_cons (C : Sl PD) {i e : Nat} (h : i < e) : prOf (C.f i) :: prsOf C (i + 1) e = prsOf C i e := by
  unfold prsOf
  rw [show e - i = (e - (i + 1)) + 1 by omega, List.range'_succ]
  rfl
/-- how many prototypes have been told of ahead of number i. -/
def told (C : Sl PD) : Nat → Int
  | 0 => 1
  | i + 1 => told C i + (C.f i).kids
theorem told_fo {C : Sl PD} {k i e h : Nat} (t : Fo (kidsOf C) C.n k i e h) : told C e = told C i + ((e : Int) - i - k) := by
  induction t with
  | nil => simp
  | @cons k i m e h1 h2 hi hk t1 t2 ih1 ih2 =>
    have hk' : (((kidsOf C i).toNat : Nat) : Int) = (C.f i).kids := Int.toNat_of_nonneg hk
    have e1 : told C (i + 1) = told C i + (C.f i).kids := rfl
    rw [ih2, ih1, e1]
    omega
/-- where number i stands. -/
noncomputable def posOf (C : Sl PD) (i : Nat) : Nat := 6 + (cat (fun i => protoB (C.f i)) i).size
theorem posOf_succ (C : Sl PD) (i : Nat) : posOf C (i + 1) = posOf C i + (protoB (C.f i)).size := by
  unfold posOf
  rw [cat_succ, ByteArray.size_append]
  omega
theorem cat_split (f : Nat → ByteArray) {i n : Nat} (h : i < n) : ∃ Y, cat f n = cat f i ++ f i ++ Y := by
  induction n with
  | zero => omega
  | succ n ih =>
    by_cases e : i = n
    · subst e
      exact ⟨ByteArray.empty, by rw [cat_succ]; simp⟩
    · obtain ⟨Y, hY⟩ := ih (by omega)
      exact ⟨Y ++ f n, by rw [cat_succ, hY]; simp only [ByteArray.append_assoc]⟩
theorem headB_size : headB.size = 6 := strOfNums_size _
theorem at_proto (C : Sl PD) (t : ByteArray) {i : Nat} (h : i < C.n) : At (chunkB C ++ t) (posOf C i) (protoB (C.f i)) := by
  obtain ⟨Y, hY⟩ := cat_split (fun i => protoB (C.f i)) h
  refine ⟨headB ++ cat (fun i => protoB (C.f i)) i, Y ++ t, ?_, ?_⟩
  · unfold chunkB
    rw [hY]
    simp only [ByteArray.append_assoc]
  · rw [ByteArray.size_append, headB_size]
    rfl
theorem told_le {C : Sl PD} (hn : C.n ≤ 200) (hT : told C C.n = C.n) (h0 : ∀ i, i < C.n → 0 ≤ (C.f i).kids) {i : Nat} (hi : i < C.n) : 1 ≤ told C i ∧ told C i + (C.f i).kids ≤ 200 := by
  have key : ∀ d, i + 1 + d ≤ C.n → told C (i + 1) ≤ told C (i + 1 + d) := fun d => by
    induction d with
    | zero => intro _; exact Int.le_refl _
    | succ d ih =>
      intro h
      have := ih (by omega)
      have := h0 (i + 1 + d) (by omega)
      have e : told C (i + 1 + (d + 1)) = told C (i + 1 + d) + (C.f (i + 1 + d)).kids := rfl
      omega
  have low : ∀ j, j ≤ C.n → 1 ≤ told C j := fun j => by
    induction j with
    | zero => intro _; exact Int.le_refl _
    | succ j ih =>
      intro h
      have := ih (by omega)
      have := h0 j (by omega)
      have e : told C (j + 1) = told C j + (C.f j).kids := rfl
      omega
  have := key (C.n - (i + 1)) (by omega)
  rw [show i + 1 + (C.n - (i + 1)) = C.n by omega, hT] at this
  have e : told C (i + 1) = told C i + (C.f i).kids := rfl
  have := low i (by omega)
  omega
section
variable {C : Sl PD} {t : ByteArray} {V : Nat → Option (Int × Nat)} (hV : VrAt (chunkB C ++ t) V) (ok : ∀ i, i < C.n → ProtoOk (C.f i)) (hw : ∀ i, i < C.n → PW (C.f i)) (hn : C.n ≤ 200) (hT : told C C.n = C.n) (h0 : ∀ i, i < C.n → 0 ≤ (C.f i).kids)
include hV ok hw hn hT h0
theorem read_for {k i e h : Nat} (tr : Fo (kidsOf C) C.n k i e h) : ∀ (f : Nat) (ab : Int) (acc : List (List PR)), h ≤ f → 0 ≤ ab → ab + h ≤ 64 → ∃ Ls, rdFor (rdTree (chunkB C ++ t) V f ab) k ⟨posOf C i, 0⟩ (told C i) acc = (acc ++ Ls, ⟨posOf C e, 0⟩, told C e) ∧ Ls.flatten = prsOf C i e := by
  induction tr with
  | @nil i => intro f ab acc _ _ _; exact ⟨[], by simp [rdFor], by rw [prsOf_nil]; rfl⟩
  | @cons k i m e h1 h2 hi hk t1 t2 ih1 ih2 =>
    intro f ab acc hf ha hab
    obtain ⟨f, rfl⟩ : ∃ g, f = g + 1 := ⟨f - 1, by omega⟩
    have hkk : kidsOf C i = (C.f i).kids := rfl
    rw [hkk] at ih1 hk t1
    have hle := told_le hn hT h0 hi
    have hm : (C.f i).kids ≤ (if ab = 63 then 0 else 200 - told C i) := by
      split
      · rename_i h63
        have z : h1 = 0 := by omega
        subst z
        by_cases hz : (C.f i).kids.toNat = 0
        · omega
        · exfalso
          obtain ⟨c, hc⟩ : ∃ c, (C.f i).kids.toNat = c + 1 := ⟨(C.f i).kids.toNat - 1, by omega⟩
          rw [hc] at t1
          generalize hz0 : 0 = z at t1
          cases t1
          omega
      · omega
    have hp := rds_pro hV (ok i hi) (hw i hi) hk hm (by omega) _ (at_proto C t hi)
    obtain ⟨L1, r1, q1⟩ := ih1 f (ab + 1) [] (by omega) (by omega) (by omega)
    have htree : rdTree (chunkB C ++ t) V (f + 1) ab ⟨posOf C i, 0⟩ (told C i) = (prsOf C i m, ⟨posOf C m, 0⟩, told C m) := by
      unfold rdTree
      dsimp only
      rw [hp]
      dsimp only
      rw [show (prOf (C.f i)).kids = (C.f i).kids from rfl, ← posOf_succ, show told C i + (C.f i).kids = told C (i + 1) from rfl, r1]
      dsimp only
      rw [List.nil_append, q1, prsOf_cons C (by have := t1.le.1; omega)]
    obtain ⟨L2, r2, q2⟩ := ih2 (f + 1) ab (acc ++ [prsOf C i m]) (by omega) ha (by omega)
    refine ⟨prsOf C i m :: L2, ?_, ?_⟩
    · rw [rdFor_ok (by rw [htree]), htree]
      dsimp only
      rw [r2, List.append_assoc]
      rfl
    · rw [List.flatten_cons, q2, prsOf_join C (by have := t1.le.1; omega) (by have := t2.le.1; omega)]
end
theorem hdr_ok (C : Sl PD) (t : ByteArray) : HdrOk (chunkB C ++ t) := by
  have h : At (chunkB C ++ t) 0 headB := ⟨ByteArray.empty, cat (fun i => protoB (C.f i)) C.n ++ t, by unfold chunkB; simp [ByteArray.append_assoc], rfl⟩
  refine ⟨by have := h.le; rw [headB_size] at this; omega, ?_⟩
  have e := h.ext
  rw [headB_size] at e
  rw [e, ByteArray.toList_eq]
  unfold headB
  rw [strOfNums_data]
  rfl
/-- what was written is read, whatever stands behind it. -/
theorem read_back {C : Sl PD} {t : ByteArray} {V : Nat → Option (Int × Nat)} (hV : VrAt (chunkB C ++ t) V) (hwf : Wf C) (hw : ∀ i, i < C.n → PW (C.f i)) :
    ∃ an, rdTree (chunkB C ++ t) V 64 0 (rd0 (chunkB C ++ t)) 1 = (prsOf C 0 C.n, ⟨(chunkB C).size, 0⟩, an) := by
  obtain ⟨h, tr, h64⟩ := hwf.tree
  have hl := hwf.low
  have hT : told C C.n = C.n := by rw [told_fo tr]; show (1 : Int) + _ = _; omega
  have h0 : ∀ i, i < C.n → 0 ≤ (C.f i).kids := fun i hi => by
    obtain ⟨e', h', u⟩ := tr.within i (by omega) hi
    obtain ⟨_, _, _, hk, _⟩ := u.one
    exact hk
  obtain ⟨Ls, r, q⟩ := read_for hV hwf.each hw hwf.high hT h0 tr 64 0 [] h64 (by omega) (by omega)
  have e0 : rd0 (chunkB C ++ t) = ⟨6, 0⟩ := if_pos (hdr_ok C t)
  have p0 : posOf C 0 = 6 := rfl
  have pn : posOf C C.n = (chunkB C).size := by unfold chunkB posOf; rw [ByteArray.size_append, headB_size]
  rw [p0, pn] at r
  rw [e0]
  generalize hX : rdTree (chunkB C ++ t) V 64 0 ⟨6, 0⟩ 1 = X
  have hX' : rdTree (chunkB C ++ t) V 64 0 ⟨6, 0⟩ (told C 0) = X := hX
  unfold rdFor at r
  rw [hX'] at r
  split at r
  · rename_i hb
    simp only [Prod.mk.injEq] at r
    rw [r.2] at hb
    exact absurd rfl hb
  · unfold rdFor at r
    obtain ⟨a, b, c⟩ := X
    simp only [Prod.mk.injEq, List.nil_append] at r
    obtain ⟨r1, r2, r3⟩ := r
    subst r2 r3
    rw [← r1] at q
    simp only [List.flatten_cons, List.flatten_nil, List.append_nil] at q
    exact ⟨_, by rw [q]⟩
end Go.Proofs.YtebjplogpngeaaaGreatDoor
namespace Go.Proofs.YtebjplogpngeaaaGreatDoor
open Go.RowKit
set_option linter.unusedVariables false
set_option linter.unusedSimpArgs false
/-- where f' has no fault f reads the same. -/
def Ext {α : Type} (f' f : RS → α × RS) : Prop := ∀ r, (f' r).2.bad = 0 → f r = f' r
/-- a fault sticks. -/
def Stk {α : Type} (f : RS → α × RS) : Prop := ∀ r, r.bad ≠ 0 → (f r).2.bad ≠ 0
theorem Stk.bnd {α β : Type} {f : RS → α × RS} {g : α → RS → β × RS} (h : Stk f) (k : ∀ a, Stk (g a)) : Stk (bnd f g) := fun r hr => k _ _ (h r hr)
theorem Stk.pure {α : Type} (x : α) : Stk fun r => (x, r) := fun r h => h
theorem Ext.same {α : Type} (f : RS → α × RS) : Ext f f := fun r _ => rfl
theorem Ext.bnd {α β : Type} {f' f : RS → α × RS} {g' g : α → RS → β × RS} (h : Ext f' f) (k : ∀ a, Ext (g' a) (g a)) (st : ∀ a, Stk (g' a)) : Ext (bnd f' g') (bnd f g) := fun r hr => by
  have h0 : (f' r).2.bad = 0 := Classical.byContradiction fun e => st _ _ e hr
  unfold Proofs.YtebjplogpngeaaaGreatDoor.bnd
  rw [h r h0]
  exact k _ _ hr
theorem stk_any (s : ByteArray) (V : Nat → Option (Int × Nat)) : Stk (rdAny s V) := fun r h => by rw [rdAny_b h]; exact h
theorem stk_num (s : ByteArray) (V : Nat → Option (Int × Nat)) (lo hi : Int) : Stk (rdNum s V lo hi) := fun r h => by rw [rdNum_b h]; exact h
theorem stk_cnt (s : ByteArray) (V : Nat → Option (Int × Nat)) (n : Int) : Stk (rdCnt s V n) := fun r h => by
  unfold rdCnt
  rw [rdAny_b h]
  dsimp only
  rw [if_pos h]
  exact h
theorem stk_byte (s : ByteArray) (hi : Nat) : Stk (rdByte s hi) := fun r h => by rw [rdByte_b h]; exact h
theorem stk_bytes (s : ByteArray) (n : Nat) : Stk (rdBytes s n) := fun r h => by
  unfold rdBytes
  rw [if_pos h]
  exact h
theorem stk_sev {α : Type} {rd : RS → α × RS} (h : Stk rd) : ∀ n acc, Stk fun r => rdSev rd n r acc
  | 0, acc => fun r hr => hr
  | n + 1, acc => fun r hr => by
    show (rdSev rd (n + 1) r acc).2.bad ≠ 0
    rw [rdSev_bad (h r hr)]
    exact h r hr
theorem ext_sev {α : Type} {rd' rd : RS → α × RS} (h : Ext rd' rd) : ∀ n acc, Ext (fun r => rdSev rd' n r acc) fun r => rdSev rd n r acc
  | 0, acc => fun r _ => rfl
  | n + 1, acc => fun r hr => by
    show rdSev rd (n + 1) r acc = rdSev rd' (n + 1) r acc
    by_cases hb : (rd' r).2.bad = 0
    · have hr' : (rdSev rd' (n + 1) r acc).2.bad = 0 := hr
      rw [rdSev_ok hb] at hr' ⊢
      rw [rdSev_ok (by rw [h r hb]; exact hb), h r hb]
      exact ext_sev h n _ _ hr'
    · have hr' : (rdSev rd' (n + 1) r acc).2.bad = 0 := hr
      rw [rdSev_bad hb] at hr'
      exact absurd hr' hb
section
variable {s t : ByteArray} {V' V : Nat → Option (Int × Nat)} (hV' : VrAt s V') (hV : VrAt (s ++ t) V)
include hV' hV
theorem ext_any : Ext (rdAny s V') (rdAny (s ++ t) V) := fun r hr => by
  by_cases hb : r.bad = 0
  · unfold rdAny at hr ⊢
    have hnb : ¬ (r.bad ≠ 0) := fun h => h hb
    simp only [if_neg hnb] at hr ⊢
    cases e : V' r.pos with
    | none =>
      rw [e] at hr
      dsimp only at hr
      split at hr <;> omega
    | some x =>
      obtain ⟨n, q⟩ := x
      obtain ⟨b0, b1, b2, b3⟩ := hV'.ok.bd _ _ _ e
      have hx := hV'.some _ _ _ e
      have hA := (At.of hx (by omega) b3).more (t := t)
      have hq : q = r.pos + (WPut.pv n).size := by rw [← hx, ByteArray.size_extract]; omega
      rw [at_V hV b0 b1 hA, ← hq]
  · rw [rdAny_b hb] at hr
    exact absurd hr hb
theorem ext_num (lo hi : Int) : Ext (rdNum s V' lo hi) (rdNum (s ++ t) V lo hi) := fun r hr => by
  by_cases hb : (rdAny s V' r).2.bad = 0
  · unfold rdNum
    rw [ext_any hV' hV r hb]
  · unfold rdNum at hr
    dsimp only at hr
    rw [if_pos hb] at hr
    exact absurd hr hb
theorem ext_cnt (n : Int) : Ext (rdCnt s V' n) (rdCnt (s ++ t) V n) := fun r hr => by
  by_cases hb : (rdAny s V' r).2.bad = 0
  · unfold rdCnt
    rw [ext_any hV' hV r hb]
  · unfold rdCnt at hr
    dsimp only at hr
    rw [if_pos hb] at hr
    exact absurd hr hb
omit hV' hV in
theorem ext_byte (hi : Nat) : Ext (rdByte s hi) (rdByte (s ++ t) hi) := fun r hr => by
  by_cases hb : r.bad = 0
  · unfold rdByte at hr ⊢
    have hnb : ¬ (r.bad ≠ 0) := fun h => h hb
    simp only [if_neg hnb] at hr ⊢
    by_cases hp : r.pos < s.size
    · rw [dif_pos hp, dif_pos (by rw [ByteArray.size_append]; omega)]
      rw [ByteArray.getElem_append_left hp]
    · rw [dif_neg hp] at hr
      exact absurd (show (2 : Int) = 0 from hr) (by decide)
  · rw [rdByte_b hb] at hr
    exact absurd hr hb
omit hV' hV in
theorem ext_bytes (n : Nat) : Ext (rdBytes s n) (rdBytes (s ++ t) n) := fun r hr => by
  unfold rdBytes at hr ⊢
  by_cases hb : r.bad = 0
  · have hnb : ¬ (r.bad ≠ 0) := fun h => h hb
    simp only [if_neg hnb] at hr ⊢
    by_cases hp : r.pos + n ≤ s.size
    · rw [if_pos hp, if_pos (by rw [ByteArray.size_append]; omega)]
      have hA := (At.of (s := s) (p := r.pos) (q := r.pos + n) rfl (by omega) hp).more (t := t)
      have e := hA.ext
      rw [ByteArray.size_extract, show min (r.pos + n) s.size - r.pos = n by omega] at e
      rw [e]
    · rw [if_neg hp] at hr
      exact absurd (show (2 : Int) = 0 from hr) (by decide)
  · rw [if_pos hb] at hr
    exact absurd hr hb
omit hV' hV in
theorem rdText_bnd (s : ByteArray) (V : Nat → Option (Int × Nat)) : rdText s V = bnd (rdNum s V 0 1000) fun x => rdBytes s x.toNat := rfl
omit hV' hV in
theorem rdWord_bnd (s : ByteArray) : rdWord s = bnd (rdBytes s 4) fun (x : ByteArray) r => ((if x.size = 0 then 0 else le4 x 0 : Nat), r) := rfl
omit hV' hV in
theorem rdUp_bnd (s : ByteArray) (V : Nat → Option (Int × Nat)) : rdUp s V = bnd (rdByte s 1) fun a => bnd (rdAny s V) fun b r => ((⟨decide (a = 1), b⟩ : UD), r) := rfl
omit hV' hV in
theorem stk_text (s : ByteArray) (V : Nat → Option (Int × Nat)) : Stk (rdText s V) := by
  rw [rdText_bnd]
  exact Stk.bnd (stk_num s V 0 1000) fun a => stk_bytes s _
theorem ext_text : Ext (rdText s V') (rdText (s ++ t) V) := by
  rw [rdText_bnd, rdText_bnd]
  exact Ext.bnd (ext_num hV' hV 0 1000) (fun a => ext_bytes _) fun a => stk_bytes s _
omit hV' hV in
theorem ext_word : Ext (rdWord s) (rdWord (s ++ t)) := by
  rw [rdWord_bnd, rdWord_bnd]
  exact Ext.bnd (ext_bytes 4) (fun a => Ext.same _) fun a => Stk.pure _
omit hV' hV in
theorem stk_word (s : ByteArray) : Stk (rdWord s) := by
  rw [rdWord_bnd]
  exact Stk.bnd (stk_bytes s 4) fun a => Stk.pure _
omit hV' hV in
theorem rdVal_bnd (s : ByteArray) (V : Nat → Option (Int × Nat)) (G : ByteArray → Int) : rdVal s V G = bnd (rdByte s 4) fun x => if x = 1 ∨ x = 2 then (fun r => (⟨1, (x : Int) - 1, ByteArray.empty⟩, r)) else if x = 3 then bnd (rdBytes s 8) (fun b r => (⟨2, G b, ByteArray.empty⟩, r)) else if x = 4 then bnd (rdText s V) (fun b r => (⟨3, 0, b⟩, r)) else fun r => (⟨0, 0, ByteArray.empty⟩, r) := by
  funext r
  unfold rdVal bnd
  dsimp only
  split
  · rfl
  · split
    · rfl
    · split <;> rfl
omit hV' hV in
theorem stk_val (s : ByteArray) (V : Nat → Option (Int × Nat)) (G : ByteArray → Int) : Stk (rdVal s V G) := by
  rw [rdVal_bnd]
  refine Stk.bnd (stk_byte s 4) fun a => ?_
  split
  · exact Stk.pure _
  · split
    · exact Stk.bnd (stk_bytes s 8) fun _ => Stk.pure _
    · split
      · exact Stk.bnd (stk_text s V) fun _ => Stk.pure _
      · exact Stk.pure _
theorem ext_val (G : ByteArray → Int) : Ext (rdVal s V' G) (rdVal (s ++ t) V G) := by
  rw [rdVal_bnd, rdVal_bnd]
  refine Ext.bnd (ext_byte 4) (fun a => ?_) fun a => ?_
  · split
    · exact Ext.same _
    · split
      · exact Ext.bnd (ext_bytes 8) (fun _ => Ext.same _) fun _ => Stk.pure _
      · split
        · exact Ext.bnd (ext_text hV' hV) (fun _ => Ext.same _) fun _ => Stk.pure _
        · exact Ext.same _
  · split
    · exact Stk.pure _
    · split
      · exact Stk.bnd (stk_bytes s 8) fun _ => Stk.pure _
      · split
        · exact Stk.bnd (stk_text s V') fun _ => Stk.pure _
        · exact Stk.pure _
omit hV' hV in
theorem stk_up (s : ByteArray) (V : Nat → Option (Int × Nat)) : Stk (rdUp s V) := by
  rw [rdUp_bnd]
  exact Stk.bnd (stk_byte s 1) fun a => Stk.bnd (stk_any s V) fun _ => Stk.pure _
theorem ext_up : Ext (rdUp s V') (rdUp (s ++ t) V) := by
  rw [rdUp_bnd, rdUp_bnd]
  exact Ext.bnd (ext_byte 1) (fun a => Ext.bnd (ext_any hV' hV) (fun _ => Ext.same _) fun _ => Stk.pure _) fun a => Stk.bnd (stk_any s V') fun _ => Stk.pure _
omit hV' hV in
theorem rdDbg_bnd (s : ByteArray) (V : Nat → Option (Int × Nat)) (nc nu : Nat) : rdDbg s V nc nu = bnd (rdText s V) fun t => bnd (rdCnt s V nc) fun a => bnd (fun r => rdSev (rdAny s V) a.toNat r []) fun ls => bnd (rdCnt s V nu) fun b => bnd (fun r => rdSev (rdText s V) b.toNat r []) fun ns r => ((t, ls, ns), if t.size = 0 ∧ ls.length = 0 ∧ ns.length = 0 then r.fail 3 else r) := rfl
omit hV' hV in
theorem stk_fin {α : Type} (x : α) (P : Prop) [Decidable P] : Stk fun r => (x, if P then r.fail 3 else r) := fun r h => by
  show (if P then r.fail 3 else r).bad ≠ 0
  split
  · rw [RS.fail_bad h]; exact h
  · exact h
omit hV' hV in
theorem stk_dbg (s : ByteArray) (V : Nat → Option (Int × Nat)) (nc nu : Nat) : Stk (rdDbg s V nc nu) := by
  rw [rdDbg_bnd]
  exact Stk.bnd (stk_text s V) fun _ => Stk.bnd (stk_cnt s V _) fun _ => Stk.bnd (stk_sev (stk_any s V) _ _) fun _ => Stk.bnd (stk_cnt s V _) fun _ => Stk.bnd (stk_sev (stk_text s V) _ _) fun _ => stk_fin _ _
theorem ext_dbg (nc nu : Nat) : Ext (rdDbg s V' nc nu) (rdDbg (s ++ t) V nc nu) := by
  rw [rdDbg_bnd, rdDbg_bnd]
  refine Ext.bnd (ext_text hV' hV) (fun a => Ext.bnd (ext_cnt hV' hV _) (fun b => Ext.bnd (ext_sev (ext_any hV' hV) _ _) (fun c => Ext.bnd (ext_cnt hV' hV _) (fun d => Ext.bnd (ext_sev (ext_text hV' hV) _ _) (fun e => Ext.same _) fun e => stk_fin _ _) fun d => ?_) fun c => ?_) fun b => ?_) fun a => ?_
  · exact Stk.bnd (stk_sev (stk_text s V') _ _) fun _ => stk_fin _ _
  · exact Stk.bnd (stk_cnt s V' _) fun _ => Stk.bnd (stk_sev (stk_text s V') _ _) fun _ => stk_fin _ _
  · exact Stk.bnd (stk_sev (stk_any s V') _ _) fun _ => Stk.bnd (stk_cnt s V' _) fun _ => Stk.bnd (stk_sev (stk_text s V') _ _) fun _ => stk_fin _ _
  · exact Stk.bnd (stk_cnt s V' _) fun _ => Stk.bnd (stk_sev (stk_any s V') _ _) fun _ => Stk.bnd (stk_cnt s V' _) fun _ => Stk.bnd (stk_sev (stk_text s V') _ _) fun _ => stk_fin _ _
omit hV' hV in
theorem rdPro_bnd (s : ByteArray) (V : Nat → Option (Int × Nat)) (most : Int) : rdPro s V gi0 most = bnd (rdByte s 1) fun a => bnd (rdNum s V 0 250) fun b => bnd (rdNum s V (max 1 b) 250) fun c => bnd (rdNum s V 1 2000) fun d => bnd (fun r => rdSev (rdWord s) d.toNat r []) fun co => bnd (rdNum s V 0 500) fun e => bnd (fun r => rdSev (rdVal s V gi0) e.toNat r []) fun cs => bnd (rdNum s V 0 60) fun f => bnd (fun r => rdSev (rdUp s V) f.toNat r []) fun us => bnd (rdNum s V 0 most) fun k => bnd (rdByte s 1) fun g => bnd (fun r => if g = 1 then rdDbg s V co.length us.length r else ((⟨#[]⟩, [], []), r)) fun x r => (⟨b, c, k, decide (a = 1), co, cs, us, x.1, x.2.1, x.2.2⟩, r) := by
  funext r
  unfold rdPro bnd
  rfl
omit hV' hV in
theorem stk_if (s : ByteArray) (V : Nat → Option (Int × Nat)) (g m n : Nat) : Stk (fun r => if g = 1 then rdDbg s V m n r else ((⟨#[]⟩, [], []), r)) := by
  split
  · exact stk_dbg s V m n
  · exact Stk.pure _
theorem ext_if (g m n : Nat) : Ext (fun r => if g = 1 then rdDbg s V' m n r else ((⟨#[]⟩, [], []), r)) (fun r => if g = 1 then rdDbg (s ++ t) V m n r else ((⟨#[]⟩, [], []), r)) := by
  split
  · exact ext_dbg hV' hV m n
  · exact Ext.same _
set_option maxHeartbeats 8000000 in
theorem ext_pro (most : Int) : Ext (rdPro s V' gi0 most) (rdPro (s ++ t) V gi0 most) := by
  rw [rdPro_bnd, rdPro_bnd]
  have kb := stk_byte s 1
  have kn := stk_num s V'
  have kw := fun n => stk_sev (stk_word s) n []
  have kv := fun n => stk_sev (stk_val s V' gi0) n []
  have ku := fun n => stk_sev (stk_up s V') n []
  have kd := stk_if s V'
  refine Ext.bnd (ext_byte 1) (fun a => Ext.bnd (ext_num hV' hV _ _) (fun b => Ext.bnd (ext_num hV' hV _ _) (fun c => Ext.bnd (ext_num hV' hV _ _) (fun d => Ext.bnd (ext_sev ext_word _ _) (fun co => Ext.bnd (ext_num hV' hV _ _) (fun e => Ext.bnd (ext_sev (ext_val hV' hV gi0) _ _) (fun cs => Ext.bnd (ext_num hV' hV _ _) (fun f => Ext.bnd (ext_sev (ext_up hV' hV) _ _) (fun us => Ext.bnd (ext_num hV' hV _ _) (fun k => Ext.bnd (ext_byte 1) (fun g => Ext.bnd (ext_if hV' hV g _ _) (fun x => Ext.same _) fun x => Stk.pure _) fun g => ?_) fun k => ?_) fun us => ?_) fun f => ?_) fun cs => ?_) fun e => ?_) fun co => ?_) fun d => ?_) fun c => ?_) fun b => ?_) fun a => ?_
  · exact Stk.bnd (kd g _ _) fun _ => Stk.pure _
  · exact Stk.bnd kb fun g => Stk.bnd (kd g _ _) fun _ => Stk.pure _
  · exact Stk.bnd (kn _ _) fun _ => Stk.bnd kb fun g => Stk.bnd (kd g _ _) fun _ => Stk.pure _
  · exact Stk.bnd (ku _) fun _ => Stk.bnd (kn _ _) fun _ => Stk.bnd kb fun g => Stk.bnd (kd g _ _) fun _ => Stk.pure _
  · exact Stk.bnd (kn _ _) fun _ => Stk.bnd (ku _) fun _ => Stk.bnd (kn _ _) fun _ => Stk.bnd kb fun g => Stk.bnd (kd g _ _) fun _ => Stk.pure _
  · exact Stk.bnd (kv _) fun _ => Stk.bnd (kn _ _) fun _ => Stk.bnd (ku _) fun _ => Stk.bnd (kn _ _) fun _ => Stk.bnd kb fun g => Stk.bnd (kd g _ _) fun _ => Stk.pure _
  · exact Stk.bnd (kn _ _) fun _ => Stk.bnd (kv _) fun _ => Stk.bnd (kn _ _) fun _ => Stk.bnd (ku _) fun _ => Stk.bnd (kn _ _) fun _ => Stk.bnd kb fun g => Stk.bnd (kd g _ _) fun _ => Stk.pure _
  · exact Stk.bnd (kw _) fun _ => Stk.bnd (kn _ _) fun _ => Stk.bnd (kv _) fun _ => Stk.bnd (kn _ _) fun _ => Stk.bnd (ku _) fun _ => Stk.bnd (kn _ _) fun _ => Stk.bnd kb fun g => Stk.bnd (kd g _ _) fun _ => Stk.pure _
  · exact Stk.bnd (kn _ _) fun _ => Stk.bnd (kw _) fun _ => Stk.bnd (kn _ _) fun _ => Stk.bnd (kv _) fun _ => Stk.bnd (kn _ _) fun _ => Stk.bnd (ku _) fun _ => Stk.bnd (kn _ _) fun _ => Stk.bnd kb fun g => Stk.bnd (kd g _ _) fun _ => Stk.pure _
  · exact Stk.bnd (kn _ _) fun _ => Stk.bnd (kn _ _) fun _ => Stk.bnd (kw _) fun _ => Stk.bnd (kn _ _) fun _ => Stk.bnd (kv _) fun _ => Stk.bnd (kn _ _) fun _ => Stk.bnd (ku _) fun _ => Stk.bnd (kn _ _) fun _ => Stk.bnd kb fun g => Stk.bnd (kd g _ _) fun _ => Stk.pure _
  · exact Stk.bnd (kn _ _) fun _ => Stk.bnd (kn _ _) fun _ => Stk.bnd (kn _ _) fun _ => Stk.bnd (kw _) fun _ => Stk.bnd (kn _ _) fun _ => Stk.bnd (kv _) fun _ => Stk.bnd (kn _ _) fun _ => Stk.bnd (ku _) fun _ => Stk.bnd (kn _ _) fun _ => Stk.bnd kb fun g => Stk.bnd (kd g _ _) fun _ => Stk.pure _
omit hV' hV in
theorem stk_for {t : RS → Int → List PR × RS × Int} (h : ∀ r an, r.bad ≠ 0 → (t r an).2.1.bad ≠ 0) : ∀ n r an acc, r.bad ≠ 0 → (rdFor t n r an acc).2.1.bad ≠ 0
  | 0, r, an, acc, hr => hr
  | n + 1, r, an, acc, hr => by
    rw [rdFor_bad (h r an hr)]
    exact h r an hr
omit hV' hV in
theorem stk_tree (s : ByteArray) (V : Nat → Option (Int × Nat)) : ∀ f ab r an, r.bad ≠ 0 → (rdTree s V f ab r an).2.1.bad ≠ 0
  | 0, ab, r, an, hr => hr
  | f + 1, ab, r, an, hr => by rw [rdTree_b hr]; exact hr
omit hV' hV in
theorem ext_for {t' t : RS → Int → List PR × RS × Int} (h : ∀ r an, (t' r an).2.1.bad = 0 → t r an = t' r an) : ∀ n r an acc, (rdFor t' n r an acc).2.1.bad = 0 → rdFor t n r an acc = rdFor t' n r an acc
  | 0, r, an, acc, _ => rfl
  | n + 1, r, an, acc, hr => by
    by_cases hb : (t' r an).2.1.bad = 0
    · rw [rdFor_ok hb] at hr ⊢
      rw [rdFor_ok (by rw [h r an hb]; exact hb), h r an hb]
      exact ext_for h n _ _ _ hr
    · rw [rdFor_bad hb] at hr
      exact absurd hr hb
theorem ext_tree : ∀ f ab r an, (rdTree s V' f ab r an).2.1.bad = 0 → rdTree (s ++ t) V f ab r an = rdTree s V' f ab r an
  | 0, ab, r, an, _ => rfl
  | f + 1, ab, r, an, hr => by
    have h1 : (rdPro s V' gi0 (if ab = 63 then 0 else 200 - an) r).2.bad = 0 := Classical.byContradiction fun e => stk_for (stk_tree s V' f (ab + 1)) _ _ _ _ e hr
    unfold rdTree
    dsimp only
    rw [ext_pro hV' hV _ r h1, ext_for (ext_tree f (ab + 1)) _ _ _ _ hr]
end
/-- what was written, and nothing behind it. -/
theorem code_back {C : Sl PD} {V : Nat → Option (Int × Nat)} (hV : VrAt (chunkB C) V) (hwf : Wf C) (hw : ∀ i, i < C.n → PW (C.f i)) : rdCode (chunkB C) V = 0 ∧ (rdTree (chunkB C) V 64 0 (rd0 (chunkB C)) 1).1 = prsOf C 0 C.n := by
  have e : chunkB C = chunkB C ++ ByteArray.empty := by simp
  have hV2 := hV
  rw [e] at hV2
  obtain ⟨an, h⟩ := read_back hV2 hwf hw
  rw [← e] at h
  unfold rdCode
  dsimp only
  rw [h]
  exact ⟨by dsimp only; rw [if_neg (by omega)], rfl⟩
/-- something behind it. -/
theorem code_tail {C : Sl PD} {t : ByteArray} {V : Nat → Option (Int × Nat)} (hV : VrAt (chunkB C ++ t) V) (hwf : Wf C) (hw : ∀ i, i < C.n → PW (C.f i)) (ht : 0 < t.size) : rdCode (chunkB C ++ t) V = 5 := by
  obtain ⟨an, h⟩ := read_back hV hwf hw
  unfold rdCode
  dsimp only
  rw [h]
  dsimp only
  rw [if_pos (by rw [ByteArray.size_append]; omega)]
  rfl
/-- something of it cut away. -/
theorem code_cut {C : Sl PD} {s t : ByteArray} {V : Nat → Option (Int × Nat)} (hV : VrAt s V) (e : chunkB C = s ++ t) (ht : 0 < t.size) (hwf : Wf C) (hw : ∀ i, i < C.n → PW (C.f i)) : rdCode s V ≠ 0 := fun h0 => by
  have hsz := chunkB_size C hwf
  obtain ⟨V2, hV2⟩ := vrAt_any (chunkB C) (by omega)
  obtain ⟨c1, c2⟩ := code_back hV2 hwf hw
  have e2 : chunkB C = chunkB C ++ ByteArray.empty := by simp
  have hV3 := hV2
  rw [e2] at hV3
  obtain ⟨an, hb⟩ := read_back hV3 hwf hw
  rw [← e2] at hb
  unfold rdCode at h0
  dsimp only at h0
  by_cases hh : HdrOk s
  · have r1 : rd0 s = ⟨6, 0⟩ := if_pos hh
    have r2 : rd0 (chunkB C) = ⟨6, 0⟩ := by
      have := hdr_ok C ByteArray.empty
      rw [← e2] at this
      exact if_pos this
    rw [r1] at h0
    rw [r2] at hb
    have hp := (rdTree_facts hV.ok 64 0 ⟨6, 0⟩ 1 hh.1 (by decide) (by decide)).1
    split at h0
    · exact RS.fail_ne (by decide) h0
    · rename_i hlt
      rw [e] at hV2
      have hx := ext_tree hV hV2 64 0 ⟨6, 0⟩ 1 h0
      rw [← e, hb] at hx
      rw [← hx] at hp
      dsimp only at hp
      rw [e, ByteArray.size_append] at hp
      omega
  · have r1 : rd0 s = ⟨0, 1⟩ := if_neg hh
    rw [r1] at h0
    have hk := stk_tree s V 64 0 ⟨0, 1⟩ 1 (by decide)
    split at h0
    · exact RS.fail_ne (by decide) h0
    · exact hk h0
end Go.Proofs.YtebjplogpngeaaaGreatDoor
namespace Go.Proofs.YtebjplogpngeaaaGreatDoor
open Go.RowKit Go.Shelf
set_option linter.unusedVariables false
set_option linter.unusedSimpArgs false
theorem flat_get {α β : Type} (c : α → List β) (z : Nat) (hz : ∀ x, (c x).length = z) : ∀ (L : List α) (i j : Nat) (hi : i < L.length), j < z → (L.flatMap c)[i * z + j]? = (c L[i])[j]?
  | [], i, j, hi, hj => by simp at hi
  | x :: L, 0, j, hi, hj => by
    rw [List.flatMap_cons, Nat.zero_mul, Nat.zero_add, List.getElem?_append_left (by rw [hz]; exact hj)]
    rfl
  | x :: L, i + 1, j, hi, hj => by
    rw [List.flatMap_cons, List.getElem?_append_right (by rw [hz, Nat.succ_mul]; omega), hz, Nat.succ_mul, show i * z + z + j - z = i * z + j by omega]
    exact flat_get c z hz L i j (by simpa using hi) hj
/-- a list that was read, by the things that were written. -/
theorem arr_read {α : Type} {y : World} {lo : Nat} {e : TypeId} {z n : Nat} {v : Value} {f : Nat → α} {c : α → List Value} {C : Nat → Nat → Value} {av : Nat → Prop} (hz : ∀ x, (c x).length = z) (h : y.ownsRow lo e z v ((List.range n).map f).length (((List.range n).map f).flatMap c)) (hC : ∀ i, i < n → ∀ j, j < z → (c (f i))[j]? = some (C i j)) (hav : ∀ b, v.ownBlock = some b → av b) : IsArr av y v z n C := by
  have hl : ((List.range n).map f).length = n := by simp
  rw [hl] at h
  refine arr_of_own h (fun i hi j hj => ?_) hav
  rw [flat_get c z hz _ i j (by rw [hl]; exact hi) hj]
  simp only [List.getElem_map, List.getElem_range]
  exact hC i hi j hj
theorem row_is {B : Nat} {y : World} {v3 v4 v5 v8 v9 : Value} {p : PD} (h : PRow B y v3 v4 v5 v8 v9 (prOf p)) (ok : ProtoOk p) (hw : PW p) : IsProto (· < y.heap.size) y v3 v4 v5 v8 v9 p := by
  have hn := ok.name
  refine ⟨?_, ⟨?_, fun i hi => ?_⟩, ?_, ?_, ⟨?_, fun i hi => ?_⟩, by omega⟩
  · refine arr_read (c := cCode) (fun _ => rfl) h.o3 (fun i hi j hj => ?_) (fun b hb => (h.o3.lt b hb).2)
    obtain rfl : j = 0 := by omega
    have := (hw.code i hi).1
    show some (Value.int .u32 ((p.code.f i).toNat : Int)) = some (Value.int .u32 (p.code.f i))
    rw [Int.toNat_of_nonneg this]
  · refine arr_read (c := cConsts) (fun _ => rfl) h.o4 (fun i hi j hj => ?_) (fun b hb => (h.o4.lt b hb).2)
    match j, hj with
    | 0, _ => rfl
    | 1, _ => rfl
    | 2, _ => rfl
  · have := ok.allConsts i hi
    unfold Plain at this
    omega
  · refine arr_read (c := cUps) (fun _ => rfl) h.o5 (fun i hi j hj => ?_) (fun b hb => (h.o5.lt b hb).2)
    match j, hj with
    | 0, _ => rfl
    | 1, _ => rfl
  · refine arr_read (c := cLines) (fun _ => rfl) h.o8 (fun i hi j hj => ?_) (fun b hb => (h.o8.lt b hb).2)
    obtain rfl : j = 0 := by omega
    rfl
  · refine arr_read (c := cNames) (fun _ => rfl) h.o9 (fun i hi j hj => ?_) (fun b hb => (h.o9.lt b hb).2)
    obtain rfl : j = 0 := by omega
    rfl
  · have := ok.allUpNames i hi
    omega
/-- the chunk that was read is the one that was written. -/
theorem back_is {y w' : World} {v : Value} {its : List PI} {mid : Nat} (h : TrOk y w' v its mid) {C : Sl PD} (hwf : Wf C) (hw : ∀ i, i < C.n → PW (C.f i)) (hp : its.map (·.p) = prsOf C 0 C.n) : IsProtos (· < w'.heap.size) w' v C := by
  have hl : its.length = C.n := by
    have := congrArg List.length hp
    simpa [prsOf] using this
  have hpi : ∀ i (hi : i < its.length), its[i].p = prOf (C.f i) := fun i hi => by
    have : (its.map (·.p))[i]? = some its[i].p := by rw [List.getElem?_map, List.getElem?_eq_getElem hi]; rfl
    rw [hp] at this
    unfold prsOf at this
    rw [List.getElem?_map, List.getElem?_range' (by omega)] at this
    simpa using this.symm
  have hrow := h.row
  refine ⟨fun i => if hi : i < its.length then its[i].v3 else undef, fun i => if hi : i < its.length then its[i].v4 else undef, fun i => if hi : i < its.length then its[i].v5 else undef, fun i => if hi : i < its.length then its[i].v8 else undef, fun i => if hi : i < its.length then its[i].v9 else undef, ?_, fun i hi => ?_⟩
  · rw [hl] at hrow
    refine arr_of_own hrow (fun i hi j hj => ?_) (fun b hb => (hrow.lt b hb).2)
    have hi' : i < its.length := by omega
    rw [flat_get pcs 10 (fun _ => rfl) _ i j hi' hj]
    unfold pcs
    rw [hpi i hi']
    match j, hj with
    | 0, _ => rfl
    | 1, _ => rfl
    | 2, _ => rfl
    | 3, _ => simp [pC, hi']
    | 4, _ => simp [pC, hi']
    | 5, _ => simp [pC, hi']
    | 6, _ => rfl
    | 7, _ => rfl
    | 8, _ => simp [pC, hi']
    | 9, _ => simp [pC, hi']
  · have hi' : i < its.length := by omega
    simp only [dif_pos hi']
    have hit := (h.its its[i] (List.getElem_mem hi')).row
    rw [hpi i hi'] at hit
    exact row_is hit (hwf.each i hi) (hw i hi)
end Go.Proofs.YtebjplogpngeaaaGreatDoor

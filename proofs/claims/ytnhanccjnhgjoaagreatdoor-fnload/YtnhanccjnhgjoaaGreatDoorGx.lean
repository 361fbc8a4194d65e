import Derived.Test.YtnhanccjnhgjoaaGreatDoorGu
import Derived.Test.YtnhanccjnhgjoaaGreatDoorLvX
import Derived.Test.YtnhanccjnhgjoaaGreatDoorGk
import Derived.Test.YtnhanccjnhgjoaaGreatDoorGn
namespace Go.Proofs.YtnhanccjnhgjoaaGreatDoor
open Go.RowKit
set_option linter.unusedVariables false
set_option linter.unusedSimpArgs false
def At (s : ByteArray) (p : Nat) (B : ByteArray) : Prop := ∃ X Y, s = X ++ B ++ Y ∧ X.size = p
theorem At.left {s : ByteArray} {p : Nat} {A B : ByteArray} (h : At s p (A ++ B)) : At s p A := by
 obtain ⟨X, Y, e, hx⟩ := h;exact ⟨X, B ++ Y, by rw [e]; simp only [ByteArray.append_assoc], hx⟩
theorem At.right {s : ByteArray} {p : Nat} {A B : ByteArray} (h : At s p (A ++ B)) : At s (p + A.size) B := by
 obtain ⟨X, Y, e, hx⟩ := h;exact ⟨X ++ A, Y, by rw [e]; simp only [ByteArray.append_assoc], by rw [ByteArray.size_append, hx]⟩
theorem At.le {s : ByteArray} {p : Nat} {B : ByteArray} (h : At s p B) : p + B.size ≤ s.size := by
 obtain ⟨X, Y, e, hx⟩ := h;rw [e, ByteArray.size_append, ByteArray.size_append];omega
theorem At.ext {s : ByteArray} {p : Nat} {B : ByteArray} (h : At s p B) : s.extract p (p + B.size) = B := by
 obtain ⟨X, Y, rfl, rfl⟩ := h;apply ByteArray.ext;simp only [ByteArray.data_extract, ByteArray.data_append, ByteArray.size];apply Array.ext';simp only [Array.toList_extract, Array.toList_append, List.extract];have hx : X.data.size = X.data.toList.length := by simp
 have hb : B.data.size = B.data.toList.length := by simp
 rw [hx, hb, List.append_assoc, List.drop_left, Nat.add_sub_cancel_left, List.take_left]
theorem At.of {s : ByteArray} {p q : Nat} {B : ByteArray} (h : s.extract p q = B) (h1 : p ≤ q) (h2 : q ≤ s.size) : At s p B := by
 refine ⟨s.extract 0 p, s.extract q s.size, ?_, by rw [ByteArray.size_extract]; omega⟩;rw [← h];apply ByteArray.ext;simp only [ByteArray.data_extract, ByteArray.data_append];have hq : q ≤ s.data.size := h2;apply Array.ext';simp only [Array.toList_append, Array.toList_extract, List.extract, Nat.sub_zero, List.drop_zero];have e3 : (s.data.toList.drop q).take (s.size - q) = s.data.toList.drop q := List.take_of_length_le (by rw [List.length_drop, Array.length_toList]; exact Nat.le_refl _);rw [e3]
 have e1 : s.data.toList.take p ++ (s.data.toList.drop p).take (q - p) = s.data.toList.take q := by
  rw [← List.take_add]; congr 1; omega
 rw [e1, List.take_append_drop]
theorem At.more {s t : ByteArray} {p : Nat} {B : ByteArray} (h : At s p B) : At (s ++ t) p B := by
 obtain ⟨X, Y, rfl, hx⟩ := h;exact ⟨X, Y ++ t, by simp only [ByteArray.append_assoc], hx⟩
theorem At.rest {s : ByteArray} {p : Nat} {B : ByteArray} (h : At s p B) : (s.extract p s.size).extract 0 B.size = B := by
 rw [WPut.rest_head _ _ _ h.le]; exact h.ext
def Rds {α : Type} (s : ByteArray) (f : RS → α × RS) (x : α) (B : ByteArray) : Prop := ∀ p, At s p B → f ⟨p, 0⟩ = (x, ⟨p + B.size, 0⟩)
def bnd {α β : Type} (f : RS → α × RS) (g : α → RS → β × RS) (r : RS) : β × RS := g (f r).1 (f r).2
theorem Rds.bnd {α β : Type} {s : ByteArray} {f : RS → α × RS} {g : α → RS → β × RS} {x : α} {y : β} {A B : ByteArray} (h1 : Rds s f x A) (h2 : Rds s (g x) y B) : Rds s (bnd f g) y (A ++ B) := fun p hp => by
 unfold Proofs.YtnhanccjnhgjoaaGreatDoor.bnd;rw [h1 p hp.left, h2 _ hp.right, ByteArray.size_append, Nat.add_assoc]
theorem Rds.pure {α : Type} {s : ByteArray} (x : α) : Rds s (fun r => (x, r)) x ByteArray.empty := fun p _ => by simp
theorem Rds.end {α β : Type} {s : ByteArray} {f : RS → α × RS} {k : α → β} {x : α} {A : ByteArray} (h1 : Rds s f x A) : Rds s (Proofs.YtnhanccjnhgjoaaGreatDoor.bnd f fun a r => (k a, r)) (k x) A := fun p hp => by
 unfold Proofs.YtnhanccjnhgjoaaGreatDoor.bnd;rw [h1 p hp]
section
variable {s : ByteArray} {V : Nat → Option (Int × Nat)} (hV : VrAt s V)
include hV
end
theorem by1_get (n : Int) (h0 : 0 ≤ n) (h1 : n ≤ 255) : (by1 n).data.toList = [UInt8.ofNat n.toNat] := by
 unfold by1;rw [strOfNums_data];rfl
theorem At.one {s : ByteArray} {p : Nat} {n : Int} (h0 : 0 ≤ n) (h1 : n ≤ 255) (h : At s p (by1 n)) : ∃ hp : p < s.size, s[p].toNat = n.toNat := by
 have hle := h.le;rw [by1_size] at hle;refine ⟨by omega, ?_⟩;have e := congrArg (fun b : ByteArray => b.data.toList) h.ext;simp only [by1_get n h0 h1, by1_size] at e;simp only [ByteArray.data_extract, Array.toList_extract, List.extract] at e;have hlt : p < s.data.toList.length := by simp; exact hle
 rw [show p + 1 - p = 1 by omega, List.take_one, List.head?_drop, List.getElem?_eq_getElem hlt] at e;simp at e;have e2 : s[p] = s.data.toList[p] := rfl;rw [e2];simp only [Array.getElem_toList];rw [e];simp;omega
theorem At.join {s : ByteArray} {p : Nat} {A B : ByteArray} (h : At s p A) (k : At s (p + A.size) B) : At s p (A ++ B) := by
 have h1 := h.ext;have k1 := k.ext;have l1 := h.le;have l2 := k.le;refine At.of (q := p + A.size + B.size) ?_ (by omega) l2
 conv => rhs; rw [← h1, ← k1]
 rw [ByteArray.extract_append_extract]
 congr 1 <;> omega
theorem At.nil {s : ByteArray} {p : Nat} (h : p ≤ s.size) : At s p ByteArray.empty := At.of (q := p) (by simp) (Nat.le_refl _) h
def Wrs {α : Type} (s : ByteArray) (f : RS → α × RS) (R : α → ByteArray → Prop) : Prop :=
 ∀ r, r.pos ≤ s.size → (f r).2.bad = 0 → r.bad = 0 ∧ ∃ X, R (f r).1 X ∧ At s r.pos X ∧ (f r).2.pos = r.pos + X.size
theorem Wrs.bnd {α β : Type} {s : ByteArray} {f : RS → α × RS} {g : α → RS → β × RS} {Rf : α → ByteArray → Prop} {Rg : α → β → ByteArray → Prop} (hf : Wrs s f Rf) (hb : ∀ r, r.pos ≤ s.size → (f r).2.pos ≤ s.size) (hg : ∀ x, Wrs s (g x) (Rg x)) :
  Wrs s (bnd f g) (fun y X => ∃ x A B, Rf x A ∧ Rg x y B ∧ X = A ++ B) := fun r hr h => by
 obtain ⟨b1, B, hB, aB, pB⟩ := hg (f r).1 (f r).2 (hb r hr) h;obtain ⟨b0, A, hA, aA, pA⟩ := hf r hr b1;rw [pA] at aB;refine ⟨b0, A ++ B, ⟨_, A, B, hA, hB, rfl⟩, aA.join aB, ?_⟩;show (g (f r).1 (f r).2).2.pos = _;rw [pB, pA, ByteArray.size_append, Nat.add_assoc]
theorem Wrs.mono {α : Type} {s : ByteArray} {f : RS → α × RS} {R R' : α → ByteArray → Prop} (h : Wrs s f R) (k : ∀ x X, R x X → R' x X) : Wrs s f R' := fun r hr h0 => by
 obtain ⟨b, X, hX, a, p⟩ := h r hr h0;exact ⟨b, X, k _ _ hX, a, p⟩
theorem Wrs.ret {α : Type} {s : ByteArray} (x : α) : Wrs s (fun r => (x, r)) (fun y X => y = x ∧ X = ByteArray.empty) := fun r hr h => ⟨h, ByteArray.empty, ⟨rfl, rfl⟩, At.nil hr, by simp⟩
section
variable {s : ByteArray} {V : Nat → Option (Int × Nat)} (hV : VrAt s V)
include hV
theorem wr_any : Wrs s (rdAny s V) (fun n X => X = WPut.pv n ∧ NumOk n) := fun r hr h => by
 by_cases hb : r.bad = 0
 ·have hnb : ¬ (r.bad ≠ 0) := fun h => h hb;unfold rdAny at h ⊢;simp only [if_neg hnb] at h ⊢
  cases e : V r.pos with
  | none =>
   rw [e] at h;dsimp only at h;split at h <;> omega
  | some x =>
   obtain ⟨n, q⟩ := x;obtain ⟨b0, b1, b2, b3⟩ := hV.ok.bd _ _ _ e;have hx := hV.some _ _ _ e;exact ⟨hb, WPut.pv n, ⟨rfl, b0, b1⟩, At.of hx (by omega) b3, by dsimp only; rw [← hx, ByteArray.size_extract]; omega⟩
 ·rw [rdAny_b hb] at h;exact absurd h hb
theorem wr_num (lo hi : Int) : Wrs s (rdNum s V lo hi) (fun n X => X = WPut.pv n ∧ NumOk n ∧ lo ≤ n ∧ n ≤ hi) := fun r hr h => by
 by_cases hb : (rdAny s V r).2.bad = 0
 ·obtain ⟨b, X, ⟨h1, h2⟩, a, p⟩ := wr_any hV r hr hb;have hnb : ¬ ((rdAny s V r).2.bad ≠ 0) := fun h => h hb;unfold rdNum at h ⊢;dsimp only at h ⊢;simp only [if_neg hnb] at h ⊢;by_cases hl : (rdAny s V r).1 < lo ∨ hi < (rdAny s V r).1
  ·rw [if_pos hl] at h;exact absurd (show (4 : Int) = 0 from h) (by decide)
  ·rw [if_neg hl];exact ⟨b, X, ⟨h1, h2, by omega, by omega⟩, a, p⟩
 ·unfold rdNum at h;dsimp only at h;rw [if_pos hb] at h;exact absurd h hb
theorem wr_cnt (all : Int) : Wrs s (rdCnt s V all) (fun n X => X = WPut.pv n ∧ NumOk n ∧ (n = 0 ∨ n = all)) := fun r hr h => by
 by_cases hb : (rdAny s V r).2.bad = 0
 ·obtain ⟨b, X, ⟨h1, h2⟩, a, p⟩ := wr_any hV r hr hb;have hnb : ¬ ((rdAny s V r).2.bad ≠ 0) := fun h => h hb;unfold rdCnt at h ⊢;dsimp only at h ⊢;simp only [if_neg hnb] at h ⊢;by_cases hl : (rdAny s V r).1 = 0 ∨ (rdAny s V r).1 = all
  ·rw [if_pos hl];exact ⟨b, X, ⟨h1, h2, hl⟩, a, p⟩
  ·rw [if_neg hl] at h;exact absurd (show (4 : Int) = 0 from h) (by decide)
 ·unfold rdCnt at h;dsimp only at h;rw [if_pos hb] at h;exact absurd h hb
end
theorem byte_at {s : ByteArray} {p : Nat} (h : p < s.size) : At s p (by1 (s[p].toNat : Int)) := by
 refine At.of (q := p + 1) ?_ (by omega) h;apply ByteArray.ext;apply Array.ext';rw [by1_get _ (by omega) (by have := s[p].toNat_lt; omega)];simp only [ByteArray.data_extract, Array.toList_extract, List.extract];have hlt : p < s.data.toList.length := by simp; exact h
 rw [show p + 1 - p = 1 by omega, List.take_one, List.head?_drop, List.getElem?_eq_getElem hlt];simp;rfl
theorem wr_byte (s : ByteArray) (hi : Nat) : Wrs s (rdByte s hi) (fun b X => X = by1 (b : Int) ∧ b ≤ hi) := fun r hr h => by
 by_cases hb : r.bad = 0
 ·have hnb : ¬ (r.bad ≠ 0) := fun h => h hb;unfold rdByte at h ⊢;simp only [if_neg hnb] at h ⊢;by_cases hp : r.pos < s.size
  ·simp only [dif_pos hp] at h ⊢;by_cases hl : hi < s[r.pos].toNat
   ·rw [if_pos hl] at h;exact absurd (show (3 : Int) = 0 from h) (by decide)
   ·rw [if_neg hl];exact ⟨hb, _, ⟨rfl, by dsimp only; omega⟩, byte_at hp, by rw [by1_size]⟩
  ·simp only [dif_neg hp] at h;exact absurd (show (2 : Int) = 0 from h) (by decide)
 ·rw [rdByte_b hb] at h;exact absurd h hb
theorem wr_bytes (s : ByteArray) (n : Nat) : Wrs s (rdBytes s n) (fun b X => X = b ∧ b.size = n) := fun r hr h => by
 unfold rdBytes at h ⊢;by_cases hb : r.bad = 0
 ·have hnb : ¬ (r.bad ≠ 0) := fun h => h hb;simp only [if_neg hnb] at h ⊢;by_cases hp : r.pos + n ≤ s.size
  ·rw [if_pos hp];have hz : (s.extract r.pos (r.pos + n)).size = n := by rw [ByteArray.size_extract]; omega
   exact ⟨hb, _, ⟨rfl, hz⟩, At.of rfl (by omega) hp, by dsimp only; rw [hz]⟩
  ·rw [if_neg hp] at h;exact absurd (show (2 : Int) = 0 from h) (by decide)
 ·rw [if_pos hb] at h;exact absurd h hb
def catR {α : Type} (B : α → ByteArray) : List α → ByteArray
 | [] => ByteArray.empty
 | x :: L => B x ++ catR B L
theorem catR_append {α : Type} (B : α → ByteArray) : ∀ L M : List α, catR B (L ++ M) = catR B L ++ catR B M
 | [], M => by simp [catR]
 | x :: L, M => by simp only [List.cons_append, catR, catR_append B L M, ByteArray.append_assoc]
theorem catR_cat {α : Type} (B : α → ByteArray) (d : α) (L : List α) : cat (fun i => B (L.getD i d)) L.length = catR B L := by
 have key : ∀ n, n ≤ L.length → cat (fun i => B (L.getD i d)) n = catR B (L.take n) := fun n => by
  induction n with
  | zero => intro _; rfl
  | succ n ih =>
   intro h;have hn : n < L.length := by omega
   rw [cat_succ, ih (by omega), List.take_add_one, List.getElem?_eq_getElem hn, catR_append]
   congr 1
   simp [catR, List.getD, hn]
 rw [key _ (Nat.le_refl _), List.take_length]
theorem wr_sev {α : Type} {s : ByteArray} {rd : RS → α × RS} {B : α → ByteArray} {P : α → Prop} (h : Wrs s rd (fun x X => X = B x ∧ P x)) : ∀ n acc, Wrs s (fun r => rdSev rd n r acc) (fun L X => ∃ M, L = acc ++ M ∧ M.length = n ∧ X = catR B M ∧ ∀ x ∈ M, P x)
 | 0, acc => fun r hr h0 => ⟨h0, ByteArray.empty, ⟨[], by simp [rdSev], rfl, rfl, fun x hx => by cases hx⟩, At.nil hr, by simp [rdSev]⟩
 | n + 1, acc => fun r hr h0 => by
  have h0' : (rdSev rd (n + 1) r acc).2.bad = 0 := h0;by_cases hb : (rd r).2.bad = 0
  ·obtain ⟨b, X, ⟨rfl, hP⟩, a, p⟩ := h r hr hb;rw [rdSev_ok hb] at h0';have hle := a.le;obtain ⟨_, Y, ⟨M, e1, e2, rfl, e4⟩, a2, p2⟩ := wr_sev h n (acc ++ [(rd r).1]) (rd r).2 (by omega) h0';show r.bad = 0 ∧ ∃ X, (∃ M, (rdSev rd (n + 1) r acc).1 = acc ++ M ∧ _) ∧ _ ∧ (rdSev rd (n + 1) r acc).2.pos = _;rw [rdSev_ok hb];rw [p] at a2;refine ⟨b, B (rd r).1 ++ catR B M, ⟨(rd r).1 :: M, ?_, by simp [e2], rfl, fun x hx => ?_⟩, a.join a2, ?_⟩
   ·rw [e1, List.append_assoc]; rfl
   ·rcases List.mem_cons.1 hx with rfl | hx
    ·exact hP
    ·exact e4 x hx
   ·rw [p2, p, ByteArray.size_append, Nat.add_assoc]
  ·rw [rdSev_bad hb] at h0';exact absurd h0' hb
theorem byte_eq {x : Int} {b : UInt8} (h : x = (b.toNat : Int)) : UInt8.ofNat x.toNat = b := by
 subst h;simp
theorem ext_list {a b : ByteArray} (h : a.data.toList = b.data.toList) : a = b := ByteArray.ext (Array.ext' h)
theorem four {t : ByteArray} (h : t.size = 4) : ∃ a b c d, t = ⟨#[a, b, c, d]⟩ := by
 have hl : t.data.toList.length = 4 := by simpa using h
 match e : t.data.toList, hl with
 | [a, b, c, d], _ => exact ⟨a, b, c, d, ext_list e⟩
theorem eight {t : ByteArray} (h : t.size = 8) : ∃ a b c d e f g i, t = ⟨#[a, b, c, d, e, f, g, i]⟩ := by
 have hl : t.data.toList.length = 8 := by simpa using h
 match e : t.data.toList, hl with
 | [a, b, c, d, e', f, g, i], _ => exact ⟨a, b, c, d, e', f, g, i, ext_list e⟩
theorem u4_le4 {t : ByteArray} (h : t.size = 4) : u4 (le4 t 0 : Int) = t ∧ (le4 t 0 : Int) ≤ 4294967295 := by
 obtain ⟨a, b, c, d, rfl⟩ := four h;have ha := a.toNat_lt;have hb := b.toNat_lt;have hc := c.toNat_lt;have hd := d.toNat_lt;have e : le4 ⟨#[a, b, c, d]⟩ 0 = a.toNat + 256 * b.toNat + 65536 * c.toNat + 16777216 * d.toNat := rfl;rw [e];refine ⟨ext_list ?_, by omega⟩;unfold u4;rw [strOfNums_data];simp only [List.map_cons, List.map_nil];rw [byte_eq (b := a) (by omega), byte_eq (b := b) (by omega), byte_eq (b := c) (by omega), byte_eq (b := d) (by omega)]
theorem leL_h (k : Nat) (x y : Int) (h0 : 0 ≤ x) (h1 : x < 256) : WPut.leL (k + 1) (x + 256 * y) = x :: WPut.leL k y := by
 show (x + 256 * y) % 256 :: WPut.leL k ((x + 256 * y) / 256) = _;rw [show (x + 256 * y) % 256 = x by omega, show (x + 256 * y) / 256 = y by omega]
theorem wrap_mod (N : Nat) (h : N < 18446744073709551616) : wrap64 (N : Int) % 18446744073709551616 = N := by
 unfold wrap64;omega
theorem wrap_bd (N : Int) : -9223372036854775808 ≤ wrap64 N ∧ wrap64 N ≤ 9223372036854775807 := by
 unfold wrap64;omega
theorem horner (a b c d e f g i N : Nat) (h : a + 256 * b + 65536 * c + 16777216 * d + 4294967296 * (e + 256 * f + 65536 * g + 16777216 * i) = N) : (N : Int) = (a : Int) + 256 * ((b : Int) + 256 * ((c : Int) + 256 * ((d : Int) + 256 * ((e : Int) + 256 * ((f : Int) + 256 * ((g : Int) + 256 * ((i : Int) + 256 * 0))))))) := by
 omega
theorem horner_lt (a b c d e f g i N : Nat) (ha : a < 256) (hb : b < 256) (hc : c < 256) (hd : d < 256) (he : e < 256) (hf : f < 256) (hg : g < 256) (hi : i < 256) (h : a + 256 * b + 65536 * c + 16777216 * d + 4294967296 * (e + 256 * f + 65536 * g + 16777216 * i) = N) : N < 18446744073709551616 := by
 omega
theorem leL8 (a b c d e f g i : Int) (ha : 0 ≤ a ∧ a < 256) (hb : 0 ≤ b ∧ b < 256) (hc : 0 ≤ c ∧ c < 256) (hd : 0 ≤ d ∧ d < 256) (he : 0 ≤ e ∧ e < 256) (hf : 0 ≤ f ∧ f < 256) (hg : 0 ≤ g ∧ g < 256) (hi : 0 ≤ i ∧ i < 256) :
  WPut.leL 8 (a + 256 * (b + 256 * (c + 256 * (d + 256 * (e + 256 * (f + 256 * (g + 256 * (i + 256 * 0)))))))) = [a, b, c, d, e, f, g, i] := by
 rw [leL_h 7 _ _ ha.1 ha.2, leL_h 6 _ _ hb.1 hb.2, leL_h 5 _ _ hc.1 hc.2, leL_h 4 _ _ hd.1 hd.2, leL_h 3 _ _ he.1 he.2, leL_h 2 _ _ hf.1 hf.2, leL_h 1 _ _ hg.1 hg.2, leL_h 0 _ _ hi.1 hi.2];rfl
theorem i8_gi0 {t : ByteArray} (h : t.size = 8) : i8 (gi0 t) = t ∧ -9223372036854775808 ≤ gi0 t ∧ gi0 t ≤ 9223372036854775807 := by
 have hg0 : gi0 t = wrap64 (le8 t 0) := if_pos (by omega);obtain ⟨a, b, c, d, e, f, g, i, rfl⟩ := eight h
 have hN : (a.toNat + 256 * b.toNat + 65536 * c.toNat + 16777216 * d.toNat) + 4294967296 * (e.toNat + 256 * f.toNat + 65536 * g.toNat + 16777216 * i.toNat) = le8 ⟨#[a, b, c, d, e, f, g, i]⟩ 0 := by
  have e1 : le4 ⟨#[a, b, c, d, e, f, g, i]⟩ 0 = a.toNat + 256 * b.toNat + 65536 * c.toNat + 16777216 * d.toNat := rfl;have e2 : le4 ⟨#[a, b, c, d, e, f, g, i]⟩ (0 + 4) = e.toNat + 256 * f.toNat + 65536 * g.toNat + 16777216 * i.toNat := rfl;unfold le8;rw [e1, e2]
 rw [hg0];generalize le8 ⟨#[a, b, c, d, e, f, g, i]⟩ 0 = N at hN;have hNl := horner_lt _ _ _ _ _ _ _ _ N a.toNat_lt b.toNat_lt c.toNat_lt d.toNat_lt e.toNat_lt f.toNat_lt g.toNat_lt i.toNat_lt hN;have hH := horner _ _ _ _ _ _ _ _ N hN;refine ⟨ext_list ?_, wrap_bd _⟩;have hw := wrap_mod N hNl;have key : ∀ x : UInt8, (0 : Int) ≤ x.toNat ∧ (x.toNat : Int) < 256 := fun x => ⟨Int.natCast_nonneg _, by have := x.toNat_lt; omega⟩;unfold i8;rw [hw, hH, leL8 _ _ _ _ _ _ _ _ (key a) (key b) (key c) (key d) (key e) (key f) (key g) (key i), strOfNums_data];simp only [List.map_cons, List.map_nil];rw [byte_eq (b := a) rfl, byte_eq (b := b) rfl, byte_eq (b := c) rfl, byte_eq (b := d) rfl, byte_eq (b := e) rfl, byte_eq (b := f) rfl, byte_eq (b := g) rfl, byte_eq (b := i) rfl]
section
variable {s : ByteArray} {V : Nat → Option (Int × Nat)} (hV : VrAt s V)
include hV
theorem wr_text : Wrs s (rdText s V) (fun t X => X = sizedB t ∧ t.size ≤ 1000) := by
 have e : rdText s V = bnd (rdNum s V 0 1000) fun x => rdBytes s x.toNat := rfl;rw [e];refine (Wrs.bnd (wr_num hV 0 1000) (fun r hr => rdNum_pos hV.ok hr) fun x => wr_bytes s x.toNat).mono ?_;rintro t X ⟨n, A, B, ⟨rfl, -, h1, h2⟩, ⟨rfl, h3⟩, rfl⟩;refine ⟨?_, by omega⟩;unfold sizedB pvN;rw [h3, Int.toNat_of_nonneg h1]
omit hV in
theorem wr_word : Wrs s (rdWord s) (fun z X => X = u4 (z : Int) ∧ (z : Int) ≤ 4294967295) := by
 have e : rdWord s = bnd (rdBytes s 4) fun (x : ByteArray) r => ((if x.size = 0 then 0 else le4 x 0 : Nat), r) := rfl;rw [e];refine (Wrs.bnd (wr_bytes s 4) (fun r hr => rdBytes_pos hr) fun x => Wrs.ret _).mono ?_;rintro z X ⟨t, A, B, ⟨rfl, h4⟩, ⟨rfl, rfl⟩, rfl⟩;rw [if_neg (by omega)];have := u4_le4 h4;exact ⟨by rw [this.1]; simp, this.2⟩
theorem wr_val : Wrs s (rdVal s V gi0) (fun d X => X = constB d ∧ (Plain d ∧ -9223372036854775808 ≤ d.num ∧ d.num ≤ 9223372036854775807)) := fun r hr h => by
 unfold rdVal at h ⊢;dsimp only at h ⊢;have hp := rdByte_pos (hi := 4) hr;have hb0 := wr_byte s 4 r hr;generalize rdByte s 4 r = x at h hp hb0 ⊢;obtain ⟨b, q⟩ := x;dsimp only at h hp hb0 ⊢;by_cases c1 : b = 1 ∨ b = 2
 ·simp only [if_pos c1] at h ⊢;obtain ⟨r0, X, ⟨rfl, _⟩, a, p⟩ := hb0 h;refine ⟨r0, _, ⟨?_, .inr (.inl ⟨rfl, by first | omega | (dsimp only; omega), rfl⟩), by first | omega | (dsimp only; omega), by first | omega | (dsimp only; omega)⟩, a, p⟩;show by1 (b : Int) = by1 (1 + ((b : Int) - 1))
  congr 1; omega
 simp only [if_neg c1] at h ⊢;by_cases c3 : b = 3
 ·subst c3;simp only [if_true] at h ⊢;obtain ⟨r1, Y, ⟨rfl, h8⟩, a2, p2⟩ := wr_bytes s 8 q hp h;obtain ⟨r0, X, ⟨rfl, _⟩, a, p⟩ := hb0 r1;have hg := i8_gi0 h8;rw [p] at a2;refine ⟨r0, _, ⟨?_, .inr (.inr (.inl ⟨rfl, rfl⟩)), hg.2.1, hg.2.2⟩, a.join a2, by rw [p2, p, ByteArray.size_append, Nat.add_assoc]⟩;show _ = by1 3 ++ i8 (gi0 (rdBytes s 8 q).1);rw [hg.1];rfl
 simp only [if_neg c3] at h ⊢;by_cases c4 : b = 4
 ·subst c4;simp only [if_true] at h ⊢;obtain ⟨r1, Y, ⟨rfl, ht⟩, a2, p2⟩ := wr_text hV q hp h;obtain ⟨r0, X, ⟨rfl, _⟩, a, p⟩ := hb0 r1;rw [p] at a2;exact ⟨r0, by1 4 ++ sizedB (rdText s V q).1, ⟨rfl, .inr (.inr (.inr ⟨rfl, rfl, ht⟩)), by first | omega | (dsimp only; omega), by first | omega | (dsimp only; omega)⟩, a.join a2, by rw [p2, p, ByteArray.size_append, Nat.add_assoc]; rfl⟩
 simp only [if_neg c4] at h ⊢;obtain ⟨r0, X, ⟨rfl, hle⟩, a, p⟩ := hb0 h;have e0 : b = 0 := by omega
 subst e0;exact ⟨r0, _, ⟨rfl, .inl ⟨rfl, rfl, rfl⟩, by first | omega | (dsimp only; omega), by first | omega | (dsimp only; omega)⟩, a, p⟩
omit hV in
theorem flag_of {b : Nat} (h : b ≤ 1) : by1 (b : Int) = flagB (decide (b = 1)) := by
 have : b = 0 ∨ b = 1 := by omega
 rcases this with rfl | rfl <;> rfl
theorem wr_up : Wrs s (rdUp s V) (fun u X => X = upB u ∧ NumOk u.index) := by
 have e : rdUp s V = bnd (rdByte s 1) fun a => bnd (rdAny s V) fun b r => ((⟨decide (a = 1), b⟩ : UD), r) := rfl;rw [e];refine (Wrs.bnd (wr_byte s 1) (fun r hr => rdByte_pos hr) fun a => Wrs.bnd (wr_any hV) (fun r hr => rdAny_pos hV.ok hr) fun b => Wrs.ret _).mono ?_;rintro u X ⟨a, A, B, ⟨rfl, ha⟩, ⟨n, C, D, ⟨rfl, hn⟩, ⟨rfl, rfl⟩, rfl⟩, rfl⟩;refine ⟨?_, hn⟩;unfold upB;rw [flag_of ha];simp
end
end Go.Proofs.YtnhanccjnhgjoaaGreatDoor
namespace Go.Proofs.YtnhanccjnhgjoaaGreatDoor
open Go.RowKit
set_option linter.unusedVariables false
set_option linter.unusedSimpArgs false
set_option maxRecDepth 100000
set_option maxHeartbeats 9000000
def slL {α : Type} (L : List α) (d : α) : Sl α := ⟨L.length, fun i => L.getD i d⟩
def pdOf (p : PR) : PD :=
 { params := p.params, vararg := p.vararg, regs := p.regs, code := ⟨p.code.length, fun i => ((p.code.getD i 0 : Nat) : Int)⟩, consts := slL p.consts ⟨0, 0, ByteArray.empty⟩, ups := slL p.ups ⟨false, 0⟩, kids := p.kids, name := p.name, lines := slL p.lines 0, upNames := slL p.upNames ByteArray.empty }
theorem getD_mem {α : Type} {L : List α} {i : Nat} {d : α} (h : i < L.length) : L.getD i d ∈ L := by
 have : L.getD i d = L[i] := by simp [List.getD, h]
 rw [this];exact List.getElem_mem h
def DbgR (nc nu : Nat) (y : ByteArray × List Int × List ByteArray) (X : ByteArray) : Prop :=
 X = sizedB y.1 ++ (pvN y.2.1.length ++ (catR WPut.pv y.2.1 ++ (pvN y.2.2.length ++ catR sizedB y.2.2))) ∧ y.1.size ≤ 1000 ∧ (y.2.1.length = 0 ∨ y.2.1.length = nc) ∧ (y.2.2.length = 0 ∨ y.2.2.length = nu) ∧
  (∀ l ∈ y.2.1, NumOk l) ∧ (∀ n ∈ y.2.2, n.size ≤ 1000) ∧ ¬ (y.1.size = 0 ∧ y.2.1.length = 0 ∧ y.2.2.length = 0)
def ProR (most : Int) (p : PR) (X : ByteArray) : Prop := X = protoB (pdOf p) ∧ (ProtoOk (pdOf p) ∧ PW (pdOf p) ∧ 0 ≤ p.kids) ∧ p.kids ≤ most
theorem wr_fin {s : ByteArray} {α : Type} (x : α) (P : Prop) [Decidable P] : Wrs s (fun r => (x, if P then r.fail 3 else r)) (fun y X => y = x ∧ X = ByteArray.empty ∧ ¬ P) := fun r hr h => by
 by_cases hP : P
 ·simp only [if_pos hP] at h;exact absurd h (RS.fail_ne (by decide))
 ·simp only [if_neg hP] at h ⊢;exact ⟨h, ByteArray.empty, ⟨by first | rfl | trivial, by first | rfl | trivial, by first | exact hP | trivial⟩, At.nil hr, by simp⟩
section
variable {s : ByteArray} {V : Nat → Option (Int × Nat)} (hV : VrAt s V)
include hV
theorem wr_dbg (nc nu : Nat) : Wrs s (rdDbg s V nc nu) (DbgR nc nu) := by
 have e : rdDbg s V nc nu = bnd (rdText s V) fun t => bnd (rdCnt s V nc) fun a => bnd (fun r => rdSev (rdAny s V) a.toNat r []) fun ls => bnd (rdCnt s V nu) fun b => bnd (fun r => rdSev (rdText s V) b.toNat r []) fun ns r => ((t, ls, ns), if t.size = 0 ∧ ls.length = 0 ∧ ns.length = 0 then r.fail 3 else r) := rfl;rw [e];refine (Wrs.bnd (wr_text hV) (fun r hr => rdText_pos hV.ok hr) fun t => Wrs.bnd (wr_cnt hV nc) (fun r hr => rdCnt_pos hV.ok hr) fun a => Wrs.bnd (wr_sev (wr_any hV) a.toNat []) (fun r hr => rdSev_pos (fun r h => rdAny_pos hV.ok h) _ _ _ hr) fun ls => Wrs.bnd (wr_cnt hV nu) (fun r hr => rdCnt_pos hV.ok hr) fun b => Wrs.bnd (wr_sev (wr_text hV) b.toNat []) (fun r hr => rdSev_pos (fun r h => rdText_pos hV.ok h) _ _ _ hr) fun ns => wr_fin _ _).mono ?_;rintro y X ⟨t, A1, B1, ⟨rfl, ht⟩, ⟨a, A2, B2, ⟨rfl, na, ha⟩, ⟨ls, A3, B3, ⟨M, rfl, hM, rfl, hMa⟩, ⟨b, A4, B4, ⟨rfl, nb, hb⟩, ⟨ns, A5, B5, ⟨N, rfl, hN, rfl, hNa⟩, ⟨rfl, rfl, hno⟩, rfl⟩, rfl⟩, rfl⟩, rfl⟩, rfl⟩;try simp only [List.nil_append] at hno ⊢
 have a0 := na.1;have b0 := nb.1;refine ⟨?_, ht, by show ls.length = 0 ∨ ls.length = nc; omega, by show ns.length = 0 ∨ ns.length = nu; omega, hMa, hNa, hno⟩;show _ = sizedB t ++ (pvN ls.length ++ (catR WPut.pv ls ++ (pvN ns.length ++ catR sizedB ns)));have e1 : WPut.pv a = pvN ls.length := by unfold pvN; rw [hM, Int.toNat_of_nonneg a0]
 have e2 : WPut.pv b = pvN ns.length := by unfold pvN; rw [hN, Int.toNat_of_nonneg b0]
 rw [e1, e2];simp
omit hV in
theorem wr_if (g m n : Nat) {R : ByteArray × List Int × List ByteArray → ByteArray → Prop} (h : Wrs s (rdDbg s V m n) R) : Wrs s (fun r => if g = 1 then rdDbg s V m n r else ((⟨#[]⟩, [], []), r)) (fun y X => (g = 1 ∧ R y X) ∨ (g ≠ 1 ∧ y = (⟨#[]⟩, [], []) ∧ X = ByteArray.empty)) := by
 by_cases hg : g = 1
 ·simp only [if_pos hg];exact h.mono fun y X k => .inl ⟨hg, k⟩
 ·simp only [if_neg hg];exact (Wrs.ret _).mono fun y X k => .inr ⟨hg, k⟩
theorem wr_pro {most : Int} (hm : most ≤ 200) : Wrs s (rdPro s V gi0 most) (ProR most) := by
 have e : rdPro s V gi0 most = bnd (rdByte s 1) fun a => bnd (rdNum s V 0 250) fun b => bnd (rdNum s V (max 1 b) 250) fun c => bnd (rdNum s V 1 2000) fun d => bnd (fun r => rdSev (rdWord s) d.toNat r []) fun co => bnd (rdNum s V 0 500) fun e => bnd (fun r => rdSev (rdVal s V gi0) e.toNat r []) fun cs => bnd (rdNum s V 0 60) fun f => bnd (fun r => rdSev (rdUp s V) f.toNat r []) fun us => bnd (rdNum s V 0 most) fun k => bnd (rdByte s 1) fun g => bnd (fun r => if g = 1 then rdDbg s V co.length us.length r else ((⟨#[]⟩, [], []), r)) fun x r => (⟨b, c, k, decide (a = 1), co, cs, us, x.1, x.2.1, x.2.2⟩, r) := by
  funext r;unfold rdPro bnd;rfl
 rw [e];have pn := fun {lo hi : Int} (r : RS) (hr : r.pos ≤ s.size) => rdNum_pos (lo := lo) (hi := hi) hV.ok hr;have pb := fun (r : RS) (hr : r.pos ≤ s.size) => rdByte_pos (hi := 1) hr
 have pf : ∀ g m n, ∀ r : RS, r.pos ≤ s.size → (if g = 1 then rdDbg s V m n r else ((⟨#[]⟩, [], []), r)).2.pos ≤ s.size := fun g m n r hr => by
  split
  ·by_cases hb : (rdDbg s V m n r).2.bad = 0
   ·obtain ⟨_, X, _, a, p⟩ := wr_dbg hV m n r hr hb;rw [p];exact a.le
   ·unfold rdDbg;dsimp only;have z := rdSev_pos (rd := rdText s V) (m := s.size) (fun r hq => rdText_pos hV.ok hq) (rdCnt s V n (rdSev (rdAny s V) (rdCnt s V m (rdText s V r).2).1.toNat (rdCnt s V m (rdText s V r).2).2 []).2).1.toNat _ [] (rdCnt_pos (all := (n : Int)) hV.ok (rdSev_pos (rd := rdAny s V) (m := s.size) (fun r hq => rdAny_pos hV.ok hq) (rdCnt s V m (rdText s V r).2).1.toNat _ [] (rdCnt_pos (all := (m : Int)) hV.ok (rdText_pos hV.ok hr))));split
    ·unfold RS.fail;split <;> exact z
    ·exact z
  ·exact hr
 refine (Wrs.bnd (wr_byte s 1) pb fun a => Wrs.bnd (wr_num hV 0 250) pn fun b => Wrs.bnd (wr_num hV (max 1 b) 250) pn fun c => Wrs.bnd (wr_num hV 1 2000) pn fun d => Wrs.bnd (wr_sev (P := fun z : Nat => (z : Int) ≤ 4294967295) wr_word d.toNat []) (fun r hr => rdSev_pos (fun r h => rdWord_pos h) _ _ _ hr) fun co => Wrs.bnd (wr_num hV 0 500) pn fun e => Wrs.bnd (wr_sev (wr_val hV) e.toNat []) (fun r hr => rdSev_pos (fun r h => rdVal_pos hV.ok h) _ _ _ hr) fun cs => Wrs.bnd (wr_num hV 0 60) pn fun f => Wrs.bnd (wr_sev (wr_up hV) f.toNat []) (fun r hr => rdSev_pos (fun r h => rdUp_pos hV.ok h) _ _ _ hr) fun us => Wrs.bnd (wr_num hV 0 most) pn fun k => Wrs.bnd (wr_byte s 1) pb fun g => Wrs.bnd (wr_if g _ _ (wr_dbg hV co.length us.length)) (pf g _ _) fun x => Wrs.ret _).mono ?_;rintro p X ⟨a, A1, B1, ⟨rfl, ha⟩, ⟨b, A2, B2, ⟨rfl, nb, b1, b2⟩, ⟨c, A3, B3, ⟨rfl, nc, c1, c2⟩, ⟨d, A4, B4, ⟨rfl, nd, d1, d2⟩, ⟨co, A5, B5, ⟨CO, rfl, hCO, rfl, aCO⟩, ⟨e, A6, B6, ⟨rfl, ne, e1, e2⟩, ⟨cs, A7, B7, ⟨CS, rfl, hCS, rfl, aCS⟩, ⟨f, A8, B8, ⟨rfl, nf, f1, f2⟩, ⟨us, A9, B9, ⟨US, rfl, hUS, rfl, aUS⟩, ⟨k, A10, B10, ⟨rfl, nk, k1, k2⟩, ⟨g, A11, B11, ⟨rfl, hg⟩, ⟨x, A12, B12, hx, ⟨rfl, rfl⟩, rfl⟩, rfl⟩, rfl⟩, rfl⟩, rfl⟩, rfl⟩, rfl⟩, rfl⟩, rfl⟩, rfl⟩, rfl⟩, rfl⟩;obtain ⟨t, ls, ns⟩ := x;simp only [List.nil_append] at hx ⊢;have hCOn : (co.length : Int) = d := by rw [hCO]; omega
 have hCSn : (cs.length : Int) = e := by rw [hCS]; omega
 have hUSn : (us.length : Int) = f := by rw [hUS]; omega
 have hD : debugB (pdOf ⟨b, c, k, decide (a = 1), co, cs, us, t, ls, ns⟩) = by1 (g : Int) ++ A12 ∧ t.size ≤ 1000 ∧ (ls.length = 0 ∨ ls.length = co.length) ∧ (ns.length = 0 ∨ ns.length = us.length) ∧ (∀ l ∈ ls, NumOk l) ∧ ∀ n ∈ ns, n.size ≤ 1000 := by
  rcases hx with ⟨rfl, rfl, h1, h2, h3, h4, h5, h6⟩ | ⟨hne, he, rfl⟩
  ·refine ⟨?_, h1, h2, h3, h4, h5⟩;rw [debugB_full (p := pdOf ⟨b, c, k, decide (a = 1), co, cs, us, t, ls, ns⟩) h6];have l1 : linesB (pdOf ⟨b, c, k, decide (a = 1), co, cs, us, t, ls, ns⟩) = catR WPut.pv ls := catR_cat WPut.pv 0 ls;have l2 : upNamesB (pdOf ⟨b, c, k, decide (a = 1), co, cs, us, t, ls, ns⟩) = catR sizedB ns := catR_cat sizedB ByteArray.empty ns;rw [l1, l2];show flagB true ++ sizedB t ++ pvN ls.length ++ catR WPut.pv ls ++ pvN ns.length ++ catR sizedB ns = by1 1 ++ _;simp only [ByteArray.append_assoc];rfl
  ·simp only [Prod.mk.injEq] at he;obtain ⟨rfl, rfl, rfl⟩ := he;refine ⟨?_, by show 0 ≤ 1000; omega, .inl rfl, .inl rfl, fun l hl => (by cases hl), fun n hn => (by cases hn)⟩;rw [debugB_bare (p := pdOf ⟨b, c, k, decide (a = 1), co, cs, us, ⟨#[]⟩, [], []⟩) ⟨rfl, rfl, rfl⟩];have g0 : g = 0 := by omega
   subst g0;show flagB false = by1 0 ++ ByteArray.empty;simp;rfl
 obtain ⟨hD1, ht, hls, hns, hla, hna⟩ := hD;have q1 : codeB (pdOf ⟨b, c, k, decide (a = 1), co, cs, us, t, ls, ns⟩) = catR (fun z : Nat => u4 (z : Int)) co := catR_cat (fun z : Nat => u4 (z : Int)) 0 co;have q2 : constsB (pdOf ⟨b, c, k, decide (a = 1), co, cs, us, t, ls, ns⟩) = catR constB cs := catR_cat constB ⟨0, 0, ByteArray.empty⟩ cs;have q3 : upsB (pdOf ⟨b, c, k, decide (a = 1), co, cs, us, t, ls, ns⟩) = catR upB us := catR_cat upB ⟨false, 0⟩ us;refine ⟨?_, ⟨⟨by show 1 ≤ c; omega, c2, b1, by show b ≤ c; omega, by show 1 ≤ co.length; omega, by show co.length ≤ 2000; omega, by show cs.length ≤ 500; omega, by show us.length ≤ 60; omega, ht, hls, hns, fun i hi => (aCS _ (getD_mem hi)).1, fun i hi => aUS _ (getD_mem hi), fun i hi => hla _ (getD_mem hi), fun i hi => hna _ (getD_mem hi)⟩, ⟨fun i hi => ⟨Int.natCast_nonneg _, aCO _ (getD_mem hi)⟩, fun i hi => ?_, ht, fun i hi => hna _ (getD_mem hi)⟩, k1⟩, k2⟩
 ·unfold protoB;rw [q1, q2, q3, hD1];show _ = flagB (decide (a = 1)) ++ WPut.pv b ++ WPut.pv c ++ pvN co.length ++ catR (fun z : Nat => u4 (z : Int)) co ++ pvN cs.length ++ catR constB cs ++ pvN us.length ++ catR upB us ++ WPut.pv k ++ (by1 (g : Int) ++ A12);unfold pvN;rw [hCOn, hCSn, hUSn, ← flag_of ha];simp only [ByteArray.append_assoc, ByteArray.append_empty]
 ·obtain ⟨h1, h2, h3⟩ := aCS _ (getD_mem (d := ⟨0, 0, ByteArray.empty⟩) hi);unfold Plain at h1;have hk : Cst (cs.getD i ⟨0, 0, ByteArray.empty⟩) := ⟨by omega, h2, h3⟩;exact hk
end
end Go.Proofs.YtnhanccjnhgjoaaGreatDoor
namespace Go.Proofs.YtnhanccjnhgjoaaGreatDoor
open Go.RowKit
set_option linter.unusedVariables false
set_option linter.unusedSimpArgs false
def pr0 : PR := ⟨0, 0, 0, false, [], [], [], ByteArray.empty, [], []⟩
def Kof (G : List PR) (j : Nat) : Int := (G.getD j pr0).kids
noncomputable def PB (p : PR) : ByteArray := protoB (pdOf p)
def PGood (p : PR) : Prop := ProtoOk (pdOf p) ∧ PW (pdOf p) ∧ 0 ≤ p.kids
def ForP (k : Nat) (ab : Int) (L : List PR) : Prop := ∀ G pre post : List PR, G = pre ++ L ++ post → ∃ h, Fo (Kof G) G.length k pre.length (pre.length + L.length) h ∧ ab + h ≤ 64
structure FOk (s : ByteArray) (k : Nat) (ab : Int) (r : RS) (an : Int) (L : List PR) (r' : RS) (an' : Int) : Prop where
 b : r.bad = 0
 at_ : At s r.pos (catR PB L)
 pos : r'.pos = r.pos + (catR PB L).size
 an : an' = an + L.length - k
 good : ∀ p ∈ L, PGood p
 tree : ForP k ab L
theorem for_back {s : ByteArray} {ab : Int} {t : RS → Int → List PR × RS × Int} (hab : ab ≤ 64) (ht : ∀ r an, r.pos ≤ s.size → 0 ≤ an → an ≤ 200 → (t r an).2.1.bad = 0 → FOk s 1 ab r an (t r an).1 (t r an).2.1 (t r an).2.2) (hf : ∀ r an, r.pos ≤ s.size → 0 ≤ an → an ≤ 200 → an ≤ (t r an).2.2 ∧ (t r an).2.2 ≤ 200) :
  ∀ n r an acc, r.pos ≤ s.size → 0 ≤ an → an ≤ 200 → (rdFor t n r an acc).2.1.bad = 0 → ∃ Ls, (rdFor t n r an acc).1 = acc ++ Ls ∧ FOk s n ab r an Ls.flatten (rdFor t n r an acc).2.1 (rdFor t n r an acc).2.2
 | 0, r, an, acc, hr, h0, h1, hb => ⟨[], by simp [rdFor], hb, At.nil hr, by simp [rdFor, catR], by simp [rdFor], fun p hp => (by cases hp), fun G pre post e => ⟨0, .nil, by omega⟩⟩
 | n + 1, r, an, acc, hr, h0, h1, hb => by
  by_cases hc : (t r an).2.1.bad = 0
  ·have T := ht r an hr h0 h1 hc;have F := hf r an hr h0 h1;rw [rdFor_ok hc] at hb ⊢;have hle := T.at_.le;obtain ⟨Ls, e, R⟩ := for_back hab ht hf n (t r an).2.1 (t r an).2.2 (acc ++ [(t r an).1]) (by rw [T.pos]; exact hle) (by omega) F.2 hb;have hat := R.at_;rw [T.pos] at hat;refine ⟨(t r an).1 :: Ls, by rw [e, List.append_assoc]; rfl, T.b, ?_, ?_, ?_, ?_, ?_⟩
   ·rw [List.flatten_cons, catR_append];exact T.at_.join hat
   ·rw [List.flatten_cons, catR_append, ByteArray.size_append, R.pos, T.pos, Nat.add_assoc]
   ·rw [R.an, T.an, List.flatten_cons, List.length_append];omega
   ·intro p hp;rw [List.flatten_cons] at hp;rcases List.mem_append.1 hp with hp | hp
    ·exact T.good p hp
    ·exact R.good p hp
   ·intro G pre post hG;rw [List.flatten_cons] at hG ⊢;obtain ⟨h1, f1, l1⟩ := T.tree G pre (Ls.flatten ++ post) (by rw [hG]; simp only [List.append_assoc]);obtain ⟨h2, f2, l2⟩ := R.tree G (pre ++ (t r an).1) post (by rw [hG]; simp only [List.append_assoc]);rw [List.length_append] at f2;refine ⟨max h1 h2, ?_, by omega⟩;have := f1.join f2;rw [Nat.add_comm 1 n] at this;rw [List.length_append, ← Nat.add_assoc];exact this
  ·rw [rdFor_bad hc] at hb;exact absurd hb hc
theorem tree_back {s : ByteArray} {V : Nat → Option (Int × Nat)} (hV : VrAt s V) : ∀ (f : Nat) (ab : Int), 0 ≤ ab → ab + f + 1 = 64 → ∀ r an, r.pos ≤ s.size → 0 ≤ an → an ≤ 200 → (rdTree s V (f + 1) ab r an).2.1.bad = 0 →
  FOk s 1 ab r an (rdTree s V (f + 1) ab r an).1 (rdTree s V (f + 1) ab r an).2.1 (rdTree s V (f + 1) ab r an).2.2 := by
 intro f
 induction f with
 | zero =>
  intro ab ha hf r an hr h0 h1 hb;have hm : (if ab = 63 then 0 else 200 - an) = 0 := if_pos (by omega);unfold rdTree at hb ⊢;dsimp only at hb ⊢;rw [hm] at hb ⊢;have hp := (rdPro_facts hV.ok (G := gi0) (most := 0) (by omega) hr);generalize hP : rdPro s V gi0 0 r = P at hb hp ⊢;have hk : P.1.kids = 0 := by omega
  rw [hk] at hb ⊢;simp only [Int.toNat_zero, rdFor, List.flatten_nil] at hb ⊢;have W := wr_pro hV (most := 0) (by omega) r hr (by rw [hP]; exact hb);rw [hP] at W;obtain ⟨b, X, ⟨rfl, hg, hk2⟩, a, p⟩ := W;refine ⟨b, ?_, ?_, by simp, fun q hq => ?_, fun G pre post e => ?_⟩
  ·simpa [catR, PB] using a
  ·simpa [catR, PB] using p
  ·rw [List.mem_singleton.1 hq]; exact hg
  ·have hi : pre.length < G.length := by rw [e]; simp
   have hK : Kof G pre.length = 0 := by
    unfold Kof;rw [e, ← hk];simp
   exact ⟨1, Fo.mk1 (g := 0) hi (by rw [hK]; omega) (by rw [hK]; exact .nil), by omega⟩
 | succ f ih =>
  intro ab ha hf r an hr h0 h1 hb;have hm : 0 ≤ (if ab = 63 then 0 else 200 - an) ∧ (if ab = 63 then 0 else 200 - an) ≤ 200 - an := by split <;> omega
  rw [rdTree] at hb ⊢;dsimp only at hb ⊢;generalize (if ab = 63 then 0 else 200 - an) = most at hb hm ⊢;have hp := (rdPro_facts hV.ok (G := gi0) (most := most) hm.1 hr);have W0 := wr_pro hV (most := most) (by omega) r hr;generalize hP : rdPro s V gi0 most r = P at hb hp W0 ⊢
  have hbp : P.2.bad = 0 := Classical.byContradiction fun e => by
   have : ∀ n r an acc, r.bad ≠ 0 → (rdFor (rdTree s V (f + 1) (ab + 1)) n r an acc).2.1.bad ≠ 0 := fun n r an acc hr => by
    cases n with
    | zero => exact hr
    | succ n =>
     have hx : (rdTree s V (f + 1) (ab + 1) r an).2.1.bad ≠ 0 := by rw [rdTree_b hr]; exact hr
     rw [rdFor_bad hx];exact hx
   exact this _ _ _ _ e hb
  obtain ⟨b, X, ⟨rfl, hg, hk2⟩, a, p⟩ := W0 hbp;obtain ⟨Ls, e, R⟩ := for_back (s := s) (ab := ab + 1) (t := rdTree s V (f + 1) (ab + 1)) (by omega) (fun r an a1 a2 a3 a4 => ih (ab + 1) (by omega) (by omega) r an a1 a2 a3 a4) (fun r an a1 a2 a3 => (rdTree_facts hV.ok (f + 1) (ab + 1) r an a1 a2 a3).2.1) P.1.kids.toNat P.2 (an + P.1.kids) [] hp.1 (by omega) (by omega) hb;rw [List.nil_append] at e;have hat := R.at_;rw [p] at hat;rw [e];refine ⟨b, a.join hat, ?_, ?_, fun q hq => ?_, fun G pre post hG => ?_⟩
  ·show _ = r.pos + (PB P.1 ++ catR PB Ls.flatten).size;rw [R.pos, p, ByteArray.size_append, Nat.add_assoc];rfl
  ·rw [R.an, List.length_cons];omega
  ·rcases List.mem_cons.1 hq with rfl | hq
   ·exact hg
   ·exact R.good q hq
  ·have hi : pre.length < G.length := by rw [hG]; simp
   have hK : Kof G pre.length = P.1.kids := by
    unfold Kof;rw [hG];simp
   obtain ⟨h, f1, l1⟩ := R.tree G (pre ++ [P.1]) post (by rw [hG]; simp);rw [List.length_append, List.length_singleton] at f1;refine ⟨h + 1, Fo.mk1 hi (by rw [hK]; exact hp.2.1) ?_, by omega⟩;rw [hK, List.length_cons, show pre.length + (Ls.flatten.length + 1) = pre.length + 1 + Ls.flatten.length by omega];exact f1
def rdS (L : List PR) : Sl PD := ⟨L.length, fun i => pdOf (L.getD i pr0)⟩
theorem accepted {s : ByteArray} {V : Nat → Option (Int × Nat)} (hV : VrAt s V) (hc : rdCode s V = 0) : Wf (rdS (rdTree s V 64 0 (rd0 s) 1).1) ∧ (∀ p ∈ (rdTree s V 64 0 (rd0 s) 1).1, PGood p) ∧ chunkB (rdS (rdTree s V 64 0 (rd0 s) 1).1) = s := by
 unfold rdCode at hc;dsimp only at hc;by_cases hh : HdrOk s
 ·have r1 : rd0 s = ⟨6, 0⟩ := if_pos hh;rw [r1] at hc ⊢;have F := rdTree_facts hV.ok 64 0 ⟨6, 0⟩ 1 hh.1 (by decide) (by decide);split at hc
  ·exact absurd hc (RS.fail_ne (by decide))
  ·rename_i hlt;have T := tree_back hV 63 0 (by decide) (by decide) ⟨6, 0⟩ 1 hh.1 (by decide) (by decide) hc;generalize rdTree s V 64 0 ⟨6, 0⟩ 1 = Y at F T hlt hc ⊢;obtain ⟨L, r', an⟩ := Y;dsimp only at F T hlt hc ⊢;have hpos := T.pos;have han := T.an;obtain ⟨h, f1, l1⟩ := T.tree L [] [] (by simp);have hne : 1 ≤ L.length := by have := f1.le.1; simp at this; omega
   refine ⟨⟨hne, by show L.length ≤ 200; omega, ⟨h, ?_, by omega⟩, fun i hi => (T.good _ (getD_mem hi)).1⟩, T.good, ?_⟩
   ·have f2 : Fo (Kof L) L.length 1 0 L.length h := by simpa using f1
    exact f2
   ·unfold chunkB;show headB ++ cat (fun i => protoB (pdOf (L.getD i pr0))) L.length = s;rw [show cat (fun i => protoB (pdOf (L.getD i pr0))) L.length = catR PB L from catR_cat PB pr0 L];have e1 := T.at_.ext;dsimp only at e1 hpos;have hsz : 6 + (catR PB L).size = s.size := by omega
    rw [hsz] at e1
    have e2 : s.extract 0 6 = headB := by
     have h2 := hh.2;rw [ByteArray.toList_eq] at h2;refine ext_list ?_;rw [h2];unfold headB;rw [strOfNums_data];rfl
    rw [← e1, ← e2, ByteArray.extract_append_extract];simp
 ·have r1 : rd0 s = ⟨0, 1⟩ := if_neg hh;rw [r1] at hc;have hk : (rdTree s V 64 0 ⟨0, 1⟩ 1).2.1 = ⟨0, 1⟩ := rdTree_b (by decide);rw [hk] at hc;split at hc
  ·exact absurd hc (RS.fail_ne (by decide))
  ·exact absurd hc (by decide)
end Go.Proofs.YtnhanccjnhgjoaaGreatDoor

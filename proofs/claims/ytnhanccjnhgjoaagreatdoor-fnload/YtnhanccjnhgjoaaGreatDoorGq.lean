import Derived.Test.YtnhanccjnhgjoaaGreatDoorGp
import Derived.Deep.RegionHeld3
import Derived.Deep.QuietTactic
import Derived.Deep.RegionWith
import Derived.IntWalk
import Derived.Deep.Cut
import Derived.Lib.ConvBytes
import Derived.Test.YtnhanccjnhgjoaaGreatDoorShelf
namespace Go.Proofs.YtnhanccjnhgjoaaGreatDoor
open Go.RowKit
set_option linter.unusedVariables false
set_option linter.unusedSimpArgs false
set_option maxRecDepth 100000
set_option maxHeartbeats 9000000
def fltV (b : Int) : Value := if b = 0 then .nilIface else .iface 59 (.agg #[.int .i64 b])
def rdL (s : ByteArray) (r : RS) (ab an : Int) : List Value := [.string s, .int .i64 (r.pos : Int), fltV r.bad, .int .i64 ab, .int .i64 an]
structure Ex (R : Nat) (w w' : World) : Prop where
 os : w'.os = w.os
 tape : w'.tape = w.tape
 output : w'.output = w.output
 size : w.heap.size ≤ w'.heap.size
 block : ∀ k, k < w.heap.size → k ≠ R → w'.heap[k]? = w.heap[k]?
theorem Ex.refl (R : Nat) (w : World) : Ex R w w := ⟨rfl, rfl, rfl, Nat.le_refl _, fun _ _ _ => rfl⟩
theorem Ex.trans {R : Nat} {a b c : World} (h : Ex R a b) (k : Ex R b c) : Ex R a c :=
 ⟨k.os.trans h.os, k.tape.trans h.tape, k.output.trans h.output, Nat.le_trans h.size k.size, fun i hi hR => (k.block i (Nat.lt_of_lt_of_le hi h.size) hR).trans (h.block i hi hR)⟩
theorem Ex.of {R : Nat} {a b : World} (h : Below a.heap.size a b) : Ex R a b := ⟨h.os, h.tape, h.output, h.size, fun i hi _ => h.block i hi⟩
theorem Ex.set {R : Nat} {a b : World} (h : Ex R a b) (k : Nat) (v : Value) : Ex R a (b.setCell ⟨R, k, none⟩ v) :=
 ⟨h.os, h.tape, h.output, by rw [World.size_setCell]; exact h.size, fun i hi hR => (Below.heap_setCell _ _ _ _ hR).trans (h.block i hi hR)⟩
theorem Ex.drew {R : Nat} {a b : World} (h : Ex R a b) : Ex R a b.drew := ⟨h.os, h.tape, h.output, h.size, h.block⟩
theorem Ex.row {R : Nat} {w w' : World} {b : Nat} {t : TypeId} {L : List Value} (h : Ex R w w') (hL : RowL w b t L) (hR : b ≠ R) : RowL w' b t L := World.rowIs.of_block hL (h.block _ (World.rowIs.lt hL) hR)
theorem reader_fail (s : ByteArray) (r : RS) (ab an c : Int) (R : Nat) (w : World) (h : RowL w R 98 (rdL s r ab an)) (hc : c ≠ 0) :
  Calls Tryz.prog 85 #[.pointer (some ⟨R, 0, none⟩), .int .i64 c] w fun e w' => e = .returned (.tuple #[]) ∧ RowL w' R 98 (rdL s (r.fail c) ab an) ∧ Ex R w w' := by
 have h2 : w.cell? ⟨R, 2, none⟩ = some (fltV r.bad) := h.cell 2 rfl;have hf := h.frozen;have hl := h.lt;obtain ⟨p, b⟩ := r;by_cases hb : b = 0
 ·subst hb;rw [RS.fail_ok rfl];have hs := h.set 2 (fltV c);have hx := (Ex.refl R w).set 2 (fltV c);have hfc : fltV c = .iface 59 (.agg #[.int .i64 c]) := if_neg hc;rw [show fltV (0 : Int) = .nilIface from rfl] at h2;replace h : Hid _ := h;replace hs : Hid _ := hs;rw [hfc] at hx;have hs2 : Hid (RowL (w.setCell ⟨R, 2, none⟩ (.iface 59 (.agg #[.int .i64 c]))) R 98 (rdL s ⟨p, c⟩ ab an)) := by rw [← hfc]; exact hs.out
  clear hs hfc;go_enter Tryz.func85, Tryz.ntmps85;go_wp2_with fail
  go_end0
  exact ⟨rfl, hs2.out, hx⟩
 ·rw [RS.fail_bad hb];have hfb : fltV b = .iface 59 (.agg #[.int .i64 b]) := if_neg hb;rw [show (⟨p, b⟩ : RS).bad = b from rfl, hfb] at h2;replace h : Hid (RowL w R 98 (rdL s ⟨p, b⟩ ab an)) := h;clear hfb;go_enter Tryz.func85, Tryz.ntmps85;go_wp2_with fail
  go_end0
  exact ⟨rfl, h.out, Ex.refl R w⟩
theorem take_bad (s : ByteArray) (p n : Nat) (b ab an : Int) (R : Nat) (w : World) (h : RowL w R 98 (rdL s ⟨p, b⟩ ab an)) (hb : b ≠ 0) :
  Calls Tryz.prog 115 #[.pointer (some ⟨R, 0, none⟩), .int .i64 (n : Int)] w fun e w' => e = .returned (.string ⟨#[]⟩) ∧ RowL w' R 98 (rdL s ⟨p, b⟩ ab an) ∧ Ex R w w' := by
 have hfb : fltV b = .iface 59 (.agg #[.int .i64 b]) := if_neg hb;have h0 : w.cell? ⟨R, 0, none⟩ = some (.string s) := h.cell 0 rfl;have h1 : w.cell? ⟨R, 1, none⟩ = some (.int .i64 (p : Int)) := h.cell 1 rfl;have h2 : w.cell? ⟨R, 2, none⟩ = some (.iface 59 (.agg #[.int .i64 b])) := h.cell 2 (by rw [← hfb]; rfl);have hf := h.frozen;have hl := h.lt;have hfl := fun y hy => reader_fail s ⟨p, b⟩ ab an 2 R y hy (by decide);rw [RS.fail_bad hb] at hfl;replace hfl : Hid (∀ y, RowL y R 98 (rdL s ⟨p, b⟩ ab an) → Calls Tryz.prog 85 #[.pointer (some ⟨R, 0, none⟩), .int .i64 2] y fun e w' => e = .returned (.tuple #[]) ∧ RowL w' R 98 (rdL s ⟨p, b⟩ ab an) ∧ Ex R y w') := hfl;replace h : Hid (RowL w R 98 (rdL s ⟨p, b⟩ ab an)) := h;clear hfb;go_enter Tryz.func115, Tryz.ntmps115;go_wp2_with fail
 go_region
 have hd : RowL w.drew R 98 (rdL s ⟨p, b⟩ ab an) := h.out;go_wp2_with fail;refine (hfl.out _ hd).mono ?_;rintro e y ⟨rfl, hy, hx⟩;have hx2 := (Ex.refl R w).drew.trans hx;clear hfl hd h0 h1 h2 hf hl hx;go_wp2_with fail;go_ret;exact ⟨rfl, hy, hx2⟩
theorem take_short (s : ByteArray) (p n : Nat) (b ab an : Int) (R : Nat) (w : World) (h : RowL w R 98 (rdL s ⟨p, 0⟩ ab an)) (hs : s.size ≤ 2000000000) (hp : p ≤ s.size) (hn : n ≤ 2000000000) (hlt : s.size < p + n) :
  Calls Tryz.prog 115 #[.pointer (some ⟨R, 0, none⟩), .int .i64 (n : Int)] w fun e w' => e = .returned (.string ⟨#[]⟩) ∧ RowL w' R 98 (rdL s ⟨p, 2⟩ ab an) ∧ Ex R w w' := by
 have h0 : w.cell? ⟨R, 0, none⟩ = some (.string s) := h.cell 0 rfl;have h1 : w.cell? ⟨R, 1, none⟩ = some (.int .i64 (p : Int)) := h.cell 1 rfl;have h2 : w.cell? ⟨R, 2, none⟩ = some .nilIface := h.cell 2 rfl;have hf := h.frozen;have hl := h.lt;have hfl := fun y hy => reader_fail s ⟨p, 0⟩ ab an 2 R y hy (by decide);rw [RS.fail_ok rfl] at hfl;replace hfl : Hid (∀ y, RowL y R 98 (rdL s ⟨p, 0⟩ ab an) → Calls Tryz.prog 85 #[.pointer (some ⟨R, 0, none⟩), .int .i64 2] y fun e w' => e = .returned (.tuple #[]) ∧ RowL w' R 98 (rdL s ⟨p, 2⟩ ab an) ∧ Ex R y w') := hfl;replace h : Hid (RowL w R 98 (rdL s ⟨p, 0⟩ ab an)) := h;have hltI : (s.size : Int) - (p : Int) < (n : Int) := by omega
 go_enter Tryz.func115, Tryz.ntmps115;go_wp2_with fail
 go_region
 have hd : RowL w.drew R 98 (rdL s ⟨p, 0⟩ ab an) := h.out;go_wp2_with fail;refine (hfl.out _ hd).mono ?_;rintro e y ⟨rfl, hy, hx⟩;have hx2 := (Ex.refl R w).drew.trans hx;clear hfl hd h0 h1 h2 hf hl hx;go_wp2_with fail;go_ret;exact ⟨rfl, hy, hx2⟩
theorem take_ok (s : ByteArray) (p n : Nat) (b ab an : Int) (R : Nat) (w : World) (h : RowL w R 98 (rdL s ⟨p, 0⟩ ab an)) (hs : s.size ≤ 2000000000) (hlt : p + n ≤ s.size) :
  Calls Tryz.prog 115 #[.pointer (some ⟨R, 0, none⟩), .int .i64 (n : Int)] w fun e w' => e = .returned (.string (s.extract p (p + n))) ∧ RowL w' R 98 (rdL s ⟨p + n, 0⟩ ab an) ∧ Ex R w w' := by
 have h0 : w.cell? ⟨R, 0, none⟩ = some (.string s) := h.cell 0 rfl;have h1 : w.cell? ⟨R, 1, none⟩ = some (.int .i64 (p : Int)) := h.cell 1 rfl;have h2 : w.cell? ⟨R, 2, none⟩ = some .nilIface := h.cell 2 rfl;have hf := h.frozen;have hl := h.lt;have hltI : ¬ (s.size : Int) - (p : Int) < (n : Int) := by omega
 have hS := h.set 1 (.int .i64 ((p : Int) + (n : Int)));have hsl := fun wx => sl_mid s p n wx hs hlt;go_enter Tryz.func115, Tryz.ntmps115;go_wp2_with fail
 go_region
 go_upto_region 5 with fail;have hS2 : RowL (w.setCell ⟨R, 1, none⟩ (.int .i64 ((p : Int) + (n : Int)))).drew R 98 (rdL s ⟨p + n, 0⟩ ab an) := hS.call (Below.refl _ _).drew;have hx := ((Ex.refl R w).set 1 (.int .i64 ((p : Int) + (n : Int)))).drew;clear hS h h0 h1 h2 hf hl;generalize (w.setCell ⟨R, 1, none⟩ (.int .i64 ((p : Int) + (n : Int)))).drew = w9 at hS2 hx ⊢;have h0 : w9.cell? ⟨R, 0, none⟩ = some (.string s) := hS2.cell 0 rfl;have h1 : w9.cell? ⟨R, 1, none⟩ = some (.int .i64 ((p : Int) + (n : Int))) := hS2.cell 1 rfl;have hl := hS2.lt;replace hS2 : Hid (RowL w9 R 98 (rdL s ⟨p + n, 0⟩ ab an)) := hS2
 go_region
 have hx2 := hx.drew;have hS3 : Hid (RowL w9.drew R 98 (rdL s ⟨p + n, 0⟩ ab an)) := RowL.call hS2.out (Below.refl _ _).drew;clear hS2 h0 h1 hl;go_wp2_with fail;go_ret;exact ⟨rfl, hS3.out, hx2⟩
theorem take_in (s : ByteArray) (n : Nat) (r : RS) (ab an : Int) (R : Nat) (w : World) (h : RowL w R 98 (rdL s r ab an)) (hs : s.size ≤ 2000000000) (hp : r.pos ≤ s.size) (hn : n ≤ 2000000000) :
  Calls Tryz.prog 115 #[.pointer (some ⟨R, 0, none⟩), .int .i64 (n : Int)] w fun e w' => e = .returned (.string (rdBytes s n r).1) ∧ RowL w' R 98 (rdL s (rdBytes s n r).2 ab an) ∧ Ex R w w' := by
 obtain ⟨p, b⟩ := r;by_cases hb : b = 0
 ·subst hb;by_cases hlt : p + n ≤ s.size
  ·have e : rdBytes s n ⟨p, 0⟩ = (s.extract p (p + n), ⟨p + n, 0⟩) := by simp [rdBytes, hlt]
   rw [e];exact take_ok s p n 0 ab an R w h hs hlt
  ·have e : rdBytes s n ⟨p, 0⟩ = (ByteArray.empty, ⟨p, 2⟩) := by simp [rdBytes, hlt]
   rw [e];exact take_short s p n 0 ab an R w h hs hp hn (by omega)
 ·have e : rdBytes s n ⟨p, b⟩ = (ByteArray.empty, ⟨p, b⟩) := by simp [rdBytes, hb]
  rw [e];exact take_bad s p n b ab an R w h hb
theorem text_some1 (t : ByteArray) (h : ¬ t.size = 0) : t.toList.isEmpty = false := by
 cases he : t.toList.isEmpty with
 | false => rfl
 | true =>
  exfalso
  apply h;have h2 := decide_eq_emptyBytes t;rw [he] at h2;have : t = ByteArray.empty := of_decide_eq_true h2;rw [this];rfl
theorem choice_none (s : ByteArray) (r r1 : RS) (hi : Nat) (ab an : Int) (R : Nat) (w : World) (h : RowL w R 98 (rdL s r ab an)) (ht : Hid (∀ y, RowL y R 98 (rdL s r ab an) → Calls Tryz.prog 115 #[.pointer (some ⟨R, 0, none⟩), .int .i64 1] y fun e w' => e = .returned (.string ⟨#[]⟩) ∧ RowL w' R 98 (rdL s r1 ab an) ∧ Ex R y w')) :
  Calls Tryz.prog 113 #[.pointer (some ⟨R, 0, none⟩), .int .u8 (hi : Int)] w fun e w' => e = .returned (.int .u8 0) ∧ RowL w' R 98 (rdL s r1 ab an) ∧ Ex R w w' := by
 replace h : Hid (RowL w R 98 (rdL s r ab an)) := h;go_enter Tryz.func113, Tryz.ntmps113;go_wp2_with fail;refine Calls.mono (ht.out _ h.out) ?_;rintro e y ⟨rfl, hy, hx⟩;clear ht h;replace hy : Hid (RowL y R 98 (rdL s r1 ab an)) := hy;go_wp2_with fail;go_ret;exact ⟨rfl, hy.out, hx⟩
theorem choice_big (s : ByteArray) (r r1 : RS) (hi : Nat) (ab an : Int) (R : Nat) (w : World) (h : RowL w R 98 (rdL s r ab an)) (p : Nat) (hp : p < s.size) (hh : hi < s[p].toNat) (h4 : hi ≤ 255) (ht : Hid (∀ y, RowL y R 98 (rdL s r ab an) → Calls Tryz.prog 115 #[.pointer (some ⟨R, 0, none⟩), .int .i64 1] y fun e w' => e = .returned (.string (s.extract p (p + 1))) ∧ RowL w' R 98 (rdL s ⟨p + 1, 0⟩ ab an) ∧ Ex R y w')) :
  Calls Tryz.prog 113 #[.pointer (some ⟨R, 0, none⟩), .int .u8 (hi : Int)] w fun e w' => e = .returned (.int .u8 0) ∧ RowL w' R 98 (rdL s ⟨p + 1, 3⟩ ab an) ∧ Ex R w w' := by
 have hsz : (s.extract p (p + 1)).size = 1 := by rw [ByteArray.size_extract]; omega
 have hg : (s.extract p (p + 1))[0] = s[p] := by
  have := ByteArray.getElem_extract (i := 0) (b := s) (start := p) (stop := p + 1) (by omega)
  simpa using this
 have h256 : s[p].toNat < 256 := UInt8.toNat_lt _;obtain ⟨t, ht0⟩ : ∃ t, t = s.extract p (p + 1) := ⟨_, rfl⟩;rw [← ht0] at ht;have hts : t.size = 1 := by rw [ht0]; exact hsz
 have htg : ∀ h : 0 < t.size, t[0].toNat = s[p].toNat := by subst ht0; intro h; rw [hg]
 clear hsz hg ht0;obtain ⟨x, hx0⟩ : ∃ x : Nat, x = s[p].toNat := ⟨_, rfl⟩;rw [← hx0] at h256 hh;have htx : t[0].toNat = x := by rw [htg (by omega), hx0]
 have htI : ((t[0].toNat : Nat) : Int) = (x : Int) := by rw [htx]
 have hne : t.toList.isEmpty = false := text_some1 t (by omega);have htsI : (t.size : Int) = 1 := by omega
 clear htg hx0;have hhI : (x : Int) > (hi : Int) := by omega
 have hfl := fun y hy => reader_fail s ⟨p + 1, 0⟩ ab an 3 R y hy (by decide);rw [RS.fail_ok rfl] at hfl;replace hfl : Hid (∀ y, RowL y R 98 (rdL s ⟨p + 1, 0⟩ ab an) → Calls Tryz.prog 85 #[.pointer (some ⟨R, 0, none⟩), .int .i64 3] y fun e w' => e = .returned (.tuple #[]) ∧ RowL w' R 98 (rdL s ⟨p + 1, 3⟩ ab an) ∧ Ex R y w') := hfl;replace h : Hid (RowL w R 98 (rdL s r ab an)) := h;go_enter Tryz.func113, Tryz.ntmps113;go_wp2_with fail;refine Calls.mono (ht.out _ h.out) ?_;rintro e y ⟨rfl, hy, hx⟩;clear ht h;replace hy : Hid (RowL y R 98 (rdL s ⟨p + 1, 0⟩ ab an)) := hy;go_wp2_with fail;refine Calls.mono (hfl.out _ hy.out) ?_;rintro e y2 ⟨rfl, hy2, hx2⟩;have hx3 := hx.trans hx2;clear hfl hy hx hx2;replace hy2 : Hid (RowL y2 R 98 (rdL s ⟨p + 1, 3⟩ ab an)) := hy2;go_wp2_with fail;go_ret;exact ⟨rfl, hy2.out, hx3⟩
theorem choice_ok (s : ByteArray) (r r1 : RS) (hi : Nat) (ab an : Int) (R : Nat) (w : World) (h : RowL w R 98 (rdL s r ab an)) (p : Nat) (hp : p < s.size) (hh : s[p].toNat ≤ hi) (h4 : hi ≤ 255) (ht : Hid (∀ y, RowL y R 98 (rdL s r ab an) → Calls Tryz.prog 115 #[.pointer (some ⟨R, 0, none⟩), .int .i64 1] y fun e w' => e = .returned (.string (s.extract p (p + 1))) ∧ RowL w' R 98 (rdL s ⟨p + 1, 0⟩ ab an) ∧ Ex R y w')) :
  Calls Tryz.prog 113 #[.pointer (some ⟨R, 0, none⟩), .int .u8 (hi : Int)] w fun e w' => e = .returned (.int .u8 (s[p].toNat : Int)) ∧ RowL w' R 98 (rdL s ⟨p + 1, 0⟩ ab an) ∧ Ex R w w' := by
 have hsz : (s.extract p (p + 1)).size = 1 := by rw [ByteArray.size_extract]; omega
 have hg : (s.extract p (p + 1))[0] = s[p] := by
  have := ByteArray.getElem_extract (i := 0) (b := s) (start := p) (stop := p + 1) (by omega)
  simpa using this
 have h256 : s[p].toNat < 256 := UInt8.toNat_lt _;obtain ⟨t, ht0⟩ : ∃ t, t = s.extract p (p + 1) := ⟨_, rfl⟩;rw [← ht0] at ht;have hts : t.size = 1 := by rw [ht0]; exact hsz
 have htg : ∀ h : 0 < t.size, t[0].toNat = s[p].toNat := by subst ht0; intro h; rw [hg]
 clear hsz hg ht0;obtain ⟨x, hx0⟩ : ∃ x : Nat, x = s[p].toNat := ⟨_, rfl⟩;rw [← hx0] at h256 hh ⊢;have htx : t[0].toNat = x := by rw [htg (by omega), hx0]
 have htI : ((t[0].toNat : Nat) : Int) = (x : Int) := by rw [htx]
 have hne : t.toList.isEmpty = false := text_some1 t (by omega);have htsI : (t.size : Int) = 1 := by omega
 clear htg hx0;have hhI : ¬ (x : Int) > (hi : Int) := by omega
 replace h : Hid (RowL w R 98 (rdL s r ab an)) := h;go_enter Tryz.func113, Tryz.ntmps113;go_wp2_with fail;refine Calls.mono (ht.out _ h.out) ?_;rintro e y ⟨rfl, hy, hx⟩;clear ht h;replace hy : Hid (RowL y R 98 (rdL s ⟨p + 1, 0⟩ ab an)) := hy;go_wp2_with fail;go_ret;exact ⟨rfl, hy.out, hx⟩
theorem choice_in (s : ByteArray) (hi : Nat) (r : RS) (ab an : Int) (R : Nat) (w : World) (h : RowL w R 98 (rdL s r ab an)) (hs : s.size ≤ 2000000000) (hp : r.pos ≤ s.size) (h4 : hi ≤ 255) :
  Calls Tryz.prog 113 #[.pointer (some ⟨R, 0, none⟩), .int .u8 (hi : Int)] w fun e w' => e = .returned (.int .u8 ((rdByte s hi r).1 : Int)) ∧ RowL w' R 98 (rdL s (rdByte s hi r).2 ab an) ∧ Ex R w w' := by
 have ht : Hid (∀ y, RowL y R 98 (rdL s r ab an) → Calls Tryz.prog 115 #[.pointer (some ⟨R, 0, none⟩), .int .i64 1] y fun e w' => e = .returned (.string (rdBytes s 1 r).1) ∧ RowL w' R 98 (rdL s (rdBytes s 1 r).2 ab an) ∧ Ex R y w') := fun y hy => take_in s 1 r ab an R y hy hs hp (by decide);obtain ⟨p, b⟩ := r;by_cases hb : b = 0
 ·subst hb;by_cases hlt : p < s.size
  ·have e0 : rdBytes s 1 ⟨p, 0⟩ = (s.extract p (p + 1), ⟨p + 1, 0⟩) := by simp [rdBytes, show p + 1 ≤ s.size from hlt]
   rw [e0] at ht;by_cases hh : hi < s[p].toNat
   ·have e : rdByte s hi ⟨p, 0⟩ = (0, ⟨p + 1, 3⟩) := by simp [rdByte, hlt, hh]
    rw [e];exact choice_big s _ ⟨p, 0⟩ hi ab an R w h p hlt hh h4 ht
   ·have e : rdByte s hi ⟨p, 0⟩ = (s[p].toNat, ⟨p + 1, 0⟩) := by simp [rdByte, hlt, hh]
    rw [e];exact choice_ok s _ ⟨p, 0⟩ hi ab an R w h p hlt (by omega) h4 ht
  ·have e0 : rdBytes s 1 ⟨p, 0⟩ = (ByteArray.empty, ⟨p, 2⟩) := by simp [rdBytes, show ¬ p + 1 ≤ s.size from hlt]
   rw [e0] at ht;have e : rdByte s hi ⟨p, 0⟩ = (0, ⟨p, 2⟩) := by simp [rdByte, hlt]
   rw [e];exact choice_none s _ _ hi ab an R w h ht
 ·have e0 : rdBytes s 1 ⟨p, b⟩ = (ByteArray.empty, ⟨p, b⟩) := by simp [rdBytes, hb]
  rw [e0] at ht;have e : rdByte s hi ⟨p, b⟩ = (0, ⟨p, b⟩) := by simp [rdByte, hb]
  rw [e];exact choice_none s _ _ hi ab an R w h ht
theorem flag_in (s : ByteArray) (r : RS) (ab an : Int) (R : Nat) (w : World) (h : RowL w R 98 (rdL s r ab an)) (hs : s.size ≤ 2000000000) (hp : r.pos ≤ s.size) :
  Calls Tryz.prog 102 #[.pointer (some ⟨R, 0, none⟩)] w fun e w' => e = .returned (.bool (decide ((rdByte s 1 r).1 = 1))) ∧ RowL w' R 98 (rdL s (rdByte s 1 r).2 ab an) ∧ Ex R w w' := by
 have hc : Hid (Calls Tryz.prog 113 #[.pointer (some ⟨R, 0, none⟩), .int .u8 1] w fun e w' => e = .returned (.int .u8 ((rdByte s 1 r).1 : Int)) ∧ RowL w' R 98 (rdL s (rdByte s 1 r).2 ab an) ∧ Ex R w w') := choice_in s 1 r ab an R w h hs hp (by decide);have hb := rdByte_bd s 1 r;clear h;generalize rdByte s 1 r = x at hc hb ⊢;obtain ⟨k, r1⟩ := x;dsimp only at hc hb ⊢;go_enter Tryz.func102, Tryz.ntmps102;go_wp2_with fail;refine Calls.mono hc.out ?_;rintro e y ⟨rfl, hy, hx⟩;clear hc;replace hy : Hid (RowL y R 98 (rdL s r1 ab an)) := hy;obtain rfl | rfl : k = 0 ∨ k = 1 := by omega
 ·go_wp2_with fail;go_ret;exact ⟨rfl, hy.out, hx⟩
 ·go_wp2_with fail;go_ret;exact ⟨rfl, hy.out, hx⟩
theorem noVarint_long (t : ByteArray) (w : World) (ht : t.size ≤ 2000000000) (h : ¬ t.size < 4) : Calls Tryz.prog 123 #[.string t] w fun e w' => e = .returned (.int .i64 3) ∧ Below w.heap.size w w' := by
 have hI : ¬ (t.size : Int) < 4 := by omega
 go_enter Tryz.func123, Tryz.ntmps123;go_wp2_with fail;go_ret;exact ⟨rfl, by go_grown⟩
def Tells (e : Ending) (P : Prop) : Prop := ∃ q : Bool, e = .returned (.bool q) ∧ (q = true ↔ P)
theorem goesOn_in (x : Nat) (hx : x < 256) (w : World) : Calls Tryz.prog 126 #[.int .u8 (x : Int)] w fun e w' => Tells e (128 ≤ x) ∧ w' = w := by
 by_cases h : 128 ≤ x
 ·have hI : (x : Int) ≥ 128 := by omega
  go_enter Tryz.func126, Tryz.ntmps126;go_wp2_with fail;go_ret;exact ⟨⟨_, rfl, by simp [h]⟩, rfl⟩
 ·have hI : ¬ (x : Int) ≥ 128 := by omega
  go_enter Tryz.func126, Tryz.ntmps126;go_wp2_with fail;go_ret;exact ⟨⟨_, rfl, by simp [h]⟩, rfl⟩
theorem everyByte_in (t : ByteArray) (b cap : Nat) (w : World) (ht : t.size ≤ 2000000000) (hb : b < w.heap.size) (hc : ∀ j (h : j < t.size), w.cell? ⟨b, j, none⟩ = some (.int .u8 (t[j].toNat : Int))) :
  Calls Tryz.prog 125 #[.slice (some ⟨b, 0, none⟩) t.size cap, .func (.func 126) #[] #[]] w fun e w' => Tells e (∀ j (h : j < t.size), 128 ≤ t[j].toNat) ∧ w' = w := by
 replace hc : Hid (∀ j (h : j < t.size), w.cell? ⟨b, j, none⟩ = some (.int .u8 (t[j].toNat : Int))) := hc;go_enter Tryz.func125, Tryz.ntmps125;go_wp2_with fail;go_loopw [6, 9] (fun _ kv wr => ∃ k : Nat, kv = .int .i64 (k : Int) ∧ k ≤ t.size ∧ Hid (∀ j (h : j < t.size), j < k → 128 ≤ t[j].toNat) ∧ wr = w) (fun _ kv _ => t.size - (intOf kv).toNat);case atStart => exact ⟨0, rfl, by omega, fun j h h' => absurd h' (by omega), rfl⟩
 case round =>
  obtain ⟨k, rfl, hk, hG, rfl⟩ := hrel;by_cases hlt : k < t.size
  ·have hltI : (k : Int) < (t.size : Int) := by omega
   have c0 := hc.out k hlt;have h256 : t[k].toNat < 256 := UInt8.toNat_lt _;obtain ⟨x, hx⟩ : ∃ x : Nat, x = t[k].toNat := ⟨_, rfl⟩;rw [← hx] at c0 h256;have hgo : Hid (∀ y, Calls Tryz.prog 126 #[.int .u8 (x : Int)] y fun e w' => Tells e (128 ≤ x) ∧ w' = y) := fun y => goesOn_in x h256 y;replace hx : Hid (x = t[k].toNat) := hx;go_wp2_with fail;refine Calls.mono (hgo.out _) ?_;rintro e y ⟨⟨q, rfl, hq⟩, rfl⟩;clear hgo
   cases q with
   | true =>
    have hG2 : Hid (∀ j (h : j < t.size), j < k + 1 → 128 ≤ t[j].toNat) := fun j h hj => by
     by_cases e : j = k
     ·subst e; rw [← hx.out]; exact hq.1 rfl
     ·exact hG.out j h (by omega)
    clear hq c0;go_wp2_with fail;go_roundw;case rel => exact ⟨k + 1, by go_num, by omega, hG2, by first | rfl | trivial⟩
    case measure => simp [intOf]; omega
   | false =>
    have hno : Hid (¬ ∀ j (h : j < t.size), 128 ≤ t[j].toNat) := fun h => by
     have h1 := h k hlt;rw [← hx.out] at h1;exact absurd (hq.2 h1) (by decide)
    clear hq c0;go_wp2_with fail;go_ret;exact ⟨⟨_, rfl, by simpa using hno.out⟩, rfl⟩
  ·have hltI : ¬ (k : Int) < (t.size : Int) := by omega
   have hyes : Hid (∀ j (h : j < t.size), 128 ≤ t[j].toNat) := fun j h => hG.out j h (by omega);go_wp2_with fail;go_ret;exact ⟨⟨_, rfl, ⟨fun _ => hyes.out, fun _ => rfl⟩⟩, rfl⟩
theorem noVarint_in (t : ByteArray) (w : World) (ht : t.size ≤ 2000000000) (c : Int) (hy : (t.size < 4 ∧ ∀ j (h : j < t.size), 128 ≤ t[j].toNat) → c = 2) (hn : ¬ (t.size < 4 ∧ ∀ j (h : j < t.size), 128 ≤ t[j].toNat) → c = 3) :
  Calls Tryz.prog 123 #[.string t] w fun e w' => e = .returned (.int .i64 c) ∧ Below w.heap.size w w' := by
 by_cases h : t.size < 4
 ·have hI : (t.size : Int) < 4 := by omega
  have hcv := Go.Lib.run_convert_string_bytes (P := Tryz.prog) w 9 22 5 t Tryz.underlying9 Tryz.underlying22 Tryz.underlying5;have hb : w.heap.size < (Go.Lib.bytesWorld w 5 t).heap.size := by rw [Go.Lib.bytesWorld_size]; omega
  have hbel : Below w.heap.size w (Go.Lib.bytesWorld w 5 t) := ⟨rfl, rfl, rfl, by rw [Go.Lib.bytesWorld_size]; omega, fun k hk => Go.Lib.bytesWorld_at_old w 5 t k hk⟩
  have hc : ∀ j (h : j < t.size), (Go.Lib.bytesWorld w 5 t).cell? ⟨w.heap.size, j, none⟩ = some (.int .u8 (t[j].toNat : Int)) := fun j hj => by
   rw [Go.Lib.bytesWorld_cell w 5 t j hj];simp [List.getD, ByteArray.getElem_eq_getElem_data, hj]
  generalize Go.Lib.bytesWorld w 5 t = w1 at hcv hb hbel hc;generalize grownCap w t.size 0 5 = cap at hcv;have hev : Hid (Calls Tryz.prog 125 #[.slice (some ⟨w.heap.size, 0, none⟩) t.size cap, .func (.func 126) #[] #[]] w1 fun e w' => Tells e (∀ j (h : j < t.size), 128 ≤ t[j].toNat) ∧ w' = w1) := everyByte_in t w.heap.size cap w1 ht hb hc;replace hc : Hid _ := hc;go_enter Tryz.func123, Tryz.ntmps123;go_wp2_with fail;refine Calls.mono hev.out ?_;rintro e y ⟨⟨q, rfl, hq⟩, rfl⟩;clear hev hcv
  cases q with
  | true =>
   obtain rfl : c = 2 := hy ⟨h, hq.1 rfl⟩;clear hq;go_wp2_with fail;go_ret;exact ⟨rfl, hbel⟩
  | false =>
   obtain rfl : c = 3 := hn fun h' => absurd (hq.2 h'.2) (by decide);clear hq;go_wp2_with fail;go_ret;exact ⟨rfl, hbel⟩
 ·obtain rfl : c = 3 := hn fun h' => h h'.1;exact noVarint_long t w ht h
theorem any_bad (s : ByteArray) (V : Nat → Option (Int × Nat)) (p : Nat) (b ab an : Int) (R : Nat) (w : World) (h : RowL w R 98 (rdL s ⟨p, b⟩ ab an)) (hb : b ≠ 0) :
  Calls Tryz.prog 114 #[.pointer (some ⟨R, 0, none⟩)] w fun e w' => e = .returned (.int .i64 0) ∧ RowL w' R 98 (rdL s ⟨p, b⟩ ab an) ∧ Ex R w w' := by
 have hfb : fltV b = .iface 59 (.agg #[.int .i64 b]) := if_neg hb;have h0 : w.cell? ⟨R, 0, none⟩ = some (.string s) := h.cell 0 rfl;have h1 : w.cell? ⟨R, 1, none⟩ = some (.int .i64 (p : Int)) := h.cell 1 rfl;have h2 : w.cell? ⟨R, 2, none⟩ = some (.iface 59 (.agg #[.int .i64 b])) := h.cell 2 (by rw [← hfb]; rfl);have hf := h.frozen;have hl := h.lt;replace h : Hid (RowL w R 98 (rdL s ⟨p, b⟩ ab an)) := h;clear hfb;go_enter Tryz.func114, Tryz.ntmps114;go_wp2_with fail;go_ret;exact ⟨rfl, h.out, Ex.refl R w⟩
theorem any_some (s : ByteArray) (V : Nat → Option (Int × Nat)) (p : Nat) (b ab an : Int) (R : Nat) (w : World) (h : RowL w R 98 (rdL s ⟨p, 0⟩ ab an)) (hV : VrOk s V) (n : Int) (q : Nat) (hp : p ≤ s.size) (hv : V p = some (n, q)) :
  Calls Tryz.prog 114 #[.pointer (some ⟨R, 0, none⟩)] w fun e w' => e = .returned (.int .i64 n) ∧ RowL w' R 98 (rdL s ⟨q, 0⟩ ab an) ∧ Ex R w w' := by
 have hg : Hid (∀ y, Below w.heap.size w y → Calls Tryz.prog 122 #[.string s, .int .i64 (p : Int)] y fun e w' => e = .returned (.tuple #[.int .i64 n, .int .i64 (q : Int), .bool true]) ∧ Below w.heap.size w w') := fun y hy => by
  have := hV.im p hp y;rw [hv] at this;exact this.mono fun e w' ⟨he, hb⟩ => ⟨he, hy.trans (hb.mono hy.size)⟩
 clear hV;have h0 : w.cell? ⟨R, 0, none⟩ = some (.string s) := h.cell 0 rfl;have h1 : w.cell? ⟨R, 1, none⟩ = some (.int .i64 (p : Int)) := h.cell 1 rfl;have h2 : w.cell? ⟨R, 2, none⟩ = some .nilIface := h.cell 2 rfl;have hf := h.frozen;have hl := h.lt;have hk : Hid (∀ y, Below w.heap.size w y → (y.cell? ⟨R, 0, none⟩ = some (.string s) ∧ y.cell? ⟨R, 1, none⟩ = some (.int .i64 (p : Int)))) := fun y hy => ⟨(h.call hy).cell 0 rfl, (h.call hy).cell 1 rfl⟩;replace h : Hid (RowL w R 98 (rdL s ⟨p, 0⟩ ab an)) := h;go_enter Tryz.func114, Tryz.ntmps114;go_wp2_with fail
 go_region_held3 (fun v => v.cell? ⟨R, 0, none⟩ = some (.string s) ∧ v.cell? ⟨R, 1, none⟩ = some (.int .i64 (p : Int))) (first | exact hk.out _ (Below.refl _ _).drew | assumption)
  (first | (go_at_call 122; refine Calls.mono (hg.out _ (Below.refl _ _).drew) ?_; rintro e y ⟨rfl, b9⟩; have hs3 := hk.out y b9))
 have hy := RowL.call h.out b9;have hx := Ex.of (R := R) b9;clear hk hg h h0 h1 h2 hf hl b9 hs3;have h1 : y.cell? ⟨R, 1, none⟩ = some (.int .i64 (p : Int)) := hy.cell 1 rfl;have hf := hy.frozen;have hl := hy.lt;have hS : Hid (RowL (y.setCell ⟨R, 1, none⟩ (.int .i64 (q : Int))) R 98 (rdL s ⟨q, 0⟩ ab an)) := hy.set 1 (.int .i64 (q : Int));have hx2 := hx.set 1 (.int .i64 (q : Int));replace hy : Hid _ := hy;go_wp2_with fail;go_ret;exact ⟨rfl, hS.out, hx2⟩
theorem rest_lemma (s : ByteArray) (p : Nat) (hp : p ≤ s.size) : ((s.extract p s.size).size < 4 ∧ ∀ j (h : j < (s.extract p s.size).size), 128 ≤ (s.extract p s.size)[j].toNat) ↔ Cut4 s p := by
 have hsz : (s.extract p s.size).size = s.size - p := by rw [ByteArray.size_extract]; omega
 have hg : ∀ j (h : j < (s.extract p s.size).size) (h' : p + j < s.size), (s.extract p s.size)[j] = s[p + j] := fun j h h' => by simp [ByteArray.getElem_eq_getElem_data]
 constructor
 ·rintro ⟨h1, h2⟩;refine ⟨by omega, fun j hj hpj => ?_⟩;have h3 := h2 (j - p) (by omega);rw [hg (j - p) (by omega) (by omega)] at h3;have e : p + (j - p) = j := by omega
  simpa only [e] using h3
 ·rintro ⟨h1, h2⟩;refine ⟨by omega, fun j hj => ?_⟩;rw [hg j hj (by omega)];exact h2 (p + j) (by omega) (by omega)
theorem sl_rest (s : ByteArray) (p : Nat) (wx : World) (hs : s.size ≤ 2000000000) (hp : p ≤ s.size) : (Instr.slice 9 (.string s) (some (.int .i64 (p : Int))) none none).run Tryz.prog wx = .ok (.string (s.extract p s.size)) wx := by
 simp [Instr.slice, go_sem];omega
theorem any_none (s : ByteArray) (V : Nat → Option (Int × Nat)) (p : Nat) (b ab an : Int) (R : Nat) (w : World) (h : RowL w R 98 (rdL s ⟨p, 0⟩ ab an)) (hV : VrOk s V) (c : Int) (hs : s.size ≤ 2000000000) (hp : p ≤ s.size) (hv : V p = none) (hc2 : Cut4 s p → c = 2) (hc3 : ¬ Cut4 s p → c = 3) :
  Calls Tryz.prog 114 #[.pointer (some ⟨R, 0, none⟩)] w fun e w' => e = .returned (.int .i64 0) ∧ RowL w' R 98 (rdL s ⟨p, c⟩ ab an) ∧ Ex R w w' := by
 have hg : Hid (∀ y, Below w.heap.size w y → Calls Tryz.prog 122 #[.string s, .int .i64 (p : Int)] y fun e w' => e = .returned (.tuple #[.int .i64 0, .int .i64 0, .bool false]) ∧ Below w.heap.size w w') := fun y hy => by
  have := hV.im p hp y;rw [hv] at this;exact this.mono fun e w' ⟨he, hb⟩ => ⟨he, hy.trans (hb.mono hy.size)⟩
 clear hV
 have hc0 : c ≠ 0 := by
  by_cases h : Cut4 s p
  ·rw [hc2 h]; decide
  ·rw [hc3 h]; decide
 have hnv : Hid (∀ y, Calls Tryz.prog 123 #[.string (s.extract p s.size)] y fun e w' => e = .returned (.int .i64 c) ∧ Below y.heap.size y w') := fun y => noVarint_in _ y (by rw [ByteArray.size_extract]; omega) c (fun h => hc2 ((rest_lemma s p hp).1 h)) (fun h => hc3 fun h' => h ((rest_lemma s p hp).2 h'));have hsl : ∀ wx, (Instr.slice 9 (.string s) (some (.int .i64 (p : Int))) none none).run Tryz.prog wx = .ok (.string (s.extract p s.size)) wx := fun wx => sl_rest s p wx hs hp;have hfl : Hid (∀ y, RowL y R 98 (rdL s ⟨p, 0⟩ ab an) → Calls Tryz.prog 85 #[.pointer (some ⟨R, 0, none⟩), .int .i64 c] y fun e w' => e = .returned (.tuple #[]) ∧ RowL w' R 98 (rdL s ⟨p, c⟩ ab an) ∧ Ex R y w') := fun y hy => reader_fail s ⟨p, 0⟩ ab an c R y hy hc0;clear hc2 hc3 hc0;have h0 : w.cell? ⟨R, 0, none⟩ = some (.string s) := h.cell 0 rfl;have h1 : w.cell? ⟨R, 1, none⟩ = some (.int .i64 (p : Int)) := h.cell 1 rfl;have h2 : w.cell? ⟨R, 2, none⟩ = some .nilIface := h.cell 2 rfl;have hf := h.frozen;have hl := h.lt;have hk : Hid (∀ y, Below w.heap.size w y → (y.cell? ⟨R, 0, none⟩ = some (.string s) ∧ y.cell? ⟨R, 1, none⟩ = some (.int .i64 (p : Int)))) := fun y hy => ⟨(h.call hy).cell 0 rfl, (h.call hy).cell 1 rfl⟩;replace h : Hid (RowL w R 98 (rdL s ⟨p, 0⟩ ab an)) := h;go_enter Tryz.func114, Tryz.ntmps114;go_wp2_with fail
 go_region_held3 (fun v => v.cell? ⟨R, 0, none⟩ = some (.string s) ∧ v.cell? ⟨R, 1, none⟩ = some (.int .i64 (p : Int))) (first | exact hk.out _ (Below.refl _ _).drew | assumption)
  (first | (go_at_call 122; refine Calls.mono (hg.out _ (Below.refl _ _).drew) ?_; rintro e y ⟨rfl, b9⟩; have hs3 := hk.out y b9))
 have hy := RowL.call h.out b9;have hx := Ex.of (R := R) b9;clear hk hg h h0 h1 h2 hf hl b9 hs3;have hk : Hid (∀ z, Below y.heap.size y z → (z.cell? ⟨R, 0, none⟩ = some (.string s) ∧ z.cell? ⟨R, 1, none⟩ = some (.int .i64 (p : Int)))) := fun z hz => ⟨(hy.call hz).cell 0 rfl, (hy.call hz).cell 1 rfl⟩;have hl := hy.lt;have hnv2 : Hid (∀ z, Below y.heap.size y z → Calls Tryz.prog 123 #[.string (s.extract p s.size)] z fun e w' => e = .returned (.int .i64 c) ∧ Below y.heap.size y w') := fun z hz => (hnv.out z).mono fun e w' ⟨he, hb⟩ => ⟨he, hz.trans (hb.mono hz.size)⟩;have hfl2 : Hid (∀ z, Below y.heap.size y z → Calls Tryz.prog 85 #[.pointer (some ⟨R, 0, none⟩), .int .i64 c] z fun e w' => e = .returned (.tuple #[]) ∧ RowL w' R 98 (rdL s ⟨p, c⟩ ab an) ∧ Ex R y w') := fun z hz => (hfl.out z (hy.call hz)).mono fun e w' ⟨he, h1, h2⟩ => ⟨he, h1, (Ex.of hz).trans h2⟩;clear hnv hfl;replace hy : Hid (RowL y R 98 (rdL s ⟨p, 0⟩ ab an)) := hy;go_wp2_with fail
 go_region_held3 (fun v => v.cell? ⟨R, 0, none⟩ = some (.string s) ∧ v.cell? ⟨R, 1, none⟩ = some (.int .i64 (p : Int))) (first | exact hk.out _ (Below.refl _ _).drew | assumption)
  (first | (go_at_call 123; refine Calls.mono (hnv2.out _ (Below.refl _ _).drew) ?_; rintro e z ⟨rfl, bz⟩; have hs4 := hk.out z bz) | (go_at_call 85; refine Calls.mono (hfl2.out _ (by assumption)) ?_; rintro e z2 ⟨rfl, hz2, hx2⟩; have hs5 : (z2.cell? ⟨R, 0, none⟩ = some (.string s) ∧ z2.cell? ⟨R, 1, none⟩ = some (.int .i64 (p : Int))) := ⟨hz2.cell 0 rfl, hz2.cell 1 rfl⟩))
 have hx3 := hx.trans hx2;clear hnv2 hfl2 hk hy hs4 hs5 bz hx hx2;replace hz2 : Hid (RowL z2 R 98 (rdL s ⟨p, c⟩ ab an)) := hz2;go_wp2_with fail;go_ret;exact ⟨rfl, hz2.out, hx3⟩
open Classical in
theorem any_in (s : ByteArray) (V : Nat → Option (Int × Nat)) (hV : VrOk s V) (r : RS) (ab an : Int) (R : Nat) (w : World) (h : RowL w R 98 (rdL s r ab an)) (hs : s.size ≤ 2000000000) (hp : r.pos ≤ s.size) :
  Calls Tryz.prog 114 #[.pointer (some ⟨R, 0, none⟩)] w fun e w' => e = .returned (.int .i64 (rdAny s V r).1) ∧ RowL w' R 98 (rdL s (rdAny s V r).2 ab an) ∧ Ex R w w' := by
 obtain ⟨p, b⟩ := r;by_cases hb : b = 0
 ·subst hb
  cases hv : V p with
  | none =>
   have e : rdAny s V ⟨p, 0⟩ = (0, ⟨p, if Cut4 s p then 2 else 3⟩) := by simp [rdAny, hv]
   rw [e];exact any_none s V p 0 ab an R w h hV _ hs hp hv (fun h => if_pos h) (fun h => if_neg h)
  | some x =>
   obtain ⟨n, q⟩ := x;have e : rdAny s V ⟨p, 0⟩ = (n, ⟨q, 0⟩) := by simp [rdAny, hv]
   rw [e];exact any_some s V p 0 ab an R w h hV n q hp hv
 ·have e : rdAny s V ⟨p, b⟩ = (0, ⟨p, b⟩) := by simp [rdAny, hb]
  rw [e];exact any_bad s V p b ab an R w h hb
theorem within1 (n a b : Int) (w : World) : Calls Tryz.prog 24 #[.int .i64 n, .int .i64 a, .int .i64 b] w fun e w' => Tells e (a ≤ n ∧ n ≤ b) ∧ w' = w := by
 by_cases h1 : a ≤ n
 ·have h1I : n ≥ a := h1;by_cases h2 : n ≤ b
  ·go_enter Tryz.func24, Tryz.ntmps24;go_wp2_with fail;go_ret;exact ⟨⟨_, rfl, by simp [h1, h2]⟩, rfl⟩
  ·go_enter Tryz.func24, Tryz.ntmps24;go_wp2_with fail;go_ret;exact ⟨⟨_, rfl, by simp; omega⟩, rfl⟩
 ·have h1I : ¬ n ≥ a := h1;go_enter Tryz.func24, Tryz.ntmps24;go_wp2_with fail;go_ret;exact ⟨⟨_, rfl, by simp; omega⟩, rfl⟩
theorem number_in (s : ByteArray) (V : Nat → Option (Int × Nat)) (hV : VrOk s V) (lo hi : Int) (r : RS) (ab an : Int) (R : Nat) (w : World) (h : RowL w R 98 (rdL s r ab an)) (hs : s.size ≤ 2000000000) (hp : r.pos ≤ s.size) :
  Calls Tryz.prog 103 #[.pointer (some ⟨R, 0, none⟩), .int .i64 lo, .int .i64 hi] w fun e w' => e = .returned (.int .i64 (rdNum s V lo hi r).1) ∧ RowL w' R 98 (rdL s (rdNum s V lo hi r).2 ab an) ∧ Ex R w w' := by
 have ha : Hid (Calls Tryz.prog 114 #[.pointer (some ⟨R, 0, none⟩)] w fun e w' => e = .returned (.int .i64 (rdAny s V r).1) ∧ RowL w' R 98 (rdL s (rdAny s V r).2 ab an) ∧ Ex R w w') := any_in s V hV r ab an R w h hs hp
 have hz : (rdAny s V r).2.bad ≠ 0 → (rdAny s V r).1 = 0 := by
  unfold rdAny;split
  ·exact fun _ => rfl
  ·split
   ·exact fun h => absurd rfl h
   ·exact fun _ => rfl
 unfold rdNum;dsimp only;generalize rdAny s V r = x at ha hz ⊢;obtain ⟨n, r1⟩ := x;dsimp only at ha hz ⊢;clear h hV;have hw9 : Hid (∀ y, Calls Tryz.prog 24 #[.int .i64 n, .int .i64 lo, .int .i64 hi] y fun e w' => Tells e (lo ≤ n ∧ n ≤ hi) ∧ w' = y) := fun y => within1 n lo hi y;have hfl : Hid (∀ y, RowL y R 98 (rdL s r1 ab an) → Calls Tryz.prog 85 #[.pointer (some ⟨R, 0, none⟩), .int .i64 4] y fun e w' => e = .returned (.tuple #[]) ∧ RowL w' R 98 (rdL s (r1.fail 4) ab an) ∧ Ex R y w') := fun y hy => reader_fail s r1 ab an 4 R y hy (by decide)
 have hans : Hid ((lo ≤ n ∧ n ≤ hi → (if r1.bad ≠ 0 then ((0 : Int), r1) else if n < lo ∨ hi < n then (0, ⟨r1.pos, 4⟩) else (n, r1)) = (n, r1)) ∧ (¬ (lo ≤ n ∧ n ≤ hi) → (if r1.bad ≠ 0 then ((0 : Int), r1) else if n < lo ∨ hi < n then (0, ⟨r1.pos, 4⟩) else (n, r1)) = (0, r1.fail 4))) := by
  by_cases hb : r1.bad = 0
  ·refine ⟨fun h => ?_, fun h => ?_⟩
   ·rw [if_neg (by simp [hb]), if_neg (by omega)]
   ·rw [if_neg (by simp [hb]), if_pos (by omega), RS.fail_ok hb]
  ·refine ⟨fun h => ?_, fun h => ?_⟩
   ·rw [if_pos hb, hz hb]
   ·rw [if_pos hb, RS.fail_bad hb]
 generalize (if r1.bad ≠ 0 then ((0 : Int), r1) else if n < lo ∨ hi < n then (0, ⟨r1.pos, 4⟩) else (n, r1)) = z at hans ⊢;clear hz;go_enter Tryz.func103, Tryz.ntmps103;go_wp2_with fail;refine Calls.mono ha.out ?_;rintro e y ⟨rfl, hy, hx⟩;clear ha;replace hy : Hid (RowL y R 98 (rdL s r1 ab an)) := hy;go_wp2_with fail;refine Calls.mono (hw9.out y) ?_;rintro e y2 ⟨⟨q, rfl, hq⟩, rfl⟩;clear hw9
 cases q with
 | true =>
  obtain rfl := hans.out.1 (hq.1 rfl);clear hq hans hfl;go_wp2_with fail;go_ret;exact ⟨rfl, hy.out, hx⟩
 | false =>
  obtain rfl := hans.out.2 (fun h => absurd (hq.2 h) (by decide));clear hq hans;go_wp2_with fail;refine Calls.mono (hfl.out _ hy.out) ?_;rintro e y3 ⟨rfl, hy3, hx3⟩;have hx4 := hx.trans hx3;clear hfl hy hx hx3;replace hy3 : Hid (RowL y3 R 98 (rdL s (r1.fail 4) ab an)) := hy3;go_wp2_with fail;go_ret;exact ⟨rfl, hy3.out, hx4⟩
theorem kids_in (s : ByteArray) (V : Nat → Option (Int × Nat)) (hV : VrOk s V) (r : RS) (ab an most : Int) (R : Nat) (w : World) (h : RowL w R 98 (rdL s r ab an)) (hs : s.size ≤ 2000000000) (hp : r.pos ≤ s.size) (ha0 : 0 ≤ an) (ha1 : an ≤ 200) (hm : most = if ab = 63 then 0 else 200 - an) :
  Calls Tryz.prog 110 #[.pointer (some ⟨R, 0, none⟩)] w fun e w' => e = .returned (.int .i64 (rdNum s V 0 most r).1) ∧ RowL w' R 98 (rdL s (rdNum s V 0 most r).2 ab (an + (rdNum s V 0 most r).1)) ∧ Ex R w w' := by
 have h3 : w.cell? ⟨R, 3, none⟩ = some (.int .i64 ab) := h.cell 3 rfl;have h4 : w.cell? ⟨R, 4, none⟩ = some (.int .i64 an) := h.cell 4 rfl;have hl := h.lt;have hmb : 0 ≤ most ∧ most ≤ 200 := by subst hm; split <;> omega
 have hnum : Hid (Calls Tryz.prog 103 #[.pointer (some ⟨R, 0, none⟩), .int .i64 0, .int .i64 most] w fun e w' => e = .returned (.int .i64 (rdNum s V 0 most r).1) ∧ RowL w' R 98 (rdL s (rdNum s V 0 most r).2 ab an) ∧ Ex R w w') := number_in s V hV 0 most r ab an R w h hs hp;have hbd := rdNum_bd (s := s) (V := V) (lo := 0) (hi := most) r (by decide) hmb.1;generalize rdNum s V 0 most r = x at hnum hbd ⊢;obtain ⟨n, r1⟩ := x;dsimp only at hnum hbd ⊢;clear h hV hp;by_cases h63 : ab = 63
 focus
  subst h63;rw [if_pos rfl] at hm;subst hm
 rotate_left
 focus
  rw [if_neg h63] at hm;subst hm;have hne : (ab == 63) = false := by simpa using h63
 all_goals
  go_enter Tryz.func110, Tryz.ntmps110;go_wp2_with fail;refine Calls.mono hnum.out ?_;rintro e y ⟨rfl, hy, hx⟩;clear hnum h3 h4 hl;have h4 : y.cell? ⟨R, 4, none⟩ = some (.int .i64 an) := hy.cell 4 rfl;have hf := hy.frozen;have hl := hy.lt;have hS : Hid (RowL (y.setCell ⟨R, 4, none⟩ (.int .i64 (an + n))) R 98 (rdL s r1 _ (an + n))) := hy.set 4 (.int .i64 (an + n));have hx2 := hx.set 4 (.int .i64 (an + n));replace hy : Hid _ := hy;go_wp2_with fail;go_ret;exact ⟨rfl, hS.out, hx2⟩
noncomputable def rdCnt (s : ByteArray) (V : Nat → Option (Int × Nat)) (all : Int) (r : RS) : Int × RS :=
 let x := rdAny s V r
 if x.2.bad ≠ 0 then (0, x.2) else if x.1 = 0 ∨ x.1 = all then x else (0, ⟨x.2.pos, 4⟩)
theorem noneOrAll1 (n a : Int) (w : World) : Calls Tryz.prog 67 #[.int .i64 n, .int .i64 a] w fun e w' => Tells e (n = 0 ∨ n = a) ∧ w' = w := by
 by_cases h1 : n = 0
 ·subst h1;go_enter Tryz.func67, Tryz.ntmps67;go_wp2_with fail;go_ret;exact ⟨⟨_, rfl, by simp⟩, rfl⟩
 ·have h1b : (n == 0) = false := by simpa using h1
  by_cases h2 : n = a
  ·subst h2;go_enter Tryz.func67, Tryz.ntmps67;go_wp2_with fail;go_ret;exact ⟨⟨_, rfl, by simp⟩, rfl⟩
  ·have h2b : (n == a) = false := by simpa using h2
   go_enter Tryz.func67, Tryz.ntmps67;go_wp2_with fail;go_ret;exact ⟨⟨_, rfl, by simp [h1, h2]⟩, rfl⟩
theorem debugCount_in (s : ByteArray) (V : Nat → Option (Int × Nat)) (hV : VrOk s V) (all : Int) (r : RS) (ab an : Int) (R : Nat) (w : World) (h : RowL w R 98 (rdL s r ab an)) (hs : s.size ≤ 2000000000) (hp : r.pos ≤ s.size) :
  Calls Tryz.prog 120 #[.pointer (some ⟨R, 0, none⟩), .int .i64 all] w fun e w' => e = .returned (.int .i64 (rdCnt s V all r).1) ∧ RowL w' R 98 (rdL s (rdCnt s V all r).2 ab an) ∧ Ex R w w' := by
 have ha : Hid (Calls Tryz.prog 114 #[.pointer (some ⟨R, 0, none⟩)] w fun e w' => e = .returned (.int .i64 (rdAny s V r).1) ∧ RowL w' R 98 (rdL s (rdAny s V r).2 ab an) ∧ Ex R w w') := any_in s V hV r ab an R w h hs hp
 have hz : (rdAny s V r).2.bad ≠ 0 → (rdAny s V r).1 = 0 := by
  unfold rdAny;split
  ·exact fun _ => rfl
  ·split
   ·exact fun h => absurd rfl h
   ·exact fun _ => rfl
 unfold rdCnt;dsimp only;generalize rdAny s V r = x at ha hz ⊢;obtain ⟨n, r1⟩ := x;dsimp only at ha hz ⊢;clear h hV;have hw9 : Hid (∀ y, Calls Tryz.prog 67 #[.int .i64 n, .int .i64 all] y fun e w' => Tells e (n = 0 ∨ n = all) ∧ w' = y) := fun y => noneOrAll1 n all y;have hfl : Hid (∀ y, RowL y R 98 (rdL s r1 ab an) → Calls Tryz.prog 85 #[.pointer (some ⟨R, 0, none⟩), .int .i64 4] y fun e w' => e = .returned (.tuple #[]) ∧ RowL w' R 98 (rdL s (r1.fail 4) ab an) ∧ Ex R y w') := fun y hy => reader_fail s r1 ab an 4 R y hy (by decide)
 have hans : Hid ((n = 0 ∨ n = all → (if r1.bad ≠ 0 then ((0 : Int), r1) else if n = 0 ∨ n = all then (n, r1) else (0, ⟨r1.pos, 4⟩)) = (n, r1)) ∧ (¬ (n = 0 ∨ n = all) → (if r1.bad ≠ 0 then ((0 : Int), r1) else if n = 0 ∨ n = all then (n, r1) else (0, ⟨r1.pos, 4⟩)) = (0, r1.fail 4))) := by
  by_cases hb : r1.bad = 0
  ·refine ⟨fun h => ?_, fun h => ?_⟩
   ·rw [if_neg (by simp [hb]), if_pos h]
   ·rw [if_neg (by simp [hb]), if_neg h, RS.fail_ok hb]
  ·refine ⟨fun h => ?_, fun h => ?_⟩
   ·rw [if_pos hb, hz hb]
   ·rw [if_pos hb, RS.fail_bad hb]
 generalize (if r1.bad ≠ 0 then ((0 : Int), r1) else if n = 0 ∨ n = all then (n, r1) else (0, ⟨r1.pos, 4⟩)) = z at hans ⊢;clear hz;go_enter Tryz.func120, Tryz.ntmps120;go_wp2_with fail;refine Calls.mono ha.out ?_;rintro e y ⟨rfl, hy, hx⟩;clear ha;replace hy : Hid (RowL y R 98 (rdL s r1 ab an)) := hy;go_wp2_with fail;refine Calls.mono (hw9.out y) ?_;rintro e y2 ⟨⟨q, rfl, hq⟩, rfl⟩;clear hw9
 cases q with
 | true =>
  obtain rfl := hans.out.1 (hq.1 rfl);clear hq hans hfl;go_wp2_with fail;go_ret;exact ⟨rfl, hy.out, hx⟩
 | false =>
  obtain rfl := hans.out.2 (fun h => absurd (hq.2 h) (by decide));clear hq hans;go_wp2_with fail;refine Calls.mono (hfl.out _ hy.out) ?_;rintro e y3 ⟨rfl, hy3, hx3⟩;have hx4 := hx.trans hx3;clear hfl hy hx hx3;replace hy3 : Hid (RowL y3 R 98 (rdL s (r1.fail 4) ab an)) := hy3;go_wp2_with fail;go_ret;exact ⟨rfl, hy3.out, hx4⟩
theorem Ex.setNew {R : Nat} {a b : World} (h : Ex R a b) (p : Addr) (hp : a.heap.size ≤ p.block) (v : Value) : Ex R a (b.setCell p v) :=
 ⟨h.os, h.tape, h.output, by rw [World.size_setCell]; exact h.size, fun i hi hR => (Below.heap_setCell _ _ _ _ (by omega)).trans (h.block i hi hR)⟩
noncomputable def rdUp (s : ByteArray) (V : Nat → Option (Int × Nat)) (r : RS) : UD × RS :=
 let a := rdByte s 1 r
 let b := rdAny s V a.2
 (⟨decide (a.1 = 1), b.1⟩, b.2)
theorem up_in (s : ByteArray) (V : Nat → Option (Int × Nat)) (hV : VrOk s V) (r : RS) (ab an : Int) (R : Nat) (w : World) (h : RowL w R 98 (rdL s r ab an)) (hs : s.size ≤ 2000000000) (hp : r.pos ≤ s.size) :
  Calls Tryz.prog 109 #[.pointer (some ⟨R, 0, none⟩)] w fun e w' => e = .returned (.agg #[.bool (rdUp s V r).1.stack, .int .i64 (rdUp s V r).1.index]) ∧ RowL w' R 98 (rdL s (rdUp s V r).2 ab an) ∧ Ex R w w' := by
 have hfl : Hid (∀ y, RowL y R 98 (rdL s r ab an) → Calls Tryz.prog 102 #[.pointer (some ⟨R, 0, none⟩)] y fun e w' => e = .returned (.bool (decide ((rdByte s 1 r).1 = 1))) ∧ RowL w' R 98 (rdL s (rdByte s 1 r).2 ab an) ∧ Ex R y w') := fun y hy => flag_in s r ab an R y hy hs hp;have hp1 := rdByte_pos (hi := 1) hp;unfold rdUp;dsimp only;generalize rdByte s 1 r = a at hfl hp1 ⊢;obtain ⟨k, r1⟩ := a;dsimp only at hfl hp1 ⊢;have han : Hid (∀ y, RowL y R 98 (rdL s r1 ab an) → Calls Tryz.prog 114 #[.pointer (some ⟨R, 0, none⟩)] y fun e w' => e = .returned (.int .i64 (rdAny s V r1).1) ∧ RowL w' R 98 (rdL s (rdAny s V r1).2 ab an) ∧ Ex R y w') := fun y hy => any_in s V hV r1 ab an R y hy hs hp1;generalize rdAny s V r1 = b at han ⊢;obtain ⟨n, r2⟩ := b;dsimp only at han ⊢;generalize decide (k = 1) = f at hfl ⊢;have hRl := h.lt;have b0 : Below w.heap.size w (w.alloc (.cells #[.bool false, .int .i64 0] 84)) := (Below.refl _ _).alloc (Nat.le_refl _) _;have h' : Hid (RowL (w.alloc (.cells #[.bool false, .int .i64 0] 84)) R 98 (rdL s r ab an)) := h.call b0;have B0 := RowL.new w [.bool false, .int .i64 0] 84;have hx0 := Ex.of (R := R) b0;have hne : w.heap.size ≠ R := by omega
 clear h hV hp hp1 b0;go_enter Tryz.func109, Tryz.ntmps109;go_wp2_with fail;generalize w.alloc (.cells #[.bool false, .int .i64 0] 84) = w1 at h' B0 hx0 ⊢;refine Calls.mono (hfl.out _ h'.out) ?_;rintro e y ⟨rfl, hy, hx⟩;replace B0 := hx.row B0 hne;replace hx0 := hx0.trans hx;clear hfl h' hx;replace hy : Hid (RowL y R 98 (rdL s r1 ab an)) := hy;go_wp2_with fail;refine Calls.mono (han.out _ hy.out) ?_;rintro e y2 ⟨rfl, hy2, hx⟩;replace B0 := hx.row B0 hne;replace hx0 := hx0.trans hx;clear han hy hx;have e0 := B0.cell 0 rfl;have e1 := B0.cell 1 rfl;have ef := B0.frozen;have el := B0.lt;have L := (B0.set 0 (.bool f)).set 1 (.int .i64 n);have hM : Hid (RowL ((y2.setCell ⟨w.heap.size, 0, none⟩ (.bool f)).setCell ⟨w.heap.size, 1, none⟩ (.int .i64 n)) R 98 (rdL s r2 ab an)) := (hy2.other (a := ⟨w.heap.size, 0, none⟩) (Ne.symm hne) (.bool f)).other (a := ⟨w.heap.size, 1, none⟩) (Ne.symm hne) (.int .i64 n);have hX := (hx0.setNew ⟨w.heap.size, 0, none⟩ (Nat.le_refl _) (.bool f)).setNew ⟨w.heap.size, 1, none⟩ (Nat.le_refl _) (.int .i64 n);have l0 := L.cell 0 rfl;have l1 := L.cell 1 rfl;replace L : Hid _ := L;replace B0 : Hid _ := B0;replace hy2 : Hid _ := hy2;go_wp2_with fail;refine bodyPost_ret (v := .agg #[.bool f, .int .i64 n]) ?_ rfl ⟨rfl, hM.out, hX⟩;simp [results, Tryz.results109, go_sem, l0, l1]
def ClOk : Prop := ∀ (t : ByteArray) (y : World), t.size ≤ 2000000000 → Calls Tryz.prog 124 #[.string t] y fun e w' => e = .returned (.string t) ∧ Below y.heap.size y w'
theorem text_in (s : ByteArray) (V : Nat → Option (Int × Nat)) (hV : VrOk s V) (hCl : ClOk) (r : RS) (ab an : Int) (R : Nat) (w : World) (h : RowL w R 98 (rdL s r ab an)) (hs : s.size ≤ 2000000000) (hp : r.pos ≤ s.size) :
  Calls Tryz.prog 118 #[.pointer (some ⟨R, 0, none⟩)] w fun e w' => e = .returned (.string (rdText s V r).1) ∧ RowL w' R 98 (rdL s (rdText s V r).2 ab an) ∧ Ex R w w' := by
 have hn : Hid (Calls Tryz.prog 103 #[.pointer (some ⟨R, 0, none⟩), .int .i64 0, .int .i64 1000] w fun e w' => e = .returned (.int .i64 (rdNum s V 0 1000 r).1) ∧ RowL w' R 98 (rdL s (rdNum s V 0 1000 r).2 ab an) ∧ Ex R w w') := number_in s V hV 0 1000 r ab an R w h hs hp;have hp2 := rdNum_pos (lo := 0) (hi := 1000) hV hp;have hbd := rdNum_bd (s := s) (V := V) (lo := 0) (hi := 1000) r (by decide) (by decide);unfold rdText;dsimp only;generalize rdNum s V 0 1000 r = x at hn hp2 hbd ⊢;obtain ⟨n, r1⟩ := x;dsimp only at hn hp2 hbd ⊢;obtain ⟨k, rfl⟩ : ∃ k : Nat, n = (k : Int) := ⟨n.toNat, by omega⟩;rw [Int.toNat_natCast];have hb : Hid (∀ y, RowL y R 98 (rdL s r1 ab an) → Calls Tryz.prog 115 #[.pointer (some ⟨R, 0, none⟩), .int .i64 (k : Int)] y fun e w' => e = .returned (.string (rdBytes s k r1).1) ∧ RowL w' R 98 (rdL s (rdBytes s k r1).2 ab an) ∧ Ex R y w') := fun y hy => take_in s k r1 ab an R y hy hs hp2 (by omega);have hsz := rdBytes_size s k r1;generalize rdBytes s k r1 = z at hb hsz ⊢;obtain ⟨t, r2⟩ := z;dsimp only at hb hsz ⊢;have hcl : Hid (∀ y, Calls Tryz.prog 124 #[.string t] y fun e w' => e = .returned (.string t) ∧ Below y.heap.size y w') := fun y => hCl t y (by omega);clear hV hp2 hbd hp h hCl;go_enter Tryz.func118, Tryz.ntmps118;go_wp2_with fail;refine Calls.mono hn.out ?_;rintro e y ⟨rfl, hy, hx⟩;clear hn;replace hy : Hid (RowL y R 98 (rdL s r1 ab an)) := hy;go_wp2_with fail;refine Calls.mono (hb.out _ hy.out) ?_;rintro e y2 ⟨rfl, hy2, hx2⟩;replace hx := hx.trans hx2;clear hb hy hx2;replace hy2 : Hid (RowL y2 R 98 (rdL s r2 ab an)) := hy2;go_wp2_with fail;refine Calls.mono (hcl.out _) ?_;rintro e y3 ⟨rfl, b3⟩;have hx3 := hx.trans (Ex.of b3);have hy3 : Hid (RowL y3 R 98 (rdL s r2 ab an)) := RowL.call hy2.out b3;clear hcl hy2 hx b3;go_wp2_with fail;go_ret;exact ⟨rfl, hy3.out, hx3⟩
end Go.Proofs.YtnhanccjnhgjoaaGreatDoor
namespace Go.Proofs.YtnhanccjnhgjoaaGreatDoor
open Go.RowKit
set_option linter.unusedVariables false
set_option maxRecDepth 100000
set_option maxHeartbeats 9000000
theorem clOk : ClOk := by
 intro t y ht;have hc : ∀ z, Calls Tryz.prog 127 #[.string t] z fun e w' => e = .returned (.string t) ∧ Below z.heap.size z w' := fun z => Any.stringslite_Clone Tryz.lays316 t z (by omega);go_enter Tryz.func124, Tryz.ntmps124;go_wp2_with (go_at_call 127; refine (hc _).mono ?_; rintro e w' ⟨rfl, hb⟩);go_ret;exact ⟨rfl, hb⟩
end Go.Proofs.YtnhanccjnhgjoaaGreatDoor

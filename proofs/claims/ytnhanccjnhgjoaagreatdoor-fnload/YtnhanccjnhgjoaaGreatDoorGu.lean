import Derived.Test.YtnhanccjnhgjoaaGreatDoorLtH
import Derived.Test.YtnhanccjnhgjoaaGreatDoorGv
namespace Go.Proofs.YtnhanccjnhgjoaaGreatDoor
open Go.RowKit
set_option linter.unusedVariables false
set_option linter.unusedSimpArgs false
set_option maxRecDepth 100000
set_option maxHeartbeats 9000000
abbrev hdr : ByteArray := ⟨#[27, 76, 82, 86, 1, 0]⟩
def HdrOk (s : ByteArray) : Prop := 6 ≤ s.size ∧ (s.extract 0 6).toList = [27, 76, 82, 86, 1, 0]
theorem prefix_yes (s : ByteArray) (hs : s.size ≤ 2000000000) (h : HdrOk s) (w : World) :
  Calls Tryz.prog 84 #[.string s, .string ⟨#[27, 76, 82, 86, 1, 0]⟩] w fun e w' => e = .returned (.bool true) ∧ Below w.heap.size w w' := by
 obtain ⟨h1, h2⟩ := h;have h6 : (6 : Int) ≤ (s.size : Int) := by omega
 have hsl : ∀ wx, (Instr.slice 9 (.string s) none (some (.int .i64 6)) none).run Tryz.prog wx = .ok (.string (s.extract 0 6)) wx := fun wx => WPut.sl_head s 6 wx h6;have he : ((s.extract 0 6).toList == [27, 76, 82, 86, 1, 0]) = true := by simpa using h2
 go_enter Tryz.func84, Tryz.ntmps84
 go_wp2
 go_ret;exact ⟨rfl, Below.refl _ _⟩
theorem prefix_short (s : ByteArray) (h : s.size < 6) (w : World) :
  Calls Tryz.prog 84 #[.string s, .string ⟨#[27, 76, 82, 86, 1, 0]⟩] w fun e w' => e = .returned (.bool false) ∧ Below w.heap.size w w' := by
 have h6 : ¬ (6 : Int) ≤ (s.size : Int) := by omega
 go_enter Tryz.func84, Tryz.ntmps84
 go_wp2
 go_ret;exact ⟨rfl, Below.refl _ _⟩
theorem prefix_other (s : ByteArray) (h1 : 6 ≤ s.size) (h2 : (s.extract 0 6).toList ≠ [27, 76, 82, 86, 1, 0]) (w : World) :
  Calls Tryz.prog 84 #[.string s, .string ⟨#[27, 76, 82, 86, 1, 0]⟩] w fun e w' => e = .returned (.bool false) ∧ Below w.heap.size w w' := by
 have h6 : (6 : Int) ≤ (s.size : Int) := by omega
 have hsl : ∀ wx, (Instr.slice 9 (.string s) none (some (.int .i64 6)) none).run Tryz.prog wx = .ok (.string (s.extract 0 6)) wx := fun wx => WPut.sl_head s 6 wx h6;have he : ((s.extract 0 6).toList == [27, 76, 82, 86, 1, 0]) = false := by simpa using h2
 clear h2;go_enter Tryz.func84, Tryz.ntmps84
 go_wp2
 go_ret;exact ⟨rfl, Below.refl _ _⟩
theorem prefix_no (s : ByteArray) (h : ¬ HdrOk s) (w : World) :
  Calls Tryz.prog 84 #[.string s, .string ⟨#[27, 76, 82, 86, 1, 0]⟩] w fun e w' => e = .returned (.bool false) ∧ Below w.heap.size w w' := by
 by_cases h1 : 6 ≤ s.size
 ·exact prefix_other s h1 (fun h2 => h ⟨h1, h2⟩) w
 ·exact prefix_short s (by omega) w
theorem header_yes (s : ByteArray) (hs : s.size ≤ 2000000000) (hh : HdrOk s) (p : Nat) (b ab an : Int) (R : Nat) (w : World) (h : RowL w R 98 (rdL s ⟨p, b⟩ ab an)) :
  Calls Tryz.prog 41 #[.pointer (some ⟨R, 0, none⟩)] w fun e w' => e = .returned (.tuple #[]) ∧ RowL w' R 98 (rdL s ⟨6, b⟩ ab an) ∧ Ex R w w' := by
 have h0 : w.cell? ⟨R, 0, none⟩ = some (.string s) := h.cell 0 rfl;have hp := hidR (prefix_yes s hs hh w);replace h := hidR h;go_enter Tryz.func41, Tryz.ntmps41;go_wp2_with fail;refine Calls.mono hp.out ?_;rintro e y ⟨rfl, hb⟩;have hR := h.out.call hb;have e1 := hR.cell 1 rfl;have f1 := hR.frozen 1;have hR2 := hidR (hR.set 1 (.int .i64 6));have hx := ((Ex.of hb : Ex R w y)).set 1 (.int .i64 6);clear hp h0 hb hR;go_wp2_with fail
 go_end0
 exact ⟨rfl, hR2.out, hx⟩
theorem header_no (s : ByteArray) (hh : ¬ HdrOk s) (r : RS) (ab an : Int) (R : Nat) (w : World) (h : RowL w R 98 (rdL s r ab an)) :
  Calls Tryz.prog 41 #[.pointer (some ⟨R, 0, none⟩)] w fun e w' => e = .returned (.tuple #[]) ∧ RowL w' R 98 (rdL s (r.fail 1) ab an) ∧ Ex R w w' := by
 have h0 : w.cell? ⟨R, 0, none⟩ = some (.string s) := h.cell 0 rfl;have hp := hidR (prefix_no s hh w);replace h := hidR h;go_enter Tryz.func41, Tryz.ntmps41;go_wp2_with fail;refine Calls.mono hp.out ?_;rintro e y ⟨rfl, hb⟩;have hR := h.out.call hb;have hf := hidR (reader_fail s r ab an 1 R y hR (by decide));have hx := (Ex.of hb : Ex R w y);clear hp h0 hb hR;go_wp2_with fail;refine Calls.mono hf.out ?_;rintro e y2 ⟨rfl, hy, hx2⟩;have hx3 := hx.trans hx2;replace hy := hidR hy;clear hf hx hx2;go_wp2_with fail;refine bodyPost_ret (v := .tuple #[]) (by simp [results, Tryz.results41, go_sem]) rfl ?_;exact ⟨rfl, hy.out, hx3⟩
theorem end_bad (s : ByteArray) (r : RS) (ab an : Int) (R : Nat) (w : World) (h : RowL w R 98 (rdL s r ab an)) (hp : r.pos < s.size) :
  Calls Tryz.prog 43 #[.pointer (some ⟨R, 0, none⟩)] w fun e w' => e = .returned (.tuple #[]) ∧ RowL w' R 98 (rdL s (r.fail 5) ab an) ∧ Ex R w w' := by
 have h0 : w.cell? ⟨R, 0, none⟩ = some (.string s) := h.cell 0 rfl;have h1 : w.cell? ⟨R, 1, none⟩ = some (.int .i64 (r.pos : Int)) := h.cell 1 rfl;have hf := hidR (fun y hy => reader_fail s r ab an 5 R y hy (by decide));have hp' : (r.pos : Int) < (s.size : Int) := by omega
 replace h := hidR h;go_enter Tryz.func43, Tryz.ntmps43;go_wp2_with fail
 go_region
 have hd : RowL w.drew R 98 (rdL s r ab an) := h.out;go_wp2_with fail;refine Calls.mono (hf.out _ hd) ?_;rintro e y ⟨rfl, hy, hx⟩;have hx2 := (Ex.refl R w).drew.trans hx;replace hy := hidR hy;clear hf hd h0 h1 hx;go_wp2_with fail
 go_end0
 exact ⟨rfl, hy.out, hx2⟩
theorem end_ok (s : ByteArray) (r : RS) (ab an : Int) (R : Nat) (w : World) (h : RowL w R 98 (rdL s r ab an)) (hp : s.size ≤ r.pos) :
  Calls Tryz.prog 43 #[.pointer (some ⟨R, 0, none⟩)] w fun e w' => e = .returned (.tuple #[]) ∧ RowL w' R 98 (rdL s r ab an) ∧ Ex R w w' := by
 have h0 : w.cell? ⟨R, 0, none⟩ = some (.string s) := h.cell 0 rfl;have h1 : w.cell? ⟨R, 1, none⟩ = some (.int .i64 (r.pos : Int)) := h.cell 1 rfl;have hp' : ¬ (r.pos : Int) < (s.size : Int) := by omega
 replace h := hidR h;go_enter Tryz.func43, Tryz.ntmps43;go_wp2_with fail
 go_region
 go_wp2_with fail
 go_end0
 exact ⟨rfl, h.out, (Ex.refl R w).drew⟩
end Go.Proofs.YtnhanccjnhgjoaaGreatDoor
namespace Go.Proofs.YtnhanccjnhgjoaaGreatDoor
open Go.RowKit Go.Shelf
set_option linter.unusedVariables false
set_option linter.unusedSimpArgs false
set_option maxRecDepth 100000
set_option maxHeartbeats 9000000
theorem rdByte_b {s : ByteArray} {hi : Nat} {r : RS} (h : r.bad ≠ 0) : rdByte s hi r = (0, r) := if_pos h
theorem rdAny_b {s : ByteArray} {V : Nat → Option (Int × Nat)} {r : RS} (h : r.bad ≠ 0) : rdAny s V r = (0, r) := if_pos h
theorem rdNum_b {s : ByteArray} {V : Nat → Option (Int × Nat)} {lo hi : Int} {r : RS} (h : r.bad ≠ 0) : rdNum s V lo hi r = (0, r) := by
 unfold rdNum;rw [rdAny_b h];exact if_pos h
theorem rdPro_b {s : ByteArray} {V : Nat → Option (Int × Nat)} {G : ByteArray → Int} {most : Int} {r : RS} (h : r.bad ≠ 0) : (rdPro s V G most r).2 = r ∧ (rdPro s V G most r).1.kids = 0 := by
 unfold rdPro;simp only [rdByte_b h, rdNum_b h, Int.toNat_zero, rdSev];simp
theorem rdTree_b {s : ByteArray} {V : Nat → Option (Int × Nat)} {f : Nat} {ab an : Int} {r : RS} (h : r.bad ≠ 0) : (rdTree s V (f + 1) ab r an).2.1 = r := by
 unfold rdTree;have := rdPro_b (s := s) (V := V) (G := gi0) (most := if ab = 63 then 0 else 200 - an) h;dsimp only;rw [this.2, this.1];simp [rdFor]
theorem TrOk.later {R : Nat} {y w1 w2 : World} {v : Value} {L : List PI} {mid : Nat} (h : TrOk y w1 v L mid) (hR : R < y.heap.size) (hx : Ex R w1 w2) : TrOk y w2 v L mid := by
 have hle := h.chain.le;refine ⟨own_ex h.row (by omega) hx, fun x hx' => (h.its x hx').ex hx ?_, h.chain, Nat.le_trans h.mid hx.size⟩;have := (h.chain.mem hx').1;omega
open Classical in
noncomputable def rd0 (s : ByteArray) : RS := if HdrOk s then ⟨6, 0⟩ else ⟨0, 1⟩
noncomputable def rdCode (s : ByteArray) (V : Nat → Option (Int × Nat)) : Int :=
 let t := rdTree s V 64 0 (rd0 s) 1
 if t.2.1.pos < s.size then (t.2.1.fail 5).bad else t.2.1.bad
theorem header_in (s : ByteArray) (hs : s.size ≤ 2000000000) (ab an : Int) (R : Nat) (w : World) (h : RowL w R 98 (rdL s ⟨0, 0⟩ ab an)) :
  Calls Tryz.prog 41 #[.pointer (some ⟨R, 0, none⟩)] w fun e w' => e = .returned (.tuple #[]) ∧ RowL w' R 98 (rdL s (rd0 s) ab an) ∧ Ex R w w' := by
 unfold rd0;split
 ·exact header_yes s hs (by assumption) 0 0 ab an R w h
 ·exact header_no s (by assumption) ⟨0, 0⟩ ab an R w h
theorem rd0_pos (s : ByteArray) : (rd0 s).pos ≤ s.size := by
 unfold rd0;split
 ·rename_i h; exact h.1
 ·exact Nat.zero_le _
theorem end_in (s : ByteArray) (r : RS) (ab an : Int) (R : Nat) (w : World) (h : RowL w R 98 (rdL s r ab an)) :
  Calls Tryz.prog 43 #[.pointer (some ⟨R, 0, none⟩)] w fun e w' => e = .returned (.tuple #[]) ∧ RowL w' R 98 (rdL s (if r.pos < s.size then r.fail 5 else r) ab an) ∧ Ex R w w' := by
 split
 ·exact end_bad s r ab an R w h (by assumption)
 ·exact end_ok s r ab an R w h (by omega)
theorem load_in (s : ByteArray) (V : Nat → Option (Int × Nat)) (hV : VrOk s V) (hs : s.size ≤ 2000000000) (w : World) :
  Calls Tryz.prog 20 #[.string s] w fun e w' => Below w.heap.size w w' ∧ (rdCode s V ≠ 0 → e = .returned (.tuple #[.agg #[.slice none 0 0], fltV (rdCode s V)])) ∧
   (rdCode s V = 0 → ∃ v its mid y, w.heap.size ≤ y.heap.size ∧ e = .returned (.tuple #[.agg #[v], .nilIface]) ∧ TrOk y w' v its mid ∧ its.map (·.p) = (rdTree s V 64 0 (rd0 s) 1).1) := by
 obtain ⟨R, hRe⟩ : ∃ R, R = w.heap.size + 1 := ⟨_, rfl⟩
 have hR0 : RowL ((w.alloc (.cells #[.slice none 0 0] 26)).alloc (.cells (rdL s ⟨0, 0⟩ 0 1).toArray 98)) R 98 (rdL s ⟨0, 0⟩ 0 1) := by
  have := RowL.new (w.alloc (.cells #[.slice none 0 0] 26)) (rdL s ⟨0, 0⟩ 0 1) 98;rw [World.size_alloc] at this;rw [hRe]; exact this
 have hQ0 : RowL ((w.alloc (.cells #[.slice none 0 0] 26)).alloc (.cells (rdL s ⟨0, 0⟩ 0 1).toArray 98)) w.heap.size 26 [.slice none 0 0] := (RowL.new w [.slice none 0 0] 26).alloc _;have hB0 : Below w.heap.size w ((w.alloc (.cells #[.slice none 0 0] 26)).alloc (.cells (rdL s ⟨0, 0⟩ 0 1).toArray 98)) := ((Below.refl w.heap.size w).alloc (Nat.le_refl _) _).alloc (by rw [World.size_alloc]; omega) _;obtain ⟨y0, hy0⟩ : ∃ y0, (w.alloc (.cells #[.slice none 0 0] 26)).alloc (.cells #[.string s, .int .i64 0, .nilIface, .int .i64 0, .int .i64 1] 98) = y0 := ⟨_, rfl⟩;replace hR0 : RowL y0 R 98 (rdL s ⟨0, 0⟩ 0 1) := by rw [← hy0]; exact hR0
 replace hQ0 : RowL y0 w.heap.size 26 [.slice none 0 0] := by rw [← hy0]; exact hQ0
 replace hB0 : Below w.heap.size w y0 := by rw [← hy0]; exact hB0
 have hh := hidR (header_in s hs 0 1 R y0 hR0);replace hQ0 := hidR hQ0;go_enter Tryz.func20, Tryz.ntmps20;go_wp2_with fail;rw [← hRe];obtain ⟨Q, hQe⟩ : ∃ Q, Q = w.heap.size := ⟨_, rfl⟩;rw [← hQe] at hQ0 ⊢;have hQR : Q ≠ R := by omega
 have hRw : w.heap.size ≤ R := by omega
 have hQw : w.heap.size ≤ Q := by omega
 have hQ1R : Q < R := by omega
 replace hRe := hidR hRe;replace hQe := hidR hQe;clear hy0 hR0;refine Calls.mono hh.out ?_;rintro e y1 ⟨rfl, hr1, hx1⟩;clear hh;have hQ1 := hidR (hx1.row hQ0.out hQR);have hRl1 : R < y1.heap.size := World.rowIs.lt hr1;have hB1 : Below w.heap.size w y1 := hB0.trans ⟨hx1.os, hx1.tape, hx1.output, hx1.size, fun k hk => hx1.block k (Nat.lt_of_lt_of_le hk hB0.size) (by omega)⟩;have ht := tree_in s V hV hs R 63 0 (by decide) (by decide) (rd0 s) 1 y1 hr1 (rd0_pos s) (by decide) (by decide);rw [show (63 + 1 : Nat) = 64 from rfl] at ht
 have hcode : rdCode s V = (if (rdTree s V 64 0 (rd0 s) 1).2.1.pos < s.size then (rdTree s V 64 0 (rd0 s) 1).2.1.fail 5 else (rdTree s V 64 0 (rd0 s) 1).2.1).bad := by
  unfold rdCode;dsimp only;split <;> rfl
 replace ht := hidR ht;replace hcode := hidR hcode;replace hr1 := hidR hr1;go_wp2_with fail;refine Calls.mono ht.out ?_;rintro e y2 ⟨v, its, mid, rfl, htr, hps, hr2, hx2⟩;clear ht;have hQ2 := hidR (hx2.row hQ1.out hQR);obtain ⟨o, k, rfl⟩ := own_slL htr.row;have he := hidR (end_in s _ 0 _ R y2 hr2);replace htr := hidR htr;replace hps := hidR hps;replace hr2 := hidR hr2;go_wp2_with fail;refine Calls.mono he.out ?_;rintro e y3 ⟨rfl, hr3, hx3⟩;clear he;have hQ3 := hx3.row hQ2.out hQR;have htr3 := hidR (htr.out.later hRl1 hx3);have h2 : y3.cell? ⟨R, 2, none⟩ = some (fltV (rdCode s V)) := by rw [hcode.out]; exact hr3.cell 2 rfl
 have hB3 : Below w.heap.size w y3 := hB1.trans ⟨(hx2.trans hx3).os, (hx2.trans hx3).tape, (hx2.trans hx3).output, (hx2.trans hx3).size, fun k hk => (hx2.trans hx3).block k (Nat.lt_of_lt_of_le hk hB1.size) (by omega)⟩;have hfq := hQ3.frozen 0;have hcq := hQ3.cell 0 rfl;have hRf := hr3.frozen 2;replace hr3 := hidR hr3;clear hQ2 hQ1 hQ0 htr hr2 hr1;by_cases hc : rdCode s V = 0
 ·rw [hc, show fltV (0 : Int) = .nilIface from rfl] at h2;have hQ4 := hidR (hQ3.set 0 (.slice o its.length k));have hxq : Ex Q y3 (y3.setCell ⟨Q, 0, none⟩ (.slice o its.length k)) := (Ex.refl Q y3).set 0 _;have htr4 := hidR (htr3.out.later (by omega) hxq);have hB4 := hB3.setCell (p := ⟨Q, 0, none⟩) hQw (.slice o its.length k);replace hc := hidR hc;replace hQ3 := hidR hQ3;go_wp2_with fail;have q0 := hQ4.out.cell 0 rfl;refine bodyPost_ret (v := .tuple #[.agg #[.slice o its.length k], .nilIface]) (by simp [results, Tryz.results20, go_sem, q0]) rfl ?_;exact ⟨hB4, fun h => absurd hc.out h, fun _ => ⟨_, its, mid, y1, hB1.size, rfl, htr4.out, hps.out⟩⟩
 ·have hfb : fltV (rdCode s V) = .iface 59 (.agg #[.int .i64 (rdCode s V)]) := if_neg hc;rw [hfb] at h2;replace hc := hidR hc;replace hQ3 := hidR hQ3;go_wp2_with fail
  go_region
  have hQ4 := (hQ3.out.set 0 (.slice none 0 0));have hB4 := hB3.setCell (p := ⟨Q, 0, none⟩) hQw (.slice none 0 0);have q0 := hQ4.cell 0 rfl;go_wp2_with fail;refine bodyPost_ret (v := .tuple #[.agg #[.slice none 0 0], fltV (rdCode s V)]) (by simp [results, Tryz.results20, go_sem, q0, hfb]) rfl ?_;exact ⟨hB4.drew, fun _ => rfl, fun h => absurd h hc.out⟩
end Go.Proofs.YtnhanccjnhgjoaaGreatDoor

import Derived.Test.YtgcbkfckfgiigaaGreatDoorHuA
import Derived.Test.YtgcbkfckfgiigaaGreatDoorDrL
import Derived.Test.YtgcbkfckfgiigaaGreatDoorDrPB
import Derived.Test.YtgcbkfckfgiigaaGreatDoorDrPC
import Derived.Test.YtgcbkfckfgiigaaGreatDoorDrPD
import Derived.Test.YtgcbkfckfgiigaaGreatDoorDrPE
import Derived.Test.YtgcbkfckfgiigaaGreatDoorGy
namespace Go.Proofs.YtgcbkfckfgiigaaGreatDoor
open Go.RowKit Go.Shelf
set_option linter.unusedVariables false
set_option linter.unusedSimpArgs false
set_option maxRecDepth 100000
set_option maxHeartbeats 9000000
theorem spoil_in (c : Sl Int) (P : Nat) (PS : List PD) (hP : P ≤ 2999) (hl : PS.length ≤ 10) (h0 : 0 < PS.length) (hSm : ∀ x ∈ PS, Sm x) : SpoilA c P PS := by
 have hb := tk_bd c P 20;have h1 := hb.1;have h2 := hb.2 (by omega);by_cases h6 : tk c P 20 < 6
 ·exact spoilC c P PS (by omega) hl h0 hSm _ rfl h1 h6
 by_cases h11 : tk c P 20 < 11
 ·exact spoilD c P PS (by omega) hl h0 hSm _ rfl (by omega) h11
 by_cases h16 : tk c P 20 < 16
 ·exact spoilE c P PS (by omega) hl h0 hSm _ rfl (by omega) h16
 ·exact spoilB c P PS (by omega) hl h0 hSm _ rfl (by omega) (by omega)
structure AC (w : World) (B : Nat) (PS : List PD) (u : Value) (y : World) : Prop where
 r0 : RowL y w.heap.size 25 [.slice none 0 0]
 r1 : RowL y B 25 [u]
 ps : IsProtos (fun b => w.heap.size < b ∧ b ≠ B ∧ b < y.heap.size) y u (slOf PS)
 bel : Below w.heap.size w y
 hB : w.heap.size < B
theorem AC.step {w : World} {B : Nat} {PS PS' : List PD} {u : Value} {y : World} (F : Nat) {c : Sl Int} {P : Int} {v : Value} (h : AC w B PS u y) (hC : IsCode w v c)
  (hH : ∀ (av : Nat → Prop) w v u, (∀ b, av b → b < w.heap.size) → IsCode w v c → IsProtos av w u (slOf PS) → Calls Tryz.prog F #[v, .int .i64 P, .agg #[u]] w fun e w' => ∃ u', e = .returned (.agg #[u']) ∧ Below w.heap.size w w' ∧ IsProtos (fun b => av b ∨ (w.heap.size ≤ b ∧ b < w'.heap.size)) w' u' (slOf PS')) :
  Calls Tryz.prog F #[v, .int .i64 P, .agg #[u]] y fun e y' => ∃ a n p, e = .returned (.agg #[.slice a n p]) ∧ y'.cell? ⟨B, 0, none⟩ = some u ∧ y'.frozen? ⟨B, 0, none⟩ = false ∧ AC w B PS' (.slice a n p) (y'.setCell ⟨B, 0, none⟩ (.slice a n p)) := by
 refine (hH _ y v u (fun b hb => hb.2.2) (hC.later h.bel) h.ps).mono ?_;rintro e y' ⟨u', rfl, hb, hp⟩;obtain ⟨a, n, p, rfl⟩ : ∃ a n p, u' = .slice a n p := by obtain ⟨_, _, _, _, _, ⟨a, b, h, _⟩, _⟩ := hp; exact ⟨a, _, b, h⟩
 have hr1 := h.r1.call hb;have hl := h.r1.lt;have hb' := h.hB;have hs := hb.size;refine ⟨a, n, p, rfl, hr1.cell 0 rfl, hr1.frozen 0, (h.r0.call hb).other (a := ⟨B, 0, none⟩) (show w.heap.size ≠ B by omega) _, hr1.set 0 _, ?_, (h.bel.trans (hb.mono h.bel.size)).setCell (p := ⟨B, 0, none⟩) (show w.heap.size ≤ B by omega) _, h.hB⟩;refine (hp.keep fun b hb => Below.heap_setCell _ _ _ _ ?_).mono fun b hb => ?_
 ·show b ≠ B;rcases hb with hb | hb <;> omega
 ·rw [World.size_setCell];rcases hb with hb | hb
  ·exact ⟨hb.1, hb.2.1, by omega⟩
  ·have := h.bel.size;exact ⟨by omega, by omega, hb.2⟩
theorem AC.fin {w : World} {B : Nat} {PS : List PD} {u : Value} {y : World} (h : AC w B PS u y) : Below w.heap.size w (y.setCell ⟨w.heap.size, 0, none⟩ u) ∧ IsProtos (fun b => w.heap.size ≤ b ∧ b < (y.setCell ⟨w.heap.size, 0, none⟩ u).heap.size) (y.setCell ⟨w.heap.size, 0, none⟩ u) u (slOf PS) :=
 ⟨h.bel.setCell (p := ⟨w.heap.size, 0, none⟩) (Nat.le_refl _) _, (h.ps.keep fun b hb => Below.heap_setCell _ _ _ _ (by show b ≠ w.heap.size; omega)).mono fun b hb => ⟨by omega, by rw [World.size_setCell]; exact hb.2.2⟩⟩
theorem anyChunk (c : Sl Int) : ∃ (PS : List PD) (P : Nat), P ≤ 3000 ∧ PS.length ≤ 300 ∧ (∀ x ∈ PS, ∀ i, i < x.code.n → 0 ≤ x.code.f i ∧ x.code.f i ≤ 4294967295) ∧ ∀ w v, IsCode w v c → Calls Tryz.prog 11 #[v, .int .i64 0] w fun e w' => ∃ u, e = .returned (.tuple #[.agg #[u], .int .i64 ((P : Int) + 12)]) ∧ Below w.heap.size w w' ∧ IsProtos (fun b => w.heap.size ≤ b ∧ b < w'.heap.size) w' u (slOf PS) := by
 obtain ⟨PS, P, hP, hl, h0, hSm, hD⟩ := drawChunk c;obtain ⟨PS1, hl1, hm1, hH1⟩ := hurt_in c P PS (by omega) hl h0 (fun x hx => (hSm x hx).hm);obtain ⟨PS2, hl2, hm2, hH2⟩ := hurt_in c (P + 5) PS1 (by omega) (by omega) (by omega) hm1;obtain ⟨PS3, hl3, hb3, hS3⟩ := spoil_in c P PS hP hl h0 hSm;obtain ⟨how, hhow⟩ : ∃ t, tk c 0 16 = t := ⟨_, rfl⟩;have k1 : 0 ≤ how := hhow ▸ (tk_bd c 0 16).1;have k2 : how < 16 := hhow ▸ (tk_bd c 0 16).2 (by omega);replace hhow : Hid (tk c 0 16 = how) := hhow;replace hD : Hid _ := hD;replace hH1 : Hid (HurtA c P PS PS1) := hH1;unfold HurtA at hH2;rw [show ((P + 5 : Nat) : Int) = (P : Int) + 5 by omega] at hH2;replace hH2 : Hid _ := hH2;replace hS3 : Hid _ := hS3;have hcs : how < 9 ∨ (9 ≤ how ∧ how < 14) ∨ how = 14 ∨ how = 15 := by omega
 rcases hcs with hk | ⟨hk, hk2⟩ | rfl | rfl;refine ⟨PS, P, by omega, by omega, fun x hx => (hSm x hx).bd.cw, fun w v hC => ?_⟩
 rotate_left
 refine ⟨PS1, P, by omega, by omega, fun x hx => (hm1 x hx).cw, fun w v hC => ?_⟩
 rotate_left
 refine ⟨PS2, P, by omega, by omega, fun x hx => (hm2 x hx).cw, fun w v hC => ?_⟩
 rotate_left
 refine ⟨PS3, P, by omega, hl3, fun x hx => (hb3 x hx).cw, fun w v hC => ?_⟩
 rotate_left
 all_goals
  clear hSm hm1 hm2 hb3;obtain ⟨ao, cap, rfl⟩ := hC.form;have hsm := hC.small;have hB0 : Below w.heap.size w (w.alloc (.cells #[.slice none 0 0] 25)) := (Below.refl _ _).alloc (Nat.le_refl _) _;have hC0 := hC.later hB0;have hcall := hD.out _ _ hC0;have hr0 := RowL.new w [.slice none 0 0] 25;have hsz : (w.alloc (.cells #[.slice none 0 0] 25)).heap.size = w.heap.size + 1 := World.size_alloc _ _;replace hC : Hid (IsCode w (.slice ao c.n cap) c) := hC;replace hC0 : Hid (IsCode (w.alloc (.cells #[.slice none 0 0] 25)) (.slice ao c.n cap) c) := hC0;replace hcall : Hid _ := hcall;replace hr0 : Hid (RowL (w.alloc (.cells #[.slice none 0 0] 25)) w.heap.size 25 [.slice none 0 0]) := hr0;replace hsz : Hid _ := hsz;go_enter Tryz.func11, Tryz.ntmps11;go_wp2_with fail;refine (l1Take_to c _ 0 0 16 _ rfl hC0.out (by omega) (by omega) hhow.out).mono ?_;rintro e w' ⟨rfl, rfl⟩;go_wp2_with fail;refine Calls.mono hcall.out ?_;rintro e y1 ⟨u, rfl, b1, hu⟩;obtain ⟨au, cu, rfl⟩ : ∃ a b, u = .slice a PS.length b := by obtain ⟨_, _, _, _, _, ⟨a, b, h, _⟩, _⟩ := hu; exact ⟨a, b, h⟩
  rw [hsz.out] at hu;have hb1 := b1.size;rw [hsz.out] at hb1;have hB1 : Below y1.heap.size y1 (y1.alloc (.cells #[.slice au PS.length cu] 25)) := (Below.refl _ _).alloc (Nat.le_refl _) _;have hs1 : (y1.alloc (.cells #[.slice au PS.length cu] 25)).heap.size = y1.heap.size + 1 := World.size_alloc _ _;have hA : AC w y1.heap.size PS (.slice au PS.length cu) (y1.alloc (.cells #[.slice au PS.length cu] 25)) := ⟨(hr0.out.call b1).call hB1, RowL.new y1 [.slice au PS.length cu] 25, (hu.keep fun b hb => hB1.block b hb.2).mono fun b hb => ⟨by omega, by omega, by rw [hs1]; omega⟩, (hB0.trans (b1.mono (by rw [hsz.out]; omega))).trans (hB1.mono (by omega)), by omega⟩;clear hu hB1 hs1 hr0 hcall hC0
 ·have hn9 : ¬ (9 : Int) ≤ how := by omega
  have hn14 : (how == 14) = false := by simp; omega
  have hn15 : (how == 15) = false := by simp; omega
  have q0 := hA.r1.cell 0 rfl;have z0 := hA.r0.cell 0 rfl;have zf := hA.r0.frozen 0;have hfin := (hA.r0.set 0 (.slice au PS.length cu)).cell 0 rfl;have hF := hA.fin;replace hF : Hid _ := hF;clear hA;go_wp2_with fail;refine bodyPost_ret (v := .tuple #[.agg #[.slice au PS.length cu], .int .i64 ((P : Int) + 12)]) (by simp [results, Tryz.results11, go_sem, hfin]) rfl ⟨_, rfl, hF.out.1, hF.out.2⟩
 ·have hn15' : how < 15 := by omega
  have hn14 : (how == 14) = false := by simp; omega
  have hn15 : (how == 15) = false := by simp; omega
  have r20 := hA.r1.cell 0 rfl;have r21 := hA.r0.cell 0 rfl;replace hA : Hid _ := hA;go_wp2_with fail;refine (AC.step (P := (P : Int)) _ hA.out hC.out hH1.out).mono ?_;rintro e y22 ⟨a2, n2, p2, rfl, q2, f2, hA2⟩;clear hA r20 r21;have q0 := hA2.r1.cell 0 rfl;have z0 := hA2.r0.cell 0 rfl;have zf := hA2.r0.frozen 0;have hfin := (hA2.r0.set 0 (.slice a2 n2 p2)).cell 0 rfl;have hF := hA2.fin;replace hF : Hid _ := hF;clear hA2;go_wp2_with fail;refine bodyPost_ret (v := .tuple #[.agg #[.slice a2 n2 p2], .int .i64 ((P : Int) + 12)]) (by simp [results, Tryz.results11, go_sem, hfin]) rfl ⟨_, rfl, hF.out.1, hF.out.2⟩
 ·have r20 := hA.r1.cell 0 rfl;have r21 := hA.r0.cell 0 rfl;replace hA : Hid _ := hA;go_wp2_with fail;refine (AC.step (P := (P : Int)) _ hA.out hC.out hH1.out).mono ?_;rintro e y22 ⟨a2, n2, p2, rfl, q2, f2, hA2⟩;clear hA r20 r21;have r30 := hA2.r1.cell 0 rfl;have r31 := hA2.r0.cell 0 rfl;replace hA2 : Hid _ := hA2;go_wp2_with fail;refine (AC.step (P := ((P : Int) + 5)) _ hA2.out hC.out hH2.out).mono ?_;rintro e y23 ⟨a3, n3, p3, rfl, q3, f3, hA3⟩;clear hA2 r30 r31;have q0 := hA3.r1.cell 0 rfl;have z0 := hA3.r0.cell 0 rfl;have zf := hA3.r0.frozen 0;have hfin := (hA3.r0.set 0 (.slice a3 n3 p3)).cell 0 rfl;have hF := hA3.fin;replace hF : Hid _ := hF;clear hA3;go_wp2_with fail;refine bodyPost_ret (v := .tuple #[.agg #[.slice a3 n3 p3], .int .i64 ((P : Int) + 12)]) (by simp [results, Tryz.results11, go_sem, hfin]) rfl ⟨_, rfl, hF.out.1, hF.out.2⟩
 ·have r20 := hA.r1.cell 0 rfl;have r21 := hA.r0.cell 0 rfl;replace hA : Hid _ := hA;go_wp2_with fail;refine (AC.step (P := (P : Int)) _ hA.out hC.out hS3.out).mono ?_;rintro e y22 ⟨a2, n2, p2, rfl, q2, f2, hA2⟩;clear hA r20 r21;have q0 := hA2.r1.cell 0 rfl;have z0 := hA2.r0.cell 0 rfl;have zf := hA2.r0.frozen 0;have hfin := (hA2.r0.set 0 (.slice a2 n2 p2)).cell 0 rfl;have hF := hA2.fin;replace hF : Hid _ := hF;clear hA2;go_wp2_with fail;refine bodyPost_ret (v := .tuple #[.agg #[.slice a2 n2 p2], .int .i64 ((P : Int) + 12)]) (by simp [results, Tryz.results11, go_sem, hfin]) rfl ⟨_, rfl, hF.out.1, hF.out.2⟩
theorem drawTops (c : Sl Int) : ∃ (PS : List PD) (i : Int), PS.length ≤ 300 ∧ CodeB (slOf PS) ∧ ∀ w v, IsCode w v c → Calls Tryz.prog 4 #[v] w fun e w' => ∃ u, e = .returned (.tuple #[.agg #[u], .int .i64 i]) ∧ Below w.heap.size w w' ∧ IsProtos (fun b => w.heap.size ≤ b ∧ b < w'.heap.size) w' u (slOf PS) := by
 obtain ⟨PS, P, hP, hl, hcw, hD⟩ := anyChunk c;obtain ⟨t, ht⟩ : ∃ t, tk c (P + 12) ((PS.length : Int) * 4 + 2) = t := ⟨_, rfl⟩;have t1 : 0 ≤ t := ht ▸ (tk_bd _ _ _).1;have t2 : t < (PS.length : Int) * 4 + 2 := ht ▸ (tk_bd c (P + 12) ((PS.length : Int) * 4 + 2)).2 (by omega);refine ⟨PS, t / 4 - t % 31 / 30, hl, fun i hi j hj => slOf_all (P := fun x : PD => ∀ j, j < x.code.n → 0 ≤ x.code.f j ∧ x.code.f j ≤ 4294967295) hcw i hi j hj, fun w v hC => ?_⟩;clear hcw;obtain ⟨ao, cap, rfl⟩ := hC.form;have hB0 : Below w.heap.size w (w.alloc (.cells #[.slice none 0 0] 25)) := (Below.refl _ _).alloc (Nat.le_refl _) _;have hC0 := hC.later hB0;have hcall : Hid _ := hD _ _ hC0;have hr0 : Hid (RowL (w.alloc (.cells #[.slice none 0 0] 25)) w.heap.size 25 [.slice none 0 0]) := RowL.new w [.slice none 0 0] 25;have hsz : Hid ((w.alloc (.cells #[.slice none 0 0] 25)).heap.size = w.heap.size + 1) := World.size_alloc _ _;replace ht : Hid _ := ht;replace hC : Hid (IsCode w (.slice ao c.n cap) c) := hC;clear hD hC0;go_enter Tryz.func4, Tryz.ntmps4;go_wp2_with fail;refine Calls.mono hcall.out ?_;rintro e y1 ⟨u, rfl, b1, hu⟩;obtain ⟨au, cu, rfl⟩ : ∃ a b, u = .slice a PS.length b := protos_form hu;rw [hsz.out] at hu;have hb1 := b1.size;rw [hsz.out] at hb1;have hB1 : Below y1.heap.size y1 (y1.alloc (.cells #[.slice au PS.length cu] 25)) := (Below.refl _ _).alloc (Nat.le_refl _) _;have hs1 : (y1.alloc (.cells #[.slice au PS.length cu] 25)).heap.size = y1.heap.size + 1 := World.size_alloc _ _;have hA : AC w y1.heap.size PS (.slice au PS.length cu) (y1.alloc (.cells #[.slice au PS.length cu] 25)) := ⟨(hr0.out.call b1).call hB1, RowL.new y1 [.slice au PS.length cu] 25, (hu.keep fun b hb => hB1.block b hb.2).mono fun b hb => ⟨by omega, by omega, by rw [hs1]; omega⟩, (hB0.trans (b1.mono (by rw [hsz.out]; omega))).trans (hB1.mono (by omega)), by omega⟩;have hC1 := hC.out.later hA.bel;clear hu hB1 hs1 hr0 hcall b1 hb1 hB0;have q0 := hA.r1.cell 0 rfl;have z0 := hA.r0.cell 0 rfl;have zf := hA.r0.frozen 0;have hfin := (hA.r0.set 0 (.slice au PS.length cu)).cell 0 rfl;have hF : Hid _ := hA.fin;clear hA;replace hC1 : Hid _ := hC1;go_wp2_with fail;generalize y1.alloc (.cells #[.slice au PS.length cu] 25) = y2 at hC1 q0 z0 zf hfin hF ⊢;refine (l1Take_to c _ (P + 12) ((P : Int) + 12) ((PS.length : Int) * 4 + 2) _ (by omega) hC1.out (by omega) (by omega) ht.out).mono ?_;rintro e w' ⟨rfl, rfl⟩;go_wp2_with fail;refine bodyPost_ret (v := .tuple #[.agg #[.slice au PS.length cu], .int .i64 (t / 4 - t % 31 / 30)]) (by simp [results, Tryz.results4, go_sem, hfin]) rfl ⟨_, rfl, hF.out.1, hF.out.2⟩
theorem tops_law (c : Sl Int) (v : Value) (w : World) (hC : IsCode w v c) (hS : Spans w) : Calls Tryz.prog 3 #[v] w fun e w' => e = .returned (.bool true) ∧ Below w.heap.size w w' := by
 obtain ⟨PS, i, hl, hcw, hD⟩ := drawTops c;exact tops_walk c PS i hl hcw hD v w hC hS
theorem tops_long (a0 : Option Addr) (n0 c0 : Nat) (w : World) (h : 1048576 < n0) (h1 : n0 ≤ 9223372036854775807) :
  Calls Tryz.prog 3 #[.slice a0 n0 c0] w fun e w' => e = .returned (.bool true) ∧ Below w.heap.size w w' := by
 have hI : (n0 : Int) > 1048576 := by omega
 go_enter Tryz.func3, Tryz.ntmps3;go_wp2_with fail;go_ret;exact ⟨rfl, by go_grown⟩
end Go.Proofs.YtgcbkfckfgiigaaGreatDoor

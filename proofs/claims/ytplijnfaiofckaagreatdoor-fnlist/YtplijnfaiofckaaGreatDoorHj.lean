import Derived.Test.YtplijnfaiofckaaGreatDoorHuA
import Derived.Test.YtplijnfaiofckaaGreatDoorDrL
import Derived.Test.YtplijnfaiofckaaGreatDoorDrPB
import Derived.Test.YtplijnfaiofckaaGreatDoorDrPC
import Derived.Test.YtplijnfaiofckaaGreatDoorDrPD
import Derived.Test.YtplijnfaiofckaaGreatDoorDrPE
import Derived.Test.YtplijnfaiofckaaGreatDoorGu
import Derived.Test.YtplijnfaiofckaaGreatDoorGy
import Derived.Test.YtplijnfaiofckaaGreatDoorAjB
namespace Go.Proofs.YtplijnfaiofckaaGreatDoor
open Go.RowKit Go.Shelf
set_option linter.unusedVariables false
set_option linter.unusedSimpArgs false
set_option maxRecDepth 100000
set_option maxHeartbeats 9000000
theorem spoil_in (c : Sl Int) (P : Nat) (PS : List PD) (hP : P ≤ 2999) (hl : PS.length ≤ 10) (h0 : 0 < PS.length) (hSm : ∀ x ∈ PS, Sm x) : SpoilA c P PS := by
 have hb := tk_bd c P 20;have h1 := hb.1;have h2 := hb.2 (by omega);by_cases h6 : tk c P 20 < 6
 ·exact spoilC c P PS (by omega) hl h0 hSm _ rfl h1 h6
 by_cases h11 : tk c P 20 < 11
 ·exact spoilD c P PS (by omega) hl h0 hSm _ rfl (by omega) h11
 by_cases h16 : tk c P 20 < 16
 ·exact spoilE c P PS (by omega) hl h0 hSm _ rfl (by omega) h16
 ·exact spoilB c P PS (by omega) hl h0 hSm _ rfl (by omega) (by omega)
structure AC (w : World) (B : Nat) (PS : List PD) (u : Value) (y : World) : Prop where
 r0 : RowL y w.heap.size 25 [.slice none 0 0]
 r1 : RowL y B 25 [u]
 ps : qa0 (fun b => w.heap.size < b ∧ b ≠ B ∧ b < y.heap.size) y u (slOf PS)
 bel : Below w.heap.size w y
 hB : w.heap.size < B
theorem AC.step {w : World} {B : Nat} {PS PS' : List PD} {u : Value} {y : World} (F : Nat) {c : Sl Int} {P : Int} {v : Value} (h : AC w B PS u y) (hC : IsCode w v c)
  (hH : ∀ (av : Nat → Prop) w v u, (∀ b, av b → b < w.heap.size) → IsCode w v c → qa0 av w u (slOf PS) → Calls Tryz.prog F #[v, .int .i64 P, .agg #[u]] w fun e w' => ∃ u', e = .returned (.agg #[u']) ∧ Below w.heap.size w w' ∧ qa0 (fun b => av b ∨ (w.heap.size ≤ b ∧ b < w'.heap.size)) w' u' (slOf PS')) :
  Calls Tryz.prog F #[v, .int .i64 P, .agg #[u]] y fun e y' => ∃ a n p, e = .returned (.agg #[.slice a n p]) ∧ y'.cell? ⟨B, 0, none⟩ = some u ∧ y'.frozen? ⟨B, 0, none⟩ = false ∧ AC w B PS' (.slice a n p) (y'.setCell ⟨B, 0, none⟩ (.slice a n p)) := by
 refine (hH _ y v u (fun b hb => hb.2.2) (hC.later h.bel) h.ps).mono ?_;rintro e y' ⟨u', rfl, hb, hp⟩;obtain ⟨a, n, p, rfl⟩ : ∃ a n p, u' = .slice a n p := by obtain ⟨_, _, _, _, _, ⟨a, b, h, _⟩, _⟩ := hp; exact ⟨a, _, b, h⟩
 have hr1 := h.r1.call hb;have hl := h.r1.lt;have hb' := h.hB;have hs := hb.size;refine ⟨a, n, p, rfl, hr1.cell 0 rfl, hr1.frozen 0, (h.r0.call hb).other (a := ⟨B, 0, none⟩) (show w.heap.size ≠ B by omega) _, hr1.set 0 _, ?_, (h.bel.trans (hb.mono h.bel.size)).setCell (p := ⟨B, 0, none⟩) (show w.heap.size ≤ B by omega) _, h.hB⟩;refine (hp.keep fun b hb => Below.heap_setCell _ _ _ _ ?_).mono fun b hb => ?_
 ·show b ≠ B;rcases hb with hb | hb <;> omega
 ·rw [World.size_setCell];rcases hb with hb | hb
  ·exact ⟨hb.1, hb.2.1, by omega⟩
  ·have := h.bel.size;exact ⟨by omega, by omega, hb.2⟩
theorem AC.fin {w : World} {B : Nat} {PS : List PD} {u : Value} {y : World} (h : AC w B PS u y) : Below w.heap.size w (y.setCell ⟨w.heap.size, 0, none⟩ u) ∧ qa0 (fun b => w.heap.size ≤ b ∧ b < (y.setCell ⟨w.heap.size, 0, none⟩ u).heap.size) (y.setCell ⟨w.heap.size, 0, none⟩ u) u (slOf PS) :=
 ⟨h.bel.setCell (p := ⟨w.heap.size, 0, none⟩) (Nat.le_refl _) _, (h.ps.keep fun b hb => Below.heap_setCell _ _ _ _ (by show b ≠ w.heap.size; omega)).mono fun b hb => ⟨by omega, by rw [World.size_setCell]; exact hb.2.2⟩⟩
theorem anyChunk (c : Sl Int) : ∃ (PS : List PD) (P : Nat), P ≤ 3000 ∧ PS.length ≤ 300 ∧ (∀ x ∈ PS, (∀ i, i < x.code.n → 0 ≤ x.code.f i ∧ x.code.f i ≤ 4294967295) ∧ ∀ i, i < x.consts.n → -9223372036854775808 ≤ (x.consts.f i).num ∧ (x.consts.f i).num ≤ 9223372036854775807) ∧ ∀ w v, IsCode w v c → Calls Tryz.prog 10 #[v, .int .i64 0] w fun e w' => ∃ u, e = .returned (.tuple #[.agg #[u], .int .i64 ((P : Int) + 12)]) ∧ Below w.heap.size w w' ∧ qa0 (fun b => w.heap.size ≤ b ∧ b < w'.heap.size) w' u (slOf PS) := by
 obtain ⟨PS, P, hP, hl, h0, hSm, hD⟩ := drawChunk c;obtain ⟨PS1, hl1, hm1, hH1⟩ := hurt_in c P PS (by omega) hl h0 (fun x hx => (hSm x hx).hm);obtain ⟨PS2, hl2, hm2, hH2⟩ := hurt_in c (P + 5) PS1 (by omega) (by omega) (by omega) hm1;obtain ⟨PS3, hl3, hb3, hS3⟩ := spoil_in c P PS hP hl h0 hSm;obtain ⟨how, hhow⟩ : ∃ t, tk c 0 16 = t := ⟨_, rfl⟩;have k1 : 0 ≤ how := hhow ▸ (tk_bd c 0 16).1;have k2 : how < 16 := hhow ▸ (tk_bd c 0 16).2 (by omega);replace hhow : Hid (tk c 0 16 = how) := hhow;replace hD : Hid _ := hD;replace hH1 : Hid (HurtA c P PS PS1) := hH1;unfold HurtA at hH2;rw [show ((P + 5 : Nat) : Int) = (P : Int) + 5 by omega] at hH2;replace hH2 : Hid _ := hH2;replace hS3 : Hid _ := hS3;have hcs : how < 9 ∨ (9 ≤ how ∧ how < 14) ∨ how = 14 ∨ how = 15 := by omega
 rcases hcs with hk | ⟨hk, hk2⟩ | rfl | rfl;refine ⟨PS, P, by omega, by omega, fun x hx => ⟨(hSm x hx).bd.cw, (hSm x hx).hm.kn⟩, fun w v hC => ?_⟩
 rotate_left
 refine ⟨PS1, P, by omega, by omega, fun x hx => ⟨(hm1 x hx).cw, (hm1 x hx).kn⟩, fun w v hC => ?_⟩
 rotate_left
 refine ⟨PS2, P, by omega, by omega, fun x hx => ⟨(hm2 x hx).cw, (hm2 x hx).kn⟩, fun w v hC => ?_⟩
 rotate_left
 refine ⟨PS3, P, by omega, hl3, fun x hx => ⟨(hb3 x hx).cw, fun i hi => ((hb3 x hx).kn i hi).1⟩, fun w v hC => ?_⟩
 rotate_left
 all_goals
  clear hSm hm1 hm2 hb3;obtain ⟨ao, cap, rfl⟩ := hC.form;have hsm := hC.small;have hB0 : Below w.heap.size w (w.alloc (.cells #[.slice none 0 0] 25)) := (Below.refl _ _).alloc (Nat.le_refl _) _;have hC0 := hC.later hB0;have hcall := hD.out _ _ hC0;have hr0 := RowL.new w [.slice none 0 0] 25;have hsz : (w.alloc (.cells #[.slice none 0 0] 25)).heap.size = w.heap.size + 1 := World.size_alloc _ _;replace hC : Hid (IsCode w (.slice ao c.n cap) c) := hC;replace hC0 : Hid (IsCode (w.alloc (.cells #[.slice none 0 0] 25)) (.slice ao c.n cap) c) := hC0;replace hcall : Hid _ := hcall;replace hr0 : Hid (RowL (w.alloc (.cells #[.slice none 0 0] 25)) w.heap.size 25 [.slice none 0 0]) := hr0;replace hsz : Hid _ := hsz;go_enter Tryz.func10, Tryz.ntmps10;go_wp2_with fail;refine (qa1 c _ 0 0 16 _ rfl hC0.out (by omega) (by omega) hhow.out).mono ?_;rintro e w' ⟨rfl, rfl⟩;go_wp2_with fail;refine Calls.mono hcall.out ?_;rintro e y1 ⟨u, rfl, b1, hu⟩;obtain ⟨au, cu, rfl⟩ : ∃ a b, u = .slice a PS.length b := by obtain ⟨_, _, _, _, _, ⟨a, b, h, _⟩, _⟩ := hu; exact ⟨a, b, h⟩
  rw [hsz.out] at hu;have hb1 := b1.size;rw [hsz.out] at hb1;have hB1 : Below y1.heap.size y1 (y1.alloc (.cells #[.slice au PS.length cu] 25)) := (Below.refl _ _).alloc (Nat.le_refl _) _;have hs1 : (y1.alloc (.cells #[.slice au PS.length cu] 25)).heap.size = y1.heap.size + 1 := World.size_alloc _ _;have hA : AC w y1.heap.size PS (.slice au PS.length cu) (y1.alloc (.cells #[.slice au PS.length cu] 25)) := ⟨(hr0.out.call b1).call hB1, RowL.new y1 [.slice au PS.length cu] 25, (hu.keep fun b hb => hB1.block b hb.2).mono fun b hb => ⟨by omega, by omega, by rw [hs1]; omega⟩, (hB0.trans (b1.mono (by rw [hsz.out]; omega))).trans (hB1.mono (by omega)), by omega⟩;clear hu hB1 hs1 hr0 hcall hC0
 ·have hn9 : ¬ (9 : Int) ≤ how := by omega
  have hn14 : (how == 14) = false := by simp; omega
  have hn15 : (how == 15) = false := by simp; omega
  have q0 := hA.r1.cell 0 rfl;have z0 := hA.r0.cell 0 rfl;have zf := hA.r0.frozen 0;have hfin := (hA.r0.set 0 (.slice au PS.length cu)).cell 0 rfl;have hF := hA.fin;replace hF : Hid _ := hF;clear hA;go_wp2_with fail;refine bodyPost_ret (v := .tuple #[.agg #[.slice au PS.length cu], .int .i64 ((P : Int) + 12)]) (by simp [results, Tryz.results10, go_sem, hfin]) rfl ⟨_, rfl, hF.out.1, hF.out.2⟩
 ·have hn15' : how < 15 := by omega
  have hn14 : (how == 14) = false := by simp; omega
  have hn15 : (how == 15) = false := by simp; omega
  have r20 := hA.r1.cell 0 rfl;have r21 := hA.r0.cell 0 rfl;replace hA : Hid _ := hA;go_wp2_with fail;refine (AC.step (P := (P : Int)) _ hA.out hC.out hH1.out).mono ?_;rintro e y22 ⟨a2, n2, p2, rfl, q2, f2, hA2⟩;clear hA r20 r21;have q0 := hA2.r1.cell 0 rfl;have z0 := hA2.r0.cell 0 rfl;have zf := hA2.r0.frozen 0;have hfin := (hA2.r0.set 0 (.slice a2 n2 p2)).cell 0 rfl;have hF := hA2.fin;replace hF : Hid _ := hF;clear hA2;go_wp2_with fail;refine bodyPost_ret (v := .tuple #[.agg #[.slice a2 n2 p2], .int .i64 ((P : Int) + 12)]) (by simp [results, Tryz.results10, go_sem, hfin]) rfl ⟨_, rfl, hF.out.1, hF.out.2⟩
 ·have r20 := hA.r1.cell 0 rfl;have r21 := hA.r0.cell 0 rfl;replace hA : Hid _ := hA;go_wp2_with fail;refine (AC.step (P := (P : Int)) _ hA.out hC.out hH1.out).mono ?_;rintro e y22 ⟨a2, n2, p2, rfl, q2, f2, hA2⟩;clear hA r20 r21;have r30 := hA2.r1.cell 0 rfl;have r31 := hA2.r0.cell 0 rfl;replace hA2 : Hid _ := hA2;go_wp2_with fail;refine (AC.step (P := ((P : Int) + 5)) _ hA2.out hC.out hH2.out).mono ?_;rintro e y23 ⟨a3, n3, p3, rfl, q3, f3, hA3⟩;clear hA2 r30 r31;have q0 := hA3.r1.cell 0 rfl;have z0 := hA3.r0.cell 0 rfl;have zf := hA3.r0.frozen 0;have hfin := (hA3.r0.set 0 (.slice a3 n3 p3)).cell 0 rfl;have hF := hA3.fin;replace hF : Hid _ := hF;clear hA3;go_wp2_with fail;refine bodyPost_ret (v := .tuple #[.agg #[.slice a3 n3 p3], .int .i64 ((P : Int) + 12)]) (by simp [results, Tryz.results10, go_sem, hfin]) rfl ⟨_, rfl, hF.out.1, hF.out.2⟩
 ·have r20 := hA.r1.cell 0 rfl;have r21 := hA.r0.cell 0 rfl;replace hA : Hid _ := hA;go_wp2_with fail;refine (AC.step (P := (P : Int)) _ hA.out hC.out hS3.out).mono ?_;rintro e y22 ⟨a2, n2, p2, rfl, q2, f2, hA2⟩;clear hA r20 r21;have q0 := hA2.r1.cell 0 rfl;have z0 := hA2.r0.cell 0 rfl;have zf := hA2.r0.frozen 0;have hfin := (hA2.r0.set 0 (.slice a2 n2 p2)).cell 0 rfl;have hF := hA2.fin;replace hF : Hid _ := hF;clear hA2;go_wp2_with fail;refine bodyPost_ret (v := .tuple #[.agg #[.slice a2 n2 p2], .int .i64 ((P : Int) + 12)]) (by simp [results, Tryz.results10, go_sem, hfin]) rfl ⟨_, rfl, hF.out.1, hF.out.2⟩
theorem protos_form {av : Nat → Prop} {w : World} {u : Value} {s : Sl PD} (h : qa0 av w u s) : ∃ a b, u = .slice a s.n b := by
 obtain ⟨_, _, _, _, _, ⟨a, b, h, _⟩, _⟩ := h;exact ⟨a, b, h⟩
structure Tabs (w : World) (mm : Int) : Prop where
 nm : Named w
 env : Env w
 ml : w.cell? ⟨2, 0, none⟩ = some (.int .i64 mm)
 lt : 2 < w.heap.size
theorem Tabs.below {w w' : World} {mm : Int} (h : Tabs w mm) (b : Below w.heap.size w w') : Tabs w' mm := ⟨h.nm.below b, h.env.below b, (b.cell (p := ⟨2, 0, none⟩) h.lt).trans h.ml, Nat.lt_of_lt_of_le h.lt b.size⟩
structure TD (w0 z : World) (s : Sl PD) (B3 B5 : Nat) (v1 v2 : Value) (mm : Int) : Prop where
 r3 : RowL z B3 25 [v1]
 r5 : RowL z B5 25 [v2]
 p1 : qa0 (· < z.heap.size) z v1 s
 p2 : qa0 (· < z.heap.size) z v2 s
 tb : Tabs z mm
 bel : Below w0.heap.size w0 z
theorem TD.call {w0 z z' : World} {s : Sl PD} {B3 B5 : Nat} {v1 v2 : Value} {mm : Int} (h : TD w0 z s B3 B5 v1 v2 mm) (b : Below z.heap.size z z') : TD w0 z' s B3 B5 v1 v2 mm :=
 ⟨h.r3.call b, h.r5.call b, h.p1.later b, h.p2.later b, h.tb.below b, h.bel.trans (b.mono h.bel.size)⟩
theorem size_pos {s : Sl PD} (h : Wf s) : 0 < (listT s).size := by
 obtain ⟨n, hn⟩ : ∃ n, s.n = n + 1 := ⟨s.n - 1, by have := h.low; omega⟩;unfold listT;rw [hn, catL, ByteArray.size_append]
 have : 0 < (protoT (s.f n)).size := by
  unfold protoT headT;simp only [ByteArray.size_append];have : (⟨#[112, 114, 111, 116, 111, 32]⟩ : ByteArray).size = 6 := rfl;omega
 omega
theorem list_walk (c : Sl Int) (s : Sl PD) (hbd : Bnd s) (hD : ∀ w v, IsCode w v c → Calls Tryz.prog 4 #[v] w fun e w' => ∃ u, e = .returned (.agg #[u]) ∧ Below w.heap.size w w' ∧ qa0 (fun b => w.heap.size ≤ b ∧ b < w'.heap.size) w' u s) (v : Value) (w : World) (hC : IsCode w v c) (mm : Int) (hS : Tabs w mm) :
  Calls Tryz.prog 3 #[v] w fun e w' => e = .returned (.bool true) ∧ Below w.heap.size w w' := by
 obtain ⟨ao, cap, rfl⟩ := IsArr.slice hC.ints;have hsm := hC.small;have hI : ¬ (c.n : Int) > 1048576 := by omega
 have hcall1 : Hid _ := hD w _ hC;replace hD : Hid _ := hD;replace hC : Hid (IsCode w (.slice ao c.n cap) c) := hC;replace hS : Hid (Tabs w mm) := hS;replace hbd : Hid (Bnd s) := hbd;go_enter Tryz.func3, Tryz.ntmps3;go_wp2_with fail;refine Calls.mono hcall1.out ?_;rintro e y1 ⟨u1, rfl, b1, p1⟩;obtain ⟨a1, k1, rfl⟩ := protos_form p1;have c1 : Below y1.heap.size y1 (y1.alloc (.cells #[.slice a1 s.n k1] 25)) := (Below.refl _ _).alloc (Nat.le_refl _) _;have d1 := b1.trans (c1.mono b1.size);have hcall2 : Hid _ := hD.out _ _ (hC.out.later d1);have q1 := (p1.mono (fun _ h => h.2)).later c1;have r1 := RowL.new y1 [.slice a1 s.n k1] 25;replace q1 : Hid _ := q1;replace r1 : Hid _ := r1;replace d1 : Hid _ := d1;clear hcall1 p1 b1 c1;go_wp2_with fail;generalize y1.alloc (.cells #[.slice a1 s.n k1] 25) = y1' at hcall2 q1 r1 d1 ⊢;refine Calls.mono hcall2.out ?_;rintro e y2 ⟨u2, rfl, b2, p2⟩;obtain ⟨a2, k2, rfl⟩ := protos_form p2;have c2 : Below y2.heap.size y2 (y2.alloc (.cells #[.slice a2 s.n k2] 25)) := (Below.refl _ _).alloc (Nat.le_refl _) _;have d2 := b2.trans (c2.mono b2.size);have hT : TD w (y2.alloc (.cells #[.slice a2 s.n k2] 25)) s y1.heap.size y2.heap.size (.slice a1 s.n k1) (.slice a2 s.n k2) mm := ⟨RowL.call r1.out d2, RowL.new y2 [.slice a2 s.n k2] 25, qa0.later q1.out d2, (p2.mono (fun _ h => h.2)).later c2, hS.out.below (d1.out.trans (d2.mono d1.out.size)), d1.out.trans (d2.mono d1.out.size)⟩;have m3 := hT.r3.cell 0 rfl;replace hT : Hid _ := hT;clear p2 b2 c2 d2 q1 r1 d1 hcall2 hD hC hS;go_wp2_with fail;generalize y2.alloc (.cells #[.slice a2 s.n k2] 25) = z0 at hT m3 ⊢;generalize y1.heap.size = B3 at hT m3 ⊢;generalize y2.heap.size = B5 at hT ⊢;clear m3;refine Calls.mono (implList_in s _ z0 hT.out.p1 hbd.out hT.out.tb.env.pow hT.out.tb.env.spans hT.out.tb.nm) ?_;rintro e z1 ⟨hl, b1⟩;replace hT : Hid _ := hT.out.call b1;have m5 := hT.out.r5.cell 0 rfl;clear b1;by_cases hw : Wf s
 case neg =>
  obtain rfl : e = .returned (.string ⟨#[]⟩) := by
   rcases hl with ⟨h, _⟩ | ⟨_, h⟩
   ·exact absurd h hw
   ·exact h
  go_wp2_with fail;refine Calls.mono (specWF_in s _ z1 hT.out.p2) ?_;rintro e z2 ⟨⟨r, rfl, hr⟩, b2⟩
  obtain rfl : r = false := by
   cases r
   ·rfl
   ·exact absurd (hr.1 rfl) hw
  replace hT : Hid _ := hT.out.call b2;clear b2 m5 hr;go_wp2_with fail;go_ret;exact ⟨rfl, hT.out.bel⟩
 obtain rfl : e = .returned (.string (listT s)) := by
  rcases hl with ⟨_, h⟩ | ⟨h, _⟩
  ·exact h
  ·exact absurd hw h
 clear hl;have hpos := size_pos hw;generalize hX : listT s = X at hpos ⊢;replace hX : Hid _ := hX;replace hw : Hid (Wf s) := hw;go_wp2_with fail;refine Calls.mono (specWF_in s _ z1 hT.out.p2) ?_;rintro e z2 ⟨⟨r, rfl, hr⟩, b2⟩;obtain rfl : r = true := hr.2 hw.out;replace hT : Hid _ := hT.out.call b2;clear b2 m5 hr;have m5 := hT.out.r5.cell 0 rfl;go_wp2_with fail;refine Calls.mono (specList_in s _ z2 hT.out.p2 hbd.out) ?_;rintro e z3 ⟨hl, b3⟩
 obtain rfl : e = .returned (.string X) := by
  rcases hl with ⟨_, h⟩ | ⟨h, _⟩
  ·rw [h, hX.out]
  ·exact absurd hw.out h
 replace hT : Hid _ := hT.out.call b3;clear b3 m5 hl;by_cases hbig : (X.size : Int) > 60000
 ·go_wp2_with fail;go_ret;exact ⟨rfl, hT.out.bel⟩
 go_wp2_with fail;refine Calls.mono (implAsm_in X (by omega) z3 hT.out.tb.nm hT.out.tb.env mm hT.out.tb.ml) ?_;rintro e z4 ⟨b4, R, i, hR, -, hR2⟩;rw [← hX.out] at hR;obtain ⟨rfl, rfl⟩ := asm_list hw.out hbd.out hR;obtain ⟨v5, lo, -, rfl, hP5⟩ := (hR2 _ rfl).2 (back_wf hw.out);replace hP5 : qa0 (· < z4.heap.size) z4 v5 (backS s) := hP5;obtain ⟨a5, k5, rfl⟩ := protos_form hP5;replace hT : Hid _ := hT.out.call b4;have c5 : Below z4.heap.size z4 (z4.alloc (.cells #[.slice a5 (backS s).n k5] 25)) := (Below.refl _ _).alloc (Nat.le_refl _) _;have hT5 : Hid _ := hT.out.call c5;have r6 := RowL.new z4 [.slice a5 (backS s).n k5] 25;have hP6 : Hid _ := hP5.later c5;have m5 := hT5.out.r5.cell 0 rfl;have m6 := r6.cell 0 rfl;replace r6 : Hid _ := r6;clear hR hR2 b4 hP5 hT c5;go_wp2_with fail;generalize z4.alloc (.cells #[.slice a5 (backS s).n k5] 25) = z5 at hT5 r6 hP6 m5 m6 ⊢;refine Calls.mono (wSameChunk_in (backS s) s (backS_n s) (fun i hi => by rw [backS_f s hi]; exact same_built _) _ _ z5 hP6.out hT5.out.p2) ?_;rintro e z6 ⟨rfl, b6⟩;have hT7 : Hid _ := hT5.out.call b6;have hP7 : Hid _ := qa0.later hP6.out b6;have m7 := (RowL.call r6.out b6).cell 0 rfl;clear m5 m6 hT5 hP6 r6 b6;go_wp2_with fail;refine Calls.mono (implList_in (backS s) _ z6 hP7.out (back_bnd hbd.out) hT7.out.tb.env.pow hT7.out.tb.env.spans hT7.out.tb.nm) ?_;rintro e z7 ⟨hl, b7⟩
 obtain rfl : e = .returned (.string X) := by
  rcases hl with ⟨_, h⟩ | ⟨h, _⟩
  ·rw [h, list_same, hX.out]
  ·exact absurd (back_wf hw.out) h
 have hfin : Hid _ := (hT7.out.call b7).bel;have hpI : (0 : Int) < (X.size : Int) := by omega
 clear hl b7 m7 hP7 hT7;go_wp2_with fail;go_ret;exact ⟨by simp, hfin.out⟩
theorem lit_u32 {x : Int} (h : 0 ≤ x ∧ x ≤ 4294967295) : (Lit.int .u32 x).wf = true := by
 have hmin : IntKind.u32.min = 0 := rfl;have hmax : IntKind.u32.max = 4294967295 := rfl;simp only [Lit.wf, Bool.and_eq_true, decide_eq_true_eq];omega
theorem lit_i64 {x : Int} (h : -9223372036854775808 ≤ x ∧ x ≤ 9223372036854775807) : (Lit.int .i64 x).wf = true := by
 have hmin : IntKind.i64.min = -9223372036854775808 := rfl;have hmax : IntKind.i64.max = 9223372036854775807 := rfl;simp only [Lit.wf, Bool.and_eq_true, decide_eq_true_eq];omega
theorem drawList (c : Sl Int) : ∃ (PS : List PD), Bnd (slOf PS) ∧ ∀ w v, IsCode w v c → Calls Tryz.prog 4 #[v] w fun e w' => ∃ u, e = .returned (.agg #[u]) ∧ Below w.heap.size w w' ∧ qa0 (fun b => w.heap.size ≤ b ∧ b < w'.heap.size) w' u (slOf PS) := by
 obtain ⟨PS, P, hP, hl, hcw, hD⟩ := anyChunk c;refine ⟨PS, ⟨fun i hi j hj => lit_u32 (slOf_all (P := fun x : PD => ∀ j, j < x.code.n → 0 ≤ x.code.f j ∧ x.code.f j ≤ 4294967295) (fun x hx => (hcw x hx).1) i hi j hj), fun i hi j hj => lit_i64 (slOf_all (P := fun x : PD => ∀ j, j < x.consts.n → -9223372036854775808 ≤ (x.consts.f j).num ∧ (x.consts.f j).num ≤ 9223372036854775807) (fun x hx => (hcw x hx).2) i hi j hj)⟩, fun w v hC => ?_⟩;clear hcw;obtain ⟨ao, cap, rfl⟩ := hC.form;have hB0 : Below w.heap.size w (w.alloc (.cells #[.slice none 0 0] 25)) := (Below.refl _ _).alloc (Nat.le_refl _) _;have hC0 := hC.later hB0;have hcall : Hid _ := hD _ _ hC0;have hr0 : Hid (RowL (w.alloc (.cells #[.slice none 0 0] 25)) w.heap.size 25 [.slice none 0 0]) := RowL.new w [.slice none 0 0] 25;have hsz : Hid ((w.alloc (.cells #[.slice none 0 0] 25)).heap.size = w.heap.size + 1) := World.size_alloc _ _;clear hD hC0;go_enter Tryz.func4, Tryz.ntmps4;go_wp2_with fail;refine Calls.mono hcall.out ?_;rintro e y1 ⟨u, rfl, b1, hu⟩;obtain ⟨au, cu, rfl⟩ : ∃ a b, u = .slice a PS.length b := protos_form hu;rw [hsz.out] at hu;have hb1 := b1.size;rw [hsz.out] at hb1;have hB1 : Below y1.heap.size y1 (y1.alloc (.cells #[.slice au PS.length cu] 25)) := (Below.refl _ _).alloc (Nat.le_refl _) _;have hs1 : (y1.alloc (.cells #[.slice au PS.length cu] 25)).heap.size = y1.heap.size + 1 := World.size_alloc _ _;have hA : AC w y1.heap.size PS (.slice au PS.length cu) (y1.alloc (.cells #[.slice au PS.length cu] 25)) := ⟨(hr0.out.call b1).call hB1, RowL.new y1 [.slice au PS.length cu] 25, (hu.keep fun b hb => hB1.block b hb.2).mono fun b hb => ⟨by omega, by omega, by rw [hs1]; omega⟩, (hB0.trans (b1.mono (by rw [hsz.out]; omega))).trans (hB1.mono (by omega)), by omega⟩;clear hu hB1 hs1 hr0 hcall b1 hb1 hB0;have q0 := hA.r1.cell 0 rfl;have z0 := hA.r0.cell 0 rfl;have zf := hA.r0.frozen 0;have hfin := (hA.r0.set 0 (.slice au PS.length cu)).cell 0 rfl;have hF : Hid _ := hA.fin;clear hA;go_wp2_with fail;refine bodyPost_ret (v := .agg #[.slice au PS.length cu]) (by simp [results, Tryz.results4, go_sem, hfin]) rfl ⟨_, rfl, hF.out.1, hF.out.2⟩
theorem list_law (c : Sl Int) (v : Value) (w : World) (hC : IsCode w v c) (mm : Int) (hS : Tabs w mm) : Calls Tryz.prog 3 #[v] w fun e w' => e = .returned (.bool true) ∧ Below w.heap.size w w' := by
 obtain ⟨PS, hbd, hD⟩ := drawList c;exact list_walk c (slOf PS) hbd hD v w hC mm hS
theorem list_long (a0 : Option Addr) (n0 c0 : Nat) (w : World) (h : 1048576 < n0) (h1 : n0 ≤ 9223372036854775807) :
  Calls Tryz.prog 3 #[.slice a0 n0 c0] w fun e w' => e = .returned (.bool true) ∧ Below w.heap.size w w' := by
 have hI : (n0 : Int) > 1048576 := by omega
 go_enter Tryz.func3, Tryz.ntmps3;go_wp2_with fail;go_ret;exact ⟨rfl, by go_grown⟩
end Go.Proofs.YtplijnfaiofckaaGreatDoor

import Derived.Test.YtgcbkfckfgiigaaGreatDoorGa
import Derived.Test.YtgcbkfckfgiigaaGreatDoorGs
import Derived.Test.YtgcbkfckfgiigaaGreatDoorGp
namespace Go.Proofs.YtgcbkfckfgiigaaGreatDoor
open Go.RowKit Go.Shelf
set_option linter.unusedVariables false
set_option linter.unusedSimpArgs false
set_option maxRecDepth 100000
set_option maxHeartbeats 9000000
attribute [local go_sem] Oper.semAt_some
theorem hu_t (w : World) (bx pb po : Nat) (p : PD) (a3 a4 a5 : Value) (hP : PtrP w pb po p a3 a4 a5) (hbx : bx < w.heap.size) (hc : w.cell? ⟨bx, 0, none⟩ = some (.pointer (some ⟨pb, po, none⟩))) (ix : Int) :
  Calls Tryz.prog 112 #[.agg #[.bool true, .int .i64 ix], .pointer (some ⟨bx, 0, none⟩)] w fun e w' => Says e (ix < p.regs) ∧ Below w.heap.size w w' := by
 go_enter Tryz.func112, Tryz.ntmps112;go_wp2_with fail;have R0 := RowL.new w [.bool true, .int .i64 ix] 96;have bw : Below w.heap.size w (w.alloc (.cells #[.bool true, .int .i64 ix] 96)) := (Below.refl _ _).alloc (Nat.le_refl _) _;generalize w.alloc (.cells #[.bool true, .int .i64 ix] 96) = w0 at R0 bw ⊢;have r0 := R0.cell 0 rfl;have r1 := R0.cell 1 rfl;have hl := R0.lt;clear R0;have hP0 := hP.later bw;have p2 := hP0.c2;have p5 := hP0.c5;have hpb := hP0.lt;have hb0 : bx < w0.heap.size := Nat.lt_of_lt_of_le hbx bw.size;replace hc := (bw.cell (p := ⟨bx, 0, none⟩) hbx).trans hc;replace hP0 : Hid _ := hP0;replace hP : Hid _ := hP;go_wp2_with fail;have hd : OldS w0 w0.drew := OldS.of (Below.refl _ _).drew;refine wp_region_held_drew (S := OldS w0) (by kernel_rfl) hd (fun hH => ?_);refine tkd 0 6 (.pointer (some ⟨w.heap.size, 1, none⟩)) hd ?_;refine tkd 1 7 (.int .i64 ix) hd ?_;refine tkd 2 8 (.pointer (some ⟨pb, po, none⟩)) hd ?_;refine tkd 3 9 (.pointer (some ⟨pb, po, none⟩)) hd ?_;refine tkd 4 10 (.pointer (some ⟨pb, po + 2, none⟩)) hd ?_;refine tkd 5 11 (.int .i64 p.regs) hd ?_;refine tkd 6 12 (.bool (decide (ix < p.regs))) hd ?_;refine tkd 7 3 (.bool (decide (ix < p.regs))) hd ?_;refine wpAnyH_done (by kernel_rfl) ?_ _;clear hH hd r0 r1 p2 p5 hc;go_wp2_with fail;go_ret;exact ⟨⟨_, rfl, decide_eq_true_iff⟩, bw.drew⟩
theorem hu_f (w : World) (bx pb po : Nat) (p : PD) (a3 a4 a5 : Value) (hP : PtrP w pb po p a3 a4 a5) (hbx : bx < w.heap.size) (hc : w.cell? ⟨bx, 0, none⟩ = some (.pointer (some ⟨pb, po, none⟩))) (ix : Int) :
  Calls Tryz.prog 112 #[.agg #[.bool false, .int .i64 ix], .pointer (some ⟨bx, 0, none⟩)] w fun e w' => Says e (ix < (p.ups.n : Int)) ∧ Below w.heap.size w w' := by
 obtain ⟨ao, cp, rfl⟩ : ∃ ao cp, a5 = .slice ao p.ups.n cp := by obtain ⟨ao, cp, e, -⟩ := hP.ups; exact ⟨ao, cp, e⟩
 go_enter Tryz.func112, Tryz.ntmps112;go_wp2_with fail;have R0 := RowL.new w [.bool false, .int .i64 ix] 96;have bw : Below w.heap.size w (w.alloc (.cells #[.bool false, .int .i64 ix] 96)) := (Below.refl _ _).alloc (Nat.le_refl _) _;generalize w.alloc (.cells #[.bool false, .int .i64 ix] 96) = w0 at R0 bw ⊢;have r0 := R0.cell 0 rfl;have r1 := R0.cell 1 rfl;have hl := R0.lt;clear R0;have hP0 := hP.later bw;have p2 := hP0.c2;have p5 := hP0.c5;have hpb := hP0.lt;have hb0 : bx < w0.heap.size := Nat.lt_of_lt_of_le hbx bw.size;replace hc := (bw.cell (p := ⟨bx, 0, none⟩) hbx).trans hc;replace hP0 : Hid _ := hP0;replace hP : Hid _ := hP;go_wp2_with fail;have hd : OldS w0 w0.drew := OldS.of (Below.refl _ _).drew;refine wp_region_held_drew (S := OldS w0) (by kernel_rfl) hd (fun hH => ?_);refine tkd 0 13 (.pointer (some ⟨w.heap.size, 1, none⟩)) hd ?_;refine tkd 1 14 (.int .i64 ix) hd ?_;refine tkd 2 15 (.pointer (some ⟨pb, po, none⟩)) hd ?_;refine tkd 3 16 (.pointer (some ⟨pb, po, none⟩)) hd ?_;refine tkd 4 17 (.pointer (some ⟨pb, po + 5, none⟩)) hd ?_;refine tkd 5 18 (.slice ao p.ups.n cp) hd ?_;refine tkd 6 19 (.int .i64 (p.ups.n : Int)) hd ?_;refine tkd 7 20 (.bool (decide (ix < (p.ups.n : Int)))) hd ?_;refine tkd 8 3 (.bool (decide (ix < (p.ups.n : Int)))) hd ?_;refine wpAnyH_done (by kernel_rfl) ?_ _;clear hH hd r0 r1 p2 p5 hc;go_wp2_with fail;go_ret;exact ⟨⟨_, rfl, decide_eq_true_iff⟩, bw.drew⟩
theorem hu_in (w : World) (bx pb po : Nat) (p : PD) (a3 a4 a5 : Value) (hP : PtrP w pb po p a3 a4 a5) (hbx : bx < w.heap.size) (hc : w.cell? ⟨bx, 0, none⟩ = some (.pointer (some ⟨pb, po, none⟩))) (st : Bool) (ix : Int) :
  Calls Tryz.prog 112 #[.agg #[.bool st, .int .i64 ix], .pointer (some ⟨bx, 0, none⟩)] w fun e w' => Says e (ix < (if st then p.regs else (p.ups.n : Int))) ∧ Below w.heap.size w w' := by
 cases st with
 | true => exact (hu_t w bx pb po p a3 a4 a5 hP hbx hc ix).mono fun e w' ⟨h, hb⟩ => ⟨says_iff h (by simp), hb⟩
 | false => exact (hu_f w bx pb po p a3 a4 a5 hP hbx hc ix).mono fun e w' ⟨h, hb⟩ => ⟨says_iff h (by simp), hb⟩
theorem everyUpV_in (w : World) (bx pb po : Nat) (p : PD) (a3 a4 a5 : Value) (hP : PtrP w pb po p a3 a4 a5) (hbx : bx < w.heap.size) (hc : w.cell? ⟨bx, 0, none⟩ = some (.pointer (some ⟨pb, po, none⟩))) (k9 : PD) (o5 : Option Addr) (c5 : Nat) (hI : IsUps (· < w.heap.size) w (.slice o5 k9.ups.n c5) k9.ups) (hL : k9.ups.n ≤ 1048576) :
  Calls Tryz.prog 92 #[.slice o5 k9.ups.n c5, .func (.func 112) #[] #[.pointer (some ⟨bx, 0, none⟩)]] w fun e w' => Says e (UpsOk k9 p) ∧ Below w.heap.size w w' := by
 have hP9 : Hid (PtrP w pb po p a3 a4 a5) := hP;have hI9 : Hid (IsUps (· < w.heap.size) w (.slice o5 k9.ups.n c5) k9.ups) := hI;have hc9 : Hid (w.cell? ⟨bx, 0, none⟩ = some (.pointer (some ⟨pb, po, none⟩))) := hc;clear hP hI hc;go_enter Tryz.func92, Tryz.ntmps92;go_wp2_with fail;go_loopw [6, 9] (fun _ kv wr => ∃ k : Nat, kv = .int .i64 (k : Int) ∧ k ≤ k9.ups.n ∧ Hid (Below w.heap.size w wr ∧ ∀ i, i < k → (k9.ups.f i).index < (if (k9.ups.f i).stack then p.regs else (p.ups.n : Int)))) (fun _ kv _ => k9.ups.n - (intOf kv).toNat);case atStart => exact ⟨0, rfl, by omega, Below.refl _ _, fun j h => absurd h (by omega)⟩
 case round =>
  obtain ⟨k, rfl, hk, hT⟩ := hrel;obtain ⟨wA, hwA⟩ : ∃ x, x = wr := ⟨_, rfl⟩;subst hwA;obtain ⟨hB, hz⟩ := hT.out;by_cases hkL : k < k9.ups.n
  ·have hkI : (k : Int) < (k9.ups.n : Int) := by omega
   obtain ⟨st, hst⟩ : ∃ st, (k9.ups.f k).stack = st := ⟨_, rfl⟩;obtain ⟨ix, hix⟩ : ∃ ix, (k9.ups.f k).index = ix := ⟨_, rfl⟩
   obtain ⟨bl, ol, rfl, hbl, hcl, hcl1⟩ : ∃ bl ol, o5 = some ⟨bl, ol, none⟩ ∧ bl < wA.heap.size ∧ wA.cell? ⟨bl, ol + k * 2, none⟩ = some (.bool st) ∧ wA.cell? ⟨bl, ol + k * 2 + 1, none⟩ = some (.int .i64 ix) := by
    obtain ⟨b, o, e, hb, hc⟩ := ups_of_cells (IsArr.later hI9.out hB) (by omega);exact ⟨b, o, e, hb, by rw [← hst]; exact (hc k hkL).1, by rw [← hix]; exact (hc k hkL).2⟩
   have hic : Hid (∀ y, Below wA.heap.size wA y → Calls Tryz.prog 112 #[.agg #[.bool st, .int .i64 ix], .pointer (some ⟨bx, 0, none⟩)] y fun e w' => Says e (ix < (if st then p.regs else (p.ups.n : Int))) ∧ Below y.heap.size y w') := fun y hy => by
    have hy2 := hB.trans (hy.mono hB.size);exact hu_in y bx pb po p a3 a4 a5 (hP9.out.later hy2) (Nat.lt_of_lt_of_le hbx hy2.size) ((hy2.cell (p := ⟨bx, 0, none⟩) hbx).trans hc9.out) st ix
   go_wp2_with fail;refine (hic.out _ ?_).mono ?_
   ·exact (Below.refl _ _).alloc (Nat.le_refl _) _
   rintro e y ⟨⟨r, rfl, hr⟩, b9⟩;have bF : Below w.heap.size w y := (hB.alloc hB.size _).trans (b9.mono (hB.alloc hB.size _).size);clear b9 hic
   cases r with
   | true =>
    have T1 : Hid (Below w.heap.size w y ∧ ∀ i, i < k + 1 → (k9.ups.f i).index < (if (k9.ups.f i).stack then p.regs else (p.ups.n : Int))) := ⟨bF, fun j hj => by by_cases e : j = k; (subst e; rw [hst, hix]; exact hr.1 rfl); exact hz j (by omega)⟩;replace hst : Hid _ := hst;replace hix : Hid _ := hix;clear hr hz hT hB bF;go_wp2_with fail;go_roundw;case rel => exact ⟨k + 1, by go_num, by omega, T1.out⟩
    case measure => simp [intOf]; omega
   | false =>
    have hno : Hid (¬ UpsOk k9 p) := fun h => by have h9 := h k hkL; rw [hst, hix] at h9; simpa using hr.2 h9
    replace hst : Hid _ := hst;replace hix : Hid _ := hix;clear hr hz hT hB;go_wp2_with fail;go_ret;exact ⟨says_no hno.out, bF⟩
  ·have hkI : ¬ ((k : Int) < (k9.ups.n : Int)) := by omega
   have hyes : Hid (UpsOk k9 p) := fun j hx => hz j (by omega);clear hz hT;go_wp2_with fail;go_ret;exact ⟨says_yes hyes.out, hB⟩
theorem hasUpsFor_in (w : World) (pb po : Nat) (p : PD) (a3 a4 a5 : Value) (hP : PtrP w pb po p a3 a4 a5) (kb ko : Nat) (k9 : PD) (b3 b4 b5 : Value) (hK : PtrP w kb ko k9 b3 b4 b5) (hL : k9.ups.n ≤ 1048576) :
  Calls Tryz.prog 104 #[.pointer (some ⟨pb, po, none⟩), .pointer (some ⟨kb, ko, none⟩)] w fun e w' => Says e (UpsOk k9 p) ∧ Below w.heap.size w w' := by
 obtain ⟨o5, c5, rfl⟩ : ∃ o5 c5, b5 = .slice o5 k9.ups.n c5 := by obtain ⟨ao, cp, e, -⟩ := hK.ups; exact ⟨ao, cp, e⟩
 have k5 := hK.c5;have hkb := hK.lt;have hP9 : Hid (PtrP w pb po p a3 a4 a5) := hP;have hK9 : Hid (PtrP w kb ko k9 b3 b4 (.slice o5 k9.ups.n c5)) := hK;clear hP hK;go_enter Tryz.func104, Tryz.ntmps104;go_wp2_with fail;have R0 := RowL.new w [.pointer (some ⟨pb, po, none⟩)] 59;have bw : Below w.heap.size w (w.alloc (.cells #[.pointer (some ⟨pb, po, none⟩)] 59)) := (Below.refl _ _).alloc (Nat.le_refl _) _;generalize w.alloc (.cells #[.pointer (some ⟨pb, po, none⟩)] 59) = w0 at R0 bw ⊢;refine (everyUpV_in w0 w.heap.size pb po p a3 a4 a5 (hP9.out.later bw) R0.lt (R0.cell 0 rfl) k9 o5 c5 (hK9.out.later bw).ups hL).mono ?_;rintro e y ⟨⟨r, rfl, hr⟩, b9⟩;have bF := bw.trans (b9.mono bw.size);replace hr : Hid _ := hr;clear b9 R0;go_wp2_with fail;go_ret;exact ⟨⟨_, rfl, hr.out⟩, bF⟩
end Go.Proofs.YtgcbkfckfgiigaaGreatDoor
namespace Go.Proofs.YtgcbkfckfgiigaaGreatDoor
open Go.RowKit Go.Shelf
set_option linter.unusedVariables false
set_option linter.unusedSimpArgs false
set_option maxRecDepth 100000
set_option maxHeartbeats 9000000
attribute [local go_sem] Oper.semAt_some
structure Ver (w : World) (VB : Nat) (s : Sl PD) (b o cap be oe ce : Nat) : Prop where
 lt : VB < w.heap.size
 c0 : w.cell? ⟨VB, 0, none⟩ = some (.slice (some ⟨b, o, none⟩) s.n cap)
 c1 : w.cell? ⟨VB, 1, none⟩ = some (.slice (some ⟨be, oe, none⟩) s.n ce)
 pr : ∀ k, k < s.n → ∃ ac cc o4 c4 o5 c5 o8 c8 o9 c9, PrAt w b (o + k * 10) (s.f k) ac cc o4 c4 o5 c5 o8 c8 o9 c9
 bl : be < w.heap.size
 en : ∀ i, i < s.n → w.cell? ⟨be, oe + i, none⟩ = some (.int .i64 (EE (kidsOf s) s.n i : Int))
theorem Ver.later {w w' : World} {VB : Nat} {s : Sl PD} {b o cap be oe ce : Nat} (h : Ver w VB s b o cap be oe ce) (hb : Below w.heap.size w w') : Ver w' VB s b o cap be oe ce :=
 ⟨Nat.lt_of_lt_of_le h.lt hb.size, (hb.cell (p := ⟨VB, 0, none⟩) h.lt).trans h.c0, (hb.cell (p := ⟨VB, 1, none⟩) h.lt).trans h.c1, fun k hk => by obtain ⟨_, _, _, _, _, _, _, _, _, _, h⟩ := h.pr k hk; exact ⟨_, _, _, _, _, _, _, _, _, _, h.later hb⟩, Nat.lt_of_lt_of_le h.bl hb.size, fun i hi => (hb.cell (p := ⟨be, oe + i, none⟩) h.bl).trans (h.en i hi)⟩
theorem ut_root (w : World) (VB : Nat) (s : Sl PD) (b o cap be oe ce : Nat) (hV : Ver w VB s b o cap be oe ce) (hw : Wf s) (hk : 0 < s.n) (hu : 0 < (s.f 0).ups.n) :
  Calls Tryz.prog 72 #[.pointer (some ⟨VB, 0, none⟩), .int .i64 0] w fun e w' => Says e (Desc (EE (kidsOf s) s.n) s 0) ∧ Below w.heap.size w w' := by
 have hno : Hid (¬ Desc (EE (kidsOf s) s.n) s 0) := fun h => by have := h.root rfl; omega
 obtain ⟨ac, cc, o4, c4, o5, c5, o8, c8, o9, c9, hp⟩ := hV.pr 0 hk;have p5 := hp.f5;rw [Nat.zero_mul, Nat.add_zero] at p5;have v0 := hV.c0;have hl := hV.lt;have hlb := hp.lt;have hkI : (0 : Int) < (s.n : Int) := by omega
 have hsm := (SmallP.of (hw.each 0 hk)).1;have huI : (0 : Int) < ((s.f 0).ups.n : Int) := by omega
 have hn := hw.high;replace hp : Hid _ := hp;replace hV : Hid _ := hV;replace hw : Hid _ := hw;go_enter Tryz.func72, Tryz.ntmps72;go_wp2_with fail;go_ret;exact ⟨says_no hno.out, by go_grown⟩
theorem ut_rest (w : World) (VB : Nat) (s : Sl PD) (b o cap be oe ce : Nat) (hV : Ver w VB s b o cap be oe ce) (hw : Wf s) (k : Nat) (hk : k < s.n) (q : Bool) (hq : ((k : Int) == 0) = q) (hu : Hid (k = 0 → (s.f 0).ups.n = 0)) (hz : Hid (q = true → (s.f k).ups.n = 0)) :
  Calls Tryz.prog 72 #[.pointer (some ⟨VB, 0, none⟩), .int .i64 (k : Int)] w fun e w' => Says e (Desc (EE (kidsOf s) s.n) s k) ∧ Below w.heap.size w w' := by
 obtain ⟨ac, cc, o4, c4, o5, c5, o8, c8, o9, c9, hp⟩ := hV.pr k hk;have p5 := hp.f5;have v0 := hV.c0;have hl := hV.lt;have hlb := hp.lt;have hkI : (k : Int) < (s.n : Int) := by omega
 have hsm := (SmallP.of (hw.each k hk)).1;have hn := hw.high;have hko := kids_of hw hk;replace hko : Hid _ := hko;replace hp : Hid (PrAt w b (o + k * 10) (s.f k) ac cc o4 c4 o5 c5 o8 c8 o9 c9) := hp;replace hV : Hid (Ver w VB s b o cap be oe ce) := hV;replace hw : Hid (Wf s) := hw;have hwk : IntKind.i64.wrap ((k : Int) + 1) = (k : Int) + 1 := by simp [IntKind.wrap, IntKind.bits, IntKind.signed]; omega
 have s0 : Hid (Below w.heap.size w w ∧ ∀ i, i < 0 → UpsOk (s.f (kidAt (EE (kidsOf s) s.n) k i)) (s.f k)) := ⟨Below.refl _ _, fun i h => absurd h (by omega)⟩;go_enter Tryz.func72, Tryz.ntmps72
 cases q with
 | true =>
  have h0 := hz.out rfl;rw [h0] at p5 hsm;replace h0 : Hid _ := h0;go_wp2_with fail;go_loopw [6] (fun kv wr => ∃ j : Nat, kv = .int .i64 ((kidAt (EE (kidsOf s) s.n) k j : Nat) : Int) ∧ j ≤ (s.f k).kids.toNat ∧ Hid (Below w.heap.size w wr ∧ ∀ i, i < j → UpsOk (s.f (kidAt (EE (kidsOf s) s.n) k i)) (s.f k))) (fun kv _ => s.n + 1 - (intOf kv).toNat);case atStart => exact ⟨0, by show _ = Value.int .i64 ((k + 1 : Nat) : Int); rw [Int.natCast_add]; rfl, by omega, s0.out⟩
  case round =>
   obtain ⟨j, rfl, hj, hT⟩ := hrel;obtain ⟨wA, hwA⟩ : ∃ x, x = wr := ⟨_, rfl⟩;subst hwA;clear s0;obtain ⟨hB, hU⟩ := hT.out;have hVA := hV.out.later hB;have w0 := hVA.c0;have w1 := hVA.c1;have hlA := hVA.lt;have hbe := hVA.bl;have en := hVA.en k hk;obtain ⟨x, hx9⟩ : ∃ x, kidAt (EE (kidsOf s) s.n) k j = x := ⟨_, rfl⟩;rw [hx9];obtain ⟨ek, hek⟩ : ∃ ek, EE (kidsOf s) s.n k = ek := ⟨_, rfl⟩;rw [hek] at en;have hE2 := hko.out.2.2.1;have hE3 := hko.out.2.2.2.1;rw [hek] at hE2 hE3;by_cases hlt : j < (s.f k).kids.toNat
   ·have hxx := hko.out.2.2.2.2.2 j hlt;rw [hx9, hek] at hxx;have hxn : x < s.n := by omega
    have hxI : (x : Int) < (s.n : Int) := by omega
    have hxe : (x : Int) < (ek : Int) := by omega
    have hkx := kids_of hw.out hxn;have enx := hVA.en x hxn;obtain ⟨ex, hex⟩ : ∃ ex, EE (kidsOf s) s.n x = ex := ⟨_, rfl⟩;rw [hex] at enx;have hx1 := hkx.2.1;have hx2 := hkx.2.2.1;rw [hex] at hx1 hx2;obtain ⟨ac', cc', o4', c4', o5', c5', o8', c8', o9', c9', hq9⟩ := hVA.pr x hxn;have hhu : Hid (Calls Tryz.prog 104 #[.pointer (some ⟨b, o + k * 10, none⟩), .pointer (some ⟨b, o + x * 10, none⟩)] wA fun e w' => Says e (UpsOk (s.f x) (s.f k)) ∧ Below wA.heap.size wA w') := hasUpsFor_in wA b (o + k * 10) (s.f k) _ _ _ (hp.out.later hB).ptr b (o + x * 10) (s.f x) _ _ _ hq9.ptr (SmallP.of (hw.out.each x hxn)).1;replace hx9 : Hid (kidAt (EE (kidsOf s) s.n) k j = x) := hx9;replace hek : Hid (EE (kidsOf s) s.n k = ek) := hek;replace hex : Hid (EE (kidsOf s) s.n x = ex) := hex;replace hVA : Hid (Ver wA VB s b o cap be oe ce) := hVA;clear hq9 hkx hE3;go_wp2_with fail;refine hhu.out.mono ?_;rintro e y ⟨⟨r, rfl, hr⟩, b9⟩;have bF := hB.trans (b9.mono hB.size);have y1 := (b9.cell (p := ⟨VB, 1, none⟩) hlA).trans w1;have hly := Nat.lt_of_lt_of_le hlA b9.size;have hbey := Nat.lt_of_lt_of_le hbe b9.size;have eny := (b9.cell (p := ⟨be, oe + x, none⟩) hbe).trans enx;clear b9 hhu w0 w1 en enx
    cases r with
    | true =>
     have T1 : Hid (Below w.heap.size w y ∧ ∀ i, i < j + 1 → UpsOk (s.f (kidAt (EE (kidsOf s) s.n) k i)) (s.f k)) := ⟨bF, fun i hi => by by_cases e : i = j; (subst e; rw [hx9.out]; exact hr.1 rfl); exact hU i (by omega)⟩;have hnx : Hid (kidAt (EE (kidsOf s) s.n) k (j + 1) = ex) := by show EE (kidsOf s) s.n (kidAt (EE (kidsOf s) s.n) k j) = ex; rw [hx9.out, hex.out]
     clear hr hU hT hB bF;go_wp2_with fail;go_roundw;case rel => exact ⟨j + 1, by rw [hnx.out], by omega, T1.out⟩
     case measure => simp [intOf]; omega
    | false =>
     have hno : Hid (¬ Desc (EE (kidsOf s) s.n) s k) := fun h => by have h7 := h.kids j (by omega); rw [hx9.out] at h7; simpa using hr.2 h7
     clear hr hU hT hB;go_wp2_with fail;go_ret;exact ⟨says_no hno.out, bF⟩
   ·have hjk : j = (s.f k).kids.toNat := by omega
    have hyes : Hid (Desc (EE (kidsOf s) s.n) s k) := ⟨fun h => by subst h; exact hu.out rfl, fun i hi => hU i (by omega)⟩;have hxe : ¬ ((x : Int) < (ek : Int)) := by rw [← hjk, hx9] at hE3; omega
    replace hx9 : Hid _ := hx9;replace hek : Hid _ := hek;replace hjk : Hid _ := hjk;clear hT hU hE3;go_wp2_with fail;go_ret;exact ⟨says_yes hyes.out, hB⟩
 | false =>
  go_wp2_with fail;go_loopw [6] (fun kv wr => ∃ j : Nat, kv = .int .i64 ((kidAt (EE (kidsOf s) s.n) k j : Nat) : Int) ∧ j ≤ (s.f k).kids.toNat ∧ Hid (Below w.heap.size w wr ∧ ∀ i, i < j → UpsOk (s.f (kidAt (EE (kidsOf s) s.n) k i)) (s.f k))) (fun kv _ => s.n + 1 - (intOf kv).toNat);case atStart => exact ⟨0, by show _ = Value.int .i64 ((k + 1 : Nat) : Int); rw [Int.natCast_add]; rfl, by omega, s0.out⟩
  case round =>
   obtain ⟨j, rfl, hj, hT⟩ := hrel;obtain ⟨wA, hwA⟩ : ∃ x, x = wr := ⟨_, rfl⟩;subst hwA;clear s0;obtain ⟨hB, hU⟩ := hT.out;have hVA := hV.out.later hB;have w0 := hVA.c0;have w1 := hVA.c1;have hlA := hVA.lt;have hbe := hVA.bl;have en := hVA.en k hk;obtain ⟨x, hx9⟩ : ∃ x, kidAt (EE (kidsOf s) s.n) k j = x := ⟨_, rfl⟩;rw [hx9];obtain ⟨ek, hek⟩ : ∃ ek, EE (kidsOf s) s.n k = ek := ⟨_, rfl⟩;rw [hek] at en;have hE2 := hko.out.2.2.1;have hE3 := hko.out.2.2.2.1;rw [hek] at hE2 hE3;by_cases hlt : j < (s.f k).kids.toNat
   ·have hxx := hko.out.2.2.2.2.2 j hlt;rw [hx9, hek] at hxx;have hxn : x < s.n := by omega
    have hxI : (x : Int) < (s.n : Int) := by omega
    have hxe : (x : Int) < (ek : Int) := by omega
    have hkx := kids_of hw.out hxn;have enx := hVA.en x hxn;obtain ⟨ex, hex⟩ : ∃ ex, EE (kidsOf s) s.n x = ex := ⟨_, rfl⟩;rw [hex] at enx;have hx1 := hkx.2.1;have hx2 := hkx.2.2.1;rw [hex] at hx1 hx2;obtain ⟨ac', cc', o4', c4', o5', c5', o8', c8', o9', c9', hq9⟩ := hVA.pr x hxn;have hhu : Hid (Calls Tryz.prog 104 #[.pointer (some ⟨b, o + k * 10, none⟩), .pointer (some ⟨b, o + x * 10, none⟩)] wA fun e w' => Says e (UpsOk (s.f x) (s.f k)) ∧ Below wA.heap.size wA w') := hasUpsFor_in wA b (o + k * 10) (s.f k) _ _ _ (hp.out.later hB).ptr b (o + x * 10) (s.f x) _ _ _ hq9.ptr (SmallP.of (hw.out.each x hxn)).1;replace hx9 : Hid (kidAt (EE (kidsOf s) s.n) k j = x) := hx9;replace hek : Hid (EE (kidsOf s) s.n k = ek) := hek;replace hex : Hid (EE (kidsOf s) s.n x = ex) := hex;replace hVA : Hid (Ver wA VB s b o cap be oe ce) := hVA;clear hq9 hkx hE3;go_wp2_with fail;refine hhu.out.mono ?_;rintro e y ⟨⟨r, rfl, hr⟩, b9⟩;have bF := hB.trans (b9.mono hB.size);have y1 := (b9.cell (p := ⟨VB, 1, none⟩) hlA).trans w1;have hly := Nat.lt_of_lt_of_le hlA b9.size;have hbey := Nat.lt_of_lt_of_le hbe b9.size;have eny := (b9.cell (p := ⟨be, oe + x, none⟩) hbe).trans enx;clear b9 hhu w0 w1 en enx
    cases r with
    | true =>
     have T1 : Hid (Below w.heap.size w y ∧ ∀ i, i < j + 1 → UpsOk (s.f (kidAt (EE (kidsOf s) s.n) k i)) (s.f k)) := ⟨bF, fun i hi => by by_cases e : i = j; (subst e; rw [hx9.out]; exact hr.1 rfl); exact hU i (by omega)⟩;have hnx : Hid (kidAt (EE (kidsOf s) s.n) k (j + 1) = ex) := by show EE (kidsOf s) s.n (kidAt (EE (kidsOf s) s.n) k j) = ex; rw [hx9.out, hex.out]
     clear hr hU hT hB bF;go_wp2_with fail;go_roundw;case rel => exact ⟨j + 1, by rw [hnx.out], by omega, T1.out⟩
     case measure => simp [intOf]; omega
    | false =>
     have hno : Hid (¬ Desc (EE (kidsOf s) s.n) s k) := fun h => by have h7 := h.kids j (by omega); rw [hx9.out] at h7; simpa using hr.2 h7
     clear hr hU hT hB;go_wp2_with fail;go_ret;exact ⟨says_no hno.out, bF⟩
   ·have hjk : j = (s.f k).kids.toNat := by omega
    have hyes : Hid (Desc (EE (kidsOf s) s.n) s k) := ⟨fun h => by subst h; exact hu.out rfl, fun i hi => hU i (by omega)⟩;have hxe : ¬ ((x : Int) < (ek : Int)) := by rw [← hjk, hx9] at hE3; omega
    replace hx9 : Hid _ := hx9;replace hek : Hid _ := hek;replace hjk : Hid _ := hjk;clear hT hU hE3;go_wp2_with fail;go_ret;exact ⟨says_yes hyes.out, hB⟩
theorem upsThere_in (w : World) (VB : Nat) (s : Sl PD) (b o cap be oe ce : Nat) (hV : Ver w VB s b o cap be oe ce) (hw : Wf s) (k : Nat) (hk : k < s.n) :
  Calls Tryz.prog 72 #[.pointer (some ⟨VB, 0, none⟩), .int .i64 (k : Int)] w fun e w' => Says e (Desc (EE (kidsOf s) s.n) s k) ∧ Below w.heap.size w w' := by
 by_cases h0 : k = 0
 ·subst h0;by_cases hu : 0 < (s.f 0).ups.n
  ·exact ut_root w VB s b o cap be oe ce hV hw hk hu
  ·exact ut_rest w VB s b o cap be oe ce hV hw 0 hk true (by simp) (show Hid _ from fun _ => by omega) (show Hid _ from fun _ => by omega)
 ·exact ut_rest w VB s b o cap be oe ce hV hw k hk false (by simp; omega) (show Hid _ from fun h => absurd h h0) (show Hid _ from fun h => by simp at h)
end Go.Proofs.YtgcbkfckfgiigaaGreatDoor

import Derived.Test.YtplijnfaiofckaaGreatDoorGq
namespace Go.Proofs.YtplijnfaiofckaaGreatDoor
open Go.RowKit
set_option linter.unusedVariables false
set_option linter.unusedSimpArgs false
set_option maxRecDepth 100000
set_option maxHeartbeats 9000000
structure LP (p : PD) : Prop where
 par : 0 ≤ p.params ∧ p.params ≤ 1000
 regs : 0 ≤ p.regs ∧ p.regs ≤ 1000
 kids : 0 ≤ p.kids ∧ p.kids ≤ 1000
 nc : p.consts.n ≤ 500
 nu : p.ups.n ≤ 60
 nw : p.code.n ≤ 2000
 plain : ∀ i, i < p.consts.n → Plain (p.consts.f i)
 nums : ∀ i, i < p.consts.n → -9223372036854775808 ≤ (p.consts.f i).num ∧ (p.consts.f i).num ≤ 9223372036854775807
 upx : ∀ i, i < p.ups.n → NumOk (p.ups.f i).index
 words : ∀ i, i < p.code.n → 0 ≤ p.code.f i ∧ p.code.f i ≤ 4294967295
theorem b_u32 {z : Int} (h : (Lit.int .u32 z).wf = true) : 0 ≤ z ∧ z ≤ 4294967295 := by
 simp [Lit.wf, IntKind.min, IntKind.max, IntKind.signed, IntKind.bits] at h;omega
theorem b_i64 {z : Int} (h : (Lit.int .i64 z).wf = true) : -9223372036854775808 ≤ z ∧ z ≤ 9223372036854775807 := by
 simp [Lit.wf, IntKind.min, IntKind.max, IntKind.signed, IntKind.bits] at h;omega
theorem lp_of {s : Sl PD} (hwf : Wf s) (hbd : Bnd s) (i : Nat) (hi : i < s.n) : LP (s.f i) := by
 have ok := hwf.each i hi;have h1 := ok.regs1;have h2 := ok.regs2;have h3 := ok.par1;have h4 := ok.par2;obtain ⟨h, ht, _⟩ := hwf.tree;obtain ⟨e, g, ho⟩ := Fo.within ht i (Nat.zero_le _) hi;obtain ⟨g', _, _, hk0, hk⟩ := Fo.one ho;have hle := Fo.le hk;have hhi := hwf.high
 have hk1 : kidsOf s i ≤ 1000 := by
  by_cases hz : 0 < (kidsOf s i).toNat
  ·have := hle.2 hz;omega
  ·omega
 exact ⟨by omega, by omega, ⟨hk0, hk1⟩, ok.consts, ok.ups, ok.code2, ok.allConsts, fun j hj => b_i64 (hbd.nums i hi j hj), ok.allUps, fun j hj => b_u32 (hbd.code i hi j hj)⟩
theorem constT_size {d : VD} (h : Plain d) (h0 : -9223372036854775808 ≤ d.num) (h1 : d.num ≤ 9223372036854775807) : (constT d ++ ⟨#[10]⟩).size ≤ 2100 := by
 have hd := qa4 d.num h0 h1;have hx := hexB_size d.text;have ht : d.text.size ≤ 1000 := by unfold Plain at h; omega
 unfold constT
 repeat' split
 all_goals simp only [ByteArray.size_append]
 all_goals first | decide | skip
 all_goals
  have e1 : (⟨#[99, 111, 110, 115, 116, 32, 105, 110, 116, 32]⟩ : ByteArray).size = 10 := rfl;have e2 : (⟨#[99, 111, 110, 115, 116, 32, 116, 101, 120, 116, 32]⟩ : ByteArray).size = 11 := rfl;have e3 : (⟨#[10]⟩ : ByteArray).size = 1 := rfl;omega
theorem upT_size {u : UD} (h : NumOk u.index) : (upT u ++ ⟨#[10]⟩).size ≤ 100 := by
 unfold NumOk at h;have hd := qa4 u.index (by omega) (by omega);unfold upT;simp only [ByteArray.size_append];have e1 : (⟨#[117, 112, 32, 115, 116, 97, 99, 107, 32]⟩ : ByteArray).size = 9 := rfl;have e2 : (⟨#[117, 112, 32, 99, 101, 108, 108, 32]⟩ : ByteArray).size = 8 := rfl;have e3 : (⟨#[10]⟩ : ByteArray).size = 1 := rfl;split <;> omega
theorem wordT_size {z : Int} (h1 : 0 ≤ z) (h2 : z ≤ 4294967295) : (wordT z ++ ⟨#[10]⟩).size ≤ 200 := by
 have hz := qa4 z (by omega) (by omega);have ha := qa4 (aW z) (by unfold aW; omega) (by unfold aW; omega);have hb := qa4 (bW z) (by unfold bW; omega) (by unfold bW; omega);have hc := qa4 (cW z) (by unfold cW; omega) (by unfold cW; omega);have hs := qa4 (sW z) (by unfold sW bW cW; omega) (by unfold sW bW cW; omega);have ho : 0 ≤ opW z := by unfold opW; omega
 have e0 : spB.size = 1 := rfl;have e1 : (⟨#[119, 111, 114, 100, 32]⟩ : ByteArray).size = 5 := rfl;have e3 : (⟨#[10]⟩ : ByteArray).size = 1 := rfl;unfold wordT;by_cases hop : 33 < opW z
 ·rw [if_pos hop];simp only [ByteArray.size_append];omega
 ·have hn := nm_size (k := (opW z).toNat) (by omega);rw [if_neg hop];split
  ·simp only [ByteArray.size_append];omega
  ·simp only [ByteArray.size_append];omega
theorem qc8 {p : PD} (h : LP p) : (headT p ++ ⟨#[10]⟩).size ≤ 200 := by
 have h1 := h.par;have h2 := h.regs;have h3 := h.kids;have ha := qa4 p.params (by omega) (by omega);have hb := qa4 p.regs (by omega) (by omega);have hc := qa4 p.kids (by omega) (by omega);have e0 : spB.size = 1 := rfl;have e1 : (⟨#[112, 114, 111, 116, 111, 32]⟩ : ByteArray).size = 6 := rfl;have e2 : (⟨#[32, 118, 97, 114, 97, 114, 103]⟩ : ByteArray).size = 7 := rfl;have e3 : (⟨#[10]⟩ : ByteArray).size = 1 := rfl;have e4 : (⟨#[]⟩ : ByteArray).size = 0 := rfl;unfold headT;simp only [ByteArray.size_append];split <;> omega
def headW (p : PD) : List ByteArray := if p.vararg then [⟨#[112, 114, 111, 116, 111]⟩, joinB [dec p.params, dec p.regs, dec p.kids], ⟨#[118, 97, 114, 97, 114, 103]⟩] else [⟨#[112, 114, 111, 116, 111]⟩, joinB [dec p.params, dec p.regs, dec p.kids]]
theorem headW_line (p : PD) : lineB (headW p) = headT p ++ ⟨#[10]⟩ := by
 unfold lineB headW headT
 congr 1
 have e1 : (⟨#[112, 114, 111, 116, 111]⟩ : ByteArray) ++ spB = ⟨#[112, 114, 111, 116, 111, 32]⟩ := rfl;have e2 : spB ++ (⟨#[118, 97, 114, 97, 114, 103]⟩ : ByteArray) = ⟨#[32, 118, 97, 114, 97, 114, 103]⟩ := rfl;have e3 : (⟨#[]⟩ : ByteArray) = ByteArray.empty := rfl
 cases p.vararg
 ·simp only [qa6, qb1, Bool.false_eq_true, if_false, e1, e3, ByteArray.append_empty];simp only [← ByteArray.append_assoc]
 ·simp only [qa6, qb1, if_true, e1, ← e2];simp only [← ByteArray.append_assoc]
theorem headW_size {p : PD} (h : LP p) : (joinB (headW p)).size ≤ 100000 := by
 have h1 := qc8 h;rw [← headW_line, lineB_size] at h1;omega
theorem catL_zero (f : Nat → ByteArray) : catL f 0 = ByteArray.empty := rfl
theorem catL_succ (f : Nat → ByteArray) (n : Nat) : catL f (n + 1) = catL f n ++ f n := rfl
theorem qg7 {p : PD} (h : LP p) {k : Nat} (hk : k ≤ p.consts.n) : (catL (fun i => constT (p.consts.f i) ++ ⟨#[10]⟩) k).size ≤ 1050000 := by
 have := h.nc;have h1 := catL_size (f := fun i => constT (p.consts.f i) ++ ⟨#[10]⟩) (b := 2100) k fun i hi => constT_size (h.plain i (by omega)) (h.nums i (by omega)).1 (h.nums i (by omega)).2;omega
theorem catU_size {p : PD} (h : LP p) {k : Nat} (hk : k ≤ p.ups.n) : (catL (fun i => upT (p.ups.f i) ++ ⟨#[10]⟩) k).size ≤ 6000 := by
 have := h.nu;have h1 := catL_size (f := fun i => upT (p.ups.f i) ++ ⟨#[10]⟩) (b := 100) k fun i hi => upT_size (h.upx i (by omega));omega
theorem catW_size {p : PD} (h : LP p) {k : Nat} (hk : k ≤ p.code.n) : (catL (fun i => wordT (p.code.f i) ++ ⟨#[10]⟩) k).size ≤ 400000 := by
 have := h.nw;have h1 := catL_size (f := fun i => wordT (p.code.f i) ++ ⟨#[10]⟩) (b := 200) k fun i hi => wordT_size (h.words i (by omega)).1 (h.words i (by omega)).2;omega
theorem protoT_size {p : PD} (h : LP p) : (protoT p).size ≤ 2000000 := by
 have h1 := qc8 h;have h2 := qg7 h (Nat.le_refl _);have h3 := catU_size h (Nat.le_refl _);have h4 := catW_size h (Nat.le_refl _);unfold protoT;simp only [ByteArray.size_append] at *;omega
theorem arr_at {lo : Nat} {y : World} {ao : Option Addr} {n cap z : Nat} {C : Nat → Nat → Value} (h : IsArr (· < lo) y (.slice ao n cap) z n C) (hn : 0 < n) :
  ∃ b o, ao = some ⟨b, o, none⟩ ∧ b < lo ∧ ∀ w : World, Below lo y w → ∀ i, i < n → ∀ j, j < z → w.cell? ⟨b, o + i * z + j, none⟩ = some (C i j) := by
 obtain ⟨ao', cap', he, _, hc⟩ := h;simp only [Value.slice.injEq] at he;obtain ⟨rfl, _, rfl⟩ := he;obtain ⟨b, o, rfl, hb, hcc⟩ := hc hn;exact ⟨b, o, rfl, hb, fun w hw i hi j hj => (hw.cell (p := ⟨b, _, none⟩) hb).trans (hcc i hi j hj)⟩
theorem usL : usTab.toList.length = 640 := by rw [Array.length_toList, qe6]
theorem lw0 {P : Nat} {U : List Value} {w0 y : World} {v0 v : Value} {X : ByteArray} (f : Nat → ByteArray) (h : Lw P U w0 v0 y v X) : Lw P U w0 v0 y v (X ++ catL f 0) := by
 rw [catL_zero, ByteArray.append_empty];exact h
theorem lwS {P : Nat} {U : List Value} {w0 y : World} {v0 v : Value} {X : ByteArray} (f : Nat → ByteArray) (i : Nat) (h : Lw P U w0 v0 y v (X ++ catL f i ++ f i)) : Lw P U w0 v0 y v (X ++ catL f (i + 1)) := by
 rw [catL_succ, ← ByteArray.append_assoc];exact h
theorem lproto_in (P : Nat) (p : PD) (a3 a4 a5 a8 a9 : Value) (wI : World) (hpt : PowTab wI) (hsp : Spans wI) (hnm : Named wI) (w0 : World) (v0 : Value) (y : World) (v : Value) (X : ByteArray) (h : Lw P usTab.toList w0 v0 y v X) (hbe : Below wI.heap.size wI y) (hP : wI.heap.size ≤ P) (hv : ∀ k, v.ownBlock = some k → wI.heap.size ≤ k)
  (hp : IsProto (· < wI.heap.size) y a3 a4 a5 a8 a9 p) (hw : LP p) (hs : X.size + 2000000 ≤ 70368744177664) :
  Calls Tryz.prog 14 #[.pointer (some ⟨P, 0, none⟩), pAgg p a3 a4 a5 a8 a9] y fun e w' => ∃ v', e = .returned (.tuple #[]) ∧ Lw P usTab.toList w0 v0 w' v' (X ++ protoT p) := by
 obtain ⟨h3, h4, h5, h8, h9, hnm'⟩ := hp;obtain ⟨o3, c3, rfl, n3, -⟩ := id h3;obtain ⟨o4, c4, rfl, n4, -⟩ := id h4.1;obtain ⟨o5, c5, rfl, n5, -⟩ := id h5;obtain ⟨o8, c8, rfl, n8, -⟩ := id h8;obtain ⟨o9, c9, rfl, n9, -⟩ := id h9.1;replace h3 : Hid (IsArr (· < wI.heap.size) y (.slice o3 p.code.n c3) 1 p.code.n (iC .u32 p.code.f)) := h3;replace h4 : Hid (IsArr (· < wI.heap.size) y (.slice o4 p.consts.n c4) 3 p.consts.n (vC p.consts.f)) := h4.1;replace h5 : Hid (IsArr (· < wI.heap.size) y (.slice o5 p.ups.n c5) 2 p.ups.n (uC p.ups.f)) := h5;have hPl := h.lt;have hyI := hbe.size;have hol := hidR h.buf.lt;obtain ⟨i0, hi, he0⟩ := Option.map_eq_some_iff.1 infS1;simp only [Prod.mk.injEq] at he0;obtain ⟨hz0, hz1, hz2⟩ := he0;unfold pAgg;obtain ⟨vb, hvb⟩ : ∃ b, b = p.vararg := ⟨_, rfl⟩;rw [← hvb];have hz9 := hw.par;have hz8 := hw.regs;have hz7 := hw.kids;replace hvb := hidR hvb;replace hw := hidR hw;replace hpt := hidR hpt;replace hsp := hidR hsp;replace hnm := hidR hnm;clear h8 h9 n8 n9 hnm';go_enter Tryz.func14, Tryz.ntmps14;go_upto_region 1 with fail;have RP := RowL.new y [.int .i64 p.params, .bool vb, .int .i64 p.regs, .slice o3 p.code.n c3, .slice o4 p.consts.n c4, .slice o5 p.ups.n c5, .int .i64 p.kids, .string p.name, .slice o8 p.lines.n c8, .slice o9 p.upNames.n c9] 63;have bw : Below y.heap.size y (y.alloc (.cells #[.int .i64 p.params, .bool vb, .int .i64 p.regs, .slice o3 p.code.n c3, .slice o4 p.consts.n c4, .slice o5 p.ups.n c5, .int .i64 p.kids, .string p.name, .slice o8 p.lines.n c8, .slice o9 p.upNames.n c9] 63)) := by go_grown
 have sz0 : (y.alloc (.cells #[.int .i64 p.params, .bool vb, .int .i64 p.regs, .slice o3 p.code.n c3, .slice o4 p.consts.n c4, .slice o5 p.ups.n c5, .int .i64 p.kids, .string p.name, .slice o8 p.lines.n c8, .slice o9 p.upNames.n c9] 63)).heap.size = y.heap.size + 1 := by simp
 generalize y.alloc (.cells #[.int .i64 p.params, .bool vb, .int .i64 p.regs, .slice o3 p.code.n c3, .slice o4 p.consts.n c4, .slice o5 p.ups.n c5, .int .i64 p.kids, .string p.name, .slice o8 p.lines.n c8, .slice o9 p.upNames.n c9] 63) = wx at RP bw sz0 ⊢;have hWx : Hid (Lw P usTab.toList w0 v0 wx v X) := h.later bw
 have hcell : Hid (∀ z u, Fr (fun k => k = P) wx v z u → RowL z y.heap.size 63 [.int .i64 p.params, .bool vb, .int .i64 p.regs, .slice o3 p.code.n c3, .slice o4 p.consts.n c4, .slice o5 p.ups.n c5, .int .i64 p.kids, .string p.name, .slice o8 p.lines.n c8, .slice o9 p.upNames.n c9]) := fun z u hF =>
  World.rowIs.of_block RP (hF.block _ (by omega) (by omega) fun e => by have := hol.out _ e; omega)
 have hb3 : Hid (∀ z u, Fr (fun k => k = P) wx v z u → Below wI.heap.size y z) := fun z u hF =>
  (bw.mono hyI).trans (hF.below (by omega) (fun k hk => by subst hk; exact hP) hv)
 have hpw : Hid (∀ z u Y, Lw P usTab.toList wx v z u Y → PowTab z ∧ Spans z ∧ Named z) := fun z u Y hL => by
  have hb := hbe.trans (hb3.out z u hL.fr);exact ⟨qa2 hpt.out hb, hsp.out.below hb, hnm.out.below hb⟩
 have T0 : Hid (Lw P usTab.toList wx v wx v X) := hWx.out.fresh;have k0 := RP.cell 0 rfl;have k2 := RP.cell 2 rfl;have k6 := RP.cell 6 rfl;have hyx : y.heap.size < wx.heap.size := by omega
 clear sz0
 have hdm := hidR (qg6 [p.params, p.regs, p.kids] wx.heap.size 0 3 (wx.alloc (.cells #[.int .i64 p.params, .int .i64 p.regs, .int .i64 p.kids] 3)) (fun j x hx => by
   refine cellsOf (L := [.int .i64 p.params, .int .i64 p.regs, .int .i64 p.kids]) ?_;rcases j with _ | _ | _ | j
   ·simp at hx; simp [hx]
   ·simp at hx; simp [hx]
   ·simp at hx; simp [hx]
   ·simp at hx) (by simp only [World.size_alloc]; omega) (by simp) (by simp) (fun x hx => by simp at hx; rcases hx with rfl | rfl | rfl <;> omega) (qa2 (hpw.out wx v X T0.out).1 ((Below.refl _ _).alloc (Nat.le_refl _) _)) (by
    rw [List.map_cons, List.map_cons, List.map_cons, List.map_nil, qe9];have d1 := qa4 p.params (by omega) (by omega);have d2 := qa4 p.regs (by omega) (by omega);have d3 := qa4 p.kids (by omega) (by omega);omega) (by omega))
 rw [List.map_cons, List.map_cons, List.map_cons, List.map_nil] at hdm;clear h hv;obtain ⟨J, hJ⟩ : ∃ J, joinB [dec p.params, dec p.regs, dec p.kids] = J := ⟨_, rfl⟩;rw [hJ] at hdm;replace hJ := hidR hJ;clear hol;go_wp2_with fail;refine Calls.mono hdm.out ?_;rintro e y2 ⟨rfl, b2⟩;clear hdm k0 k2 k6;have b3 : Below wx.heap.size wx y2 := ((Below.refl _ _).alloc (Nat.le_refl _) _).trans (b2.mono (by rw [World.size_alloc]; omega));clear b2;go_upto_region 2 with fail;have bz : Below wx.heap.size wx (y2.alloc (.cells #[.string ⟨#[112, 114, 111, 116, 111]⟩, .string J] 9)) := b3.alloc b3.size _
 have hown : Hid ((y2.alloc (.cells #[.string ⟨#[112, 114, 111, 116, 111]⟩, .string J] 9)).ownsRow wx.heap.size 9 1 (.slice (some ⟨y2.heap.size, 0, none⟩) 2 2) 2 [.string ⟨#[112, 114, 111, 116, 111]⟩, .string J]) :=
  ⟨rfl, .inr ⟨y2.heap.size, 2, _, rfl, b3.size, heap_alloc_new _ _, Nat.le_refl _, by simp [maxLen], rfl, rfl⟩⟩
 have hgl : y2.heap.size < (y2.alloc (.cells #[.string ⟨#[112, 114, 111, 116, 111]⟩, .string J] 9)).heap.size := by rw [World.size_alloc]; omega
 have e1 := (RP.call bz).cell 1 rfl;have hgb := b3.size;clear b3;generalize y2.alloc (.cells #[.string ⟨#[112, 114, 111, 116, 111]⟩, .string J] 9) = yz at bz hown hgl e1 ⊢;generalize y2.heap.size = gq at hown hgl hgb ⊢;have hzl := bz.size;replace bz := hidR bz;clear RP;go_upto_if 21 with fail;clear e1;go_cut [4] from 11 (fun s4 wr => ∃ g c, s4 = .slice (some ⟨g, 0, none⟩) (headW p).length c ∧ Hid ((∀ (j : Nat) x, (headW p)[j]? = some x → wr.cell? ⟨g, 0 + j, none⟩ = some (.string x)) ∧ g < wr.heap.size ∧ (headW p).length ≤ c ∧ Below wx.heap.size wx wr))
 case first =>
  cases vb with
  | false =>
   have hW : headW p = [⟨#[112, 114, 111, 116, 111]⟩, J] := by unfold headW; rw [← hvb.out, hJ.out]; rfl
   replace hW := hidR hW;go_wp2_with fail;go_meet
   case rel =>
    rw [hW.out];refine ⟨gq, 2, rfl, fun j x hx => ?_, hgl, by simp, bz.out⟩;rw [Nat.zero_add];have := hown.out.cells (g := gq) rfl;rcases j with _ | _ | j
    ·simp at hx; subst hx; exact this 0 _ rfl
    ·simp at hx; subst hx; exact this 1 _ rfl
    ·simp at hx
  | true =>
   have hW : headW p = [⟨#[112, 114, 111, 116, 111]⟩, J, ⟨#[118, 97, 114, 97, 114, 103]⟩] := by unfold headW; rw [← hvb.out, hJ.out]; rfl
   replace hW := hidR hW;clear hvb hJ hcell hb3 hpw T0 hWx h3 h4 h5 hw hpt hsp hnm;go_wp2_with (at_builtin; refine wpList_append_own_at _ rfl (.tmp 22) (.tmp 23) 61 rfl wx.heap.size 9 i0 (.string ⟨#[]⟩) 1 16 Tryz.underlying61 hi hz0 hz1 hz2 rfl (by decide) (.slice (some ⟨gq, 0, none⟩) 2 2) 2 [.string ⟨#[112, 114, 111, 116, 111]⟩, .string J] rfl (hown.out.alloc _) ⟨yz.heap.size, 0, none⟩ 1 1 [.string ⟨#[118, 97, 114, 97, 114, 103]⟩] rfl rfl ?c1 ?c2 ?c3 ?c4 ?c5 ?_);case c1 => exact World.news_of_block (heap_alloc_new _ _)
   case c2 => intro u hu; simp only [List.mem_cons, List.not_mem_nil, or_false] at hu; subst hu; rfl
   case c3 => simp only [maxLen]; omega
   case c4 => omega
   case c5 => simp only [World.size_alloc]; omega
   intro v' w' hown2 hg _ hat
   have hg2 : Below wx.heap.size wx w' := by
    have ba : Below wx.heap.size wx (yz.alloc (.cells #[.string ⟨#[118, 97, 114, 97, 114, 103]⟩] 9)) := bz.out.alloc hzl _;refine ba.trans ⟨hg.os, hg.tape, hg.output, hg.size, fun k hk => hg.block k (by simp only [World.size_alloc]; omega) (fun e => ?_)⟩;simp only [Value.ownBlock, Option.some.injEq] at e;omega
   rcases hown2.2 with ⟨_, hz⟩ | ⟨g, cap, cur, rfl, hbg, hgg, hc1, hc2, hcs, htk⟩
   ·exact absurd hz (by omega)
   have hgw : g < w'.heap.size := (Array.getElem?_eq_some_iff.1 hgg).1;replace hg2 := hidR hg2;replace hown2 := hidR hown2;clear hat hg hgg hcs htk hown bz hi hz0 hz1 hz2;go_wp2_with fail;go_meet
   case rel =>
    rw [hW.out];refine ⟨g, cap, rfl, fun j x hx => ?_, hgw, hc1, hg2.out⟩;rw [Nat.zero_add];have := hown2.out.cells (g := g) rfl;rcases j with _ | _ | _ | j
    ·simp at hx; subst hx; exact this 0 _ rfl
    ·simp at hx; subst hx; exact this 1 _ rfl
    ·simp at hx; subst hx; exact this 2 _ rfl
    ·simp at hx
 obtain ⟨g, c, rfl, hq⟩ := hcut;clear hown hgl hgb hzl bz hJ hvb hi hz0 hz1 hz2;obtain ⟨yc, hyc⟩ : ∃ x, x = wc := ⟨_, rfl⟩;subst hyc;have hln := hidR (qg5 P usTab.toList usL g 0 c (headW p) wx v yc v X (T0.out.later hq.out.2.2.2) hq.out.1 hq.out.2.1 (by unfold headW; split <;> simp) hq.out.2.2.1 (headW_size hw.out) (by omega));rw [headW_line] at hln;clear hq;go_wp2_with fail;refine Calls.mono hln.out ?_;rintro e y4 ⟨v4, rfl, T4⟩;clear hln;have e4 := (hcell.out y4 v4 T4.fr).cell 4 rfl;have S4 : Hid (∃ u, Lw P usTab.toList wx v y4 u (X ++ (headT p ++ ⟨#[10]⟩))) := ⟨v4, T4⟩;clear T4 T0;go_upto_region 5 with fail;go_cut [28, 29, 30, 31] from 32 (fun sa sb sc sd wr => y4 = wr ∧ sb = .slice o4 p.consts.n c4 ∧ sc = .int .i64 (p.consts.n : Int) ∧ sd = .int .i64 0)
 case first =>
  go_wp2_with fail;go_meet;case rel => exact ⟨rfl, rfl, rfl, rfl⟩
 obtain ⟨hw9, hs9, hs8, hs7⟩ := hcut;subst hw9;subst hs9;subst hs8;subst hs7;clear e4;first | go_upon | go_back | go_step
 go_cut [6] from 11 (fun sb wr => Hid (∃ u, Lw P usTab.toList wx v wr u (X ++ (headT p ++ ⟨#[10]⟩) ++ catL (fun i => constT (p.consts.f i) ++ ⟨#[10]⟩) p.consts.n)))
 case first =>
  go_wp2_with fail;go_loopw [31] (fun i wr => ∃ i' : Nat, i = .int .i64 (i' : Int) ∧ i' ≤ p.consts.n ∧ Hid (∃ u, Lw P usTab.toList wx v wr u (X ++ (headT p ++ ⟨#[10]⟩) ++ catL (fun i => constT (p.consts.f i) ++ ⟨#[10]⟩) i'))) (fun i _ => p.consts.n - (intOf i).toNat);case atStart => exact ⟨0, rfl, by omega, hidR (S4.out.imp fun u hu => lw0 ((fun i => constT (p.consts.f i) ++ ⟨#[10]⟩)) hu)⟩
  case round =>
   obtain ⟨i', rfl, hin, hT⟩ := hrel;obtain ⟨wz, hwz⟩ : ∃ x, x = wr := ⟨_, rfl⟩;subst hwz;by_cases hlt : i' < p.consts.n
   ·have hii : (i' : Int) < (p.consts.n : Int) := by omega
    have hsm : (i' : Int) + 1 ≤ 9223372036854775807 := by omega
    obtain ⟨bb, oo, rfl, hbb, hcc⟩ := arr_at h4.out (by omega);obtain ⟨vv, hT'⟩ := hT.out;have hd := hcc wz (hb3.out wz vv hT'.fr) i' hlt
    have hsz : (X ++ (headT p ++ ⟨#[10]⟩) ++ catL (fun i => constT (p.consts.f i) ++ ⟨#[10]⟩) i').size ≤ 70368744177664 := by
     have k1 := qc8 hw.out;have k2 := qg7 hw.out (k := i') (by omega);simp only [ByteArray.size_append] at *;omega
    have hcall := hidR (fun (y' : World) (hb : Below wz.heap.size wz y') => lval_in P usTab.toList usL (p.consts.f i') (hw.out.plain i' hlt) (hw.out.nums i' hlt).1 (hw.out.nums i' hlt).2 wx v y' vv _ (hT'.later hb) (hpw.out _ _ _ (hT'.later hb)).1 hsz);clear hsz;have d0 : wz.cell? ⟨bb, oo + i' * 3, none⟩ = some (.int .i64 (p.consts.f i').kind) := hd 0 (by omega);have d1 : wz.cell? ⟨bb, oo + i' * 3 + 1, none⟩ = some (.int .i64 (p.consts.f i').num) := hd 1 (by omega);have d2 : wz.cell? ⟨bb, oo + i' * 3 + 2, none⟩ = some (.string (p.consts.f i').text) := hd 2 (by omega);clear hd hcc hT' hT;go_wp2_with fail;refine (hcall.out _ (by go_grown)).mono ?_;rintro e y8 ⟨v8, rfl, h8⟩
    have hT1 : Hid (∃ u, Lw P usTab.toList wx v y8 u (X ++ (headT p ++ ⟨#[10]⟩) ++ catL (fun i => constT (p.consts.f i) ++ ⟨#[10]⟩) (i' + 1))) := by
     exact ⟨v8, lwS ((fun i => constT (p.consts.f i) ++ ⟨#[10]⟩)) i' h8⟩
    clear hcall h8;go_wp2_with fail;go_roundw;case rel => exact ⟨i' + 1, by go_num, by omega, hT1.out⟩
    case measure => simp [intOf]; omega
   ·obtain rfl : i' = p.consts.n := by omega
    go_wp2_with fail;go_meet;case rel => exact hT.out
 clear S4;obtain ⟨S5w, hS5w⟩ : ∃ x, x = wc := ⟨_, rfl⟩;subst hS5w;obtain ⟨S5v, S5T⟩ := hcut.out;have e9 := (hcell.out S5w S5v S5T.fr).cell 5 rfl;have S5 : Hid (∃ u, Lw P usTab.toList wx v S5w u (X ++ (headT p ++ ⟨#[10]⟩) ++ catL (fun i => constT (p.consts.f i) ++ ⟨#[10]⟩) p.consts.n)) := ⟨_, S5T⟩;clear hcut S5T;go_upto_region 10 with fail;go_cut [39, 40, 41, 42] from 43 (fun sa sb sc sd wr => S5w = wr ∧ sb = .slice o5 p.ups.n c5 ∧ sc = .int .i64 (p.ups.n : Int) ∧ sd = .int .i64 0)
 case first =>
  go_wp2_with fail;go_meet;case rel => exact ⟨rfl, rfl, rfl, rfl⟩
 obtain ⟨hw9, hs9, hs8, hs7⟩ := hcut;subst hw9;subst hs9;subst hs8;subst hs7;clear e9;first | go_upon | go_back | go_step
 go_cut [8] from 11 (fun sb wr => Hid (∃ u, Lw P usTab.toList wx v wr u (X ++ (headT p ++ ⟨#[10]⟩) ++ catL (fun i => constT (p.consts.f i) ++ ⟨#[10]⟩) p.consts.n ++ catL (fun i => upT (p.ups.f i) ++ ⟨#[10]⟩) p.ups.n)))
 case first =>
  go_wp2_with fail;go_loopw [42] (fun i wr => ∃ i' : Nat, i = .int .i64 (i' : Int) ∧ i' ≤ p.ups.n ∧ Hid (∃ u, Lw P usTab.toList wx v wr u (X ++ (headT p ++ ⟨#[10]⟩) ++ catL (fun i => constT (p.consts.f i) ++ ⟨#[10]⟩) p.consts.n ++ catL (fun i => upT (p.ups.f i) ++ ⟨#[10]⟩) i'))) (fun i _ => p.ups.n - (intOf i).toNat);case atStart => exact ⟨0, rfl, by omega, hidR (S5.out.imp fun u hu => lw0 ((fun i => upT (p.ups.f i) ++ ⟨#[10]⟩)) hu)⟩
  case round =>
   obtain ⟨i', rfl, hin, hT⟩ := hrel;obtain ⟨wz, hwz⟩ : ∃ x, x = wr := ⟨_, rfl⟩;subst hwz;by_cases hlt : i' < p.ups.n
   ·have hii : (i' : Int) < (p.ups.n : Int) := by omega
    have hsm : (i' : Int) + 1 ≤ 9223372036854775807 := by omega
    obtain ⟨bb, oo, rfl, hbb, hcc⟩ := arr_at h5.out (by omega);obtain ⟨vv, hT'⟩ := hT.out;have hd := hcc wz (hb3.out wz vv hT'.fr) i' hlt
    have hsz : (X ++ (headT p ++ ⟨#[10]⟩) ++ catL (fun i => constT (p.consts.f i) ++ ⟨#[10]⟩) p.consts.n ++ catL (fun i => upT (p.ups.f i) ++ ⟨#[10]⟩) i').size ≤ 70368744177664 := by
     have k1 := qc8 hw.out;have k2 := qg7 hw.out (Nat.le_refl _);have k3 := catU_size hw.out (k := i') (by omega);simp only [ByteArray.size_append] at *;omega
    have hcall := hidR (fun (y' : World) (hb : Below wz.heap.size wz y') => lup_in P usTab.toList usL (p.ups.f i') (by have := hw.out.upx i' hlt; unfold NumOk at this; omega) (by have := hw.out.upx i' hlt; unfold NumOk at this; omega) wx v y' vv _ (hT'.later hb) (hpw.out _ _ _ (hT'.later hb)).1 hsz);clear hsz;have d0 : wz.cell? ⟨bb, oo + i' * 2, none⟩ = some (.bool (p.ups.f i').stack) := hd 0 (by omega);have d1 : wz.cell? ⟨bb, oo + i' * 2 + 1, none⟩ = some (.int .i64 (p.ups.f i').index) := hd 1 (by omega);clear hd hcc hT' hT;go_wp2_with fail;refine (hcall.out _ (by go_grown)).mono ?_;rintro e y8 ⟨v8, rfl, h8⟩
    have hT1 : Hid (∃ u, Lw P usTab.toList wx v y8 u (X ++ (headT p ++ ⟨#[10]⟩) ++ catL (fun i => constT (p.consts.f i) ++ ⟨#[10]⟩) p.consts.n ++ catL (fun i => upT (p.ups.f i) ++ ⟨#[10]⟩) (i' + 1))) := by
     exact ⟨v8, lwS ((fun i => upT (p.ups.f i) ++ ⟨#[10]⟩)) i' h8⟩
    clear hcall h8;go_wp2_with fail;go_roundw;case rel => exact ⟨i' + 1, by go_num, by omega, hT1.out⟩
    case measure => simp [intOf]; omega
   ·obtain rfl : i' = p.ups.n := by omega
    go_wp2_with fail;go_meet;case rel => exact hT.out
 clear S5;obtain ⟨S6w, hS6w⟩ : ∃ x, x = wc := ⟨_, rfl⟩;subst hS6w;obtain ⟨S6v, S6T⟩ := hcut.out;have e9 := (hcell.out S6w S6v S6T.fr).cell 3 rfl;have S6 : Hid (∃ u, Lw P usTab.toList wx v S6w u (X ++ (headT p ++ ⟨#[10]⟩) ++ catL (fun i => constT (p.consts.f i) ++ ⟨#[10]⟩) p.consts.n ++ catL (fun i => upT (p.ups.f i) ++ ⟨#[10]⟩) p.ups.n)) := ⟨_, S6T⟩;clear hcut S6T;go_upto_region 15 with fail;go_wp2_with fail;go_loopw [53] (fun i wr => ∃ i' : Nat, i = .int .i64 (i' : Int) ∧ i' ≤ p.code.n ∧ Hid (∃ u, Lw P usTab.toList wx v wr u (X ++ (headT p ++ ⟨#[10]⟩) ++ catL (fun i => constT (p.consts.f i) ++ ⟨#[10]⟩) p.consts.n ++ catL (fun i => upT (p.ups.f i) ++ ⟨#[10]⟩) p.ups.n ++ catL (fun i => wordT (p.code.f i) ++ ⟨#[10]⟩) i'))) (fun i _ => p.code.n - (intOf i).toNat);case atStart => exact ⟨0, rfl, by omega, hidR (S6.out.imp fun u hu => lw0 ((fun i => wordT (p.code.f i) ++ ⟨#[10]⟩)) hu)⟩
 case round =>
  obtain ⟨i', rfl, hin, hT⟩ := hrel;obtain ⟨wz, hwz⟩ : ∃ x, x = wr := ⟨_, rfl⟩;subst hwz;by_cases hlt : i' < p.code.n
  ·have hii : (i' : Int) < (p.code.n : Int) := by omega
   have hsm : (i' : Int) + 1 ≤ 9223372036854775807 := by omega
   obtain ⟨bb, oo, rfl, hbb, hcc⟩ := arr_at h3.out (by omega);obtain ⟨vv, hT'⟩ := hT.out;have hd := hcc wz (hb3.out wz vv hT'.fr) i' hlt
   have hsz : (X ++ (headT p ++ ⟨#[10]⟩) ++ catL (fun i => constT (p.consts.f i) ++ ⟨#[10]⟩) p.consts.n ++ catL (fun i => upT (p.ups.f i) ++ ⟨#[10]⟩) p.ups.n ++ catL (fun i => wordT (p.code.f i) ++ ⟨#[10]⟩) i').size ≤ 70368744177664 := by
    have k1 := qc8 hw.out;have k2 := qg7 hw.out (Nat.le_refl _);have k3 := catU_size hw.out (Nat.le_refl _);have k4 := catW_size hw.out (k := i') (by omega);simp only [ByteArray.size_append] at *;omega
   have hcall := hidR (fun (y' : World) (hb : Below wz.heap.size wz y') => lword_in P (p.code.f i') (hw.out.words i' hlt).1 (hw.out.words i' hlt).2 wx v y' vv _ (hT'.later hb) (hpw.out _ _ _ (hT'.later hb)).2.1 (hpw.out _ _ _ (hT'.later hb)).2.2 (hpw.out _ _ _ (hT'.later hb)).1 hsz);clear hsz;have d0 : wz.cell? ⟨bb, oo + i', none⟩ = some (.int .u32 (p.code.f i')) := by have := hd 0 (by omega); rw [Nat.mul_one] at this; exact this
   clear hd hcc hT' hT;go_wp2_with fail;refine (hcall.out _ (by go_grown)).mono ?_;rintro e y8 ⟨v8, rfl, h8⟩
   have hT1 : Hid (∃ u, Lw P usTab.toList wx v y8 u (X ++ (headT p ++ ⟨#[10]⟩) ++ catL (fun i => constT (p.consts.f i) ++ ⟨#[10]⟩) p.consts.n ++ catL (fun i => upT (p.ups.f i) ++ ⟨#[10]⟩) p.ups.n ++ catL (fun i => wordT (p.code.f i) ++ ⟨#[10]⟩) (i' + 1))) := by
    exact ⟨v8, lwS ((fun i => wordT (p.code.f i) ++ ⟨#[10]⟩)) i' h8⟩
   clear hcall h8;go_wp2_with fail;go_roundw;case rel => exact ⟨i' + 1, by go_num, by omega, hT1.out⟩
   case measure => simp [intOf]; omega
  ·obtain rfl : i' = p.code.n := by omega
   go_wp2_with fail;obtain ⟨vv, hT'⟩ := hT.out;have hF := hWx.out.trans hT'
   have hE : X ++ (headT p ++ ⟨#[10]⟩) ++ catL (fun i => constT (p.consts.f i) ++ ⟨#[10]⟩) p.consts.n ++ catL (fun i => upT (p.ups.f i) ++ ⟨#[10]⟩) p.ups.n ++ catL (fun i => wordT (p.code.f i) ++ ⟨#[10]⟩) p.code.n = X ++ protoT p := by
    unfold protoT;simp only [ByteArray.append_assoc]
   rw [hE] at hF;exact bodyPost_end (results_none rfl _ _ _) rfl ⟨vv, rfl, hF⟩
end Go.Proofs.YtplijnfaiofckaaGreatDoor

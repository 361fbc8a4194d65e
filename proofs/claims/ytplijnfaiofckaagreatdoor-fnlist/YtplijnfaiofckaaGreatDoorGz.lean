import Derived.Test.YtplijnfaiofckaaGreatDoorGr
import Derived.Test.YtplijnfaiofckaaGreatDoorShelb
import Derived.Test.YtplijnfaiofckaaGreatDoorGk
namespace Go.Proofs.YtplijnfaiofckaaGreatDoor
open Go.RowKit Go.Lib Go.Shelf
set_option linter.unusedVariables false
set_option linter.unusedSimpArgs false
set_option maxRecDepth 100000
set_option maxHeartbeats 9000000
theorem hexI_fin : ∀ c : Fin 256, (Lib.indexByte hxD.data.toList (UInt8.ofNat c.val) : Int) = hexV (c.val : Int) := by decide +kernel
theorem hexIndex_in (c : Int) (h0 : 0 ≤ c) (h1 : c ≤ 255) (w : World) :
  Calls Tryz.prog 77 #[.string ⟨#[48, 49, 50, 51, 52, 53, 54, 55, 56, 57, 97, 98, 99, 100, 101, 102]⟩, .int .u8 c] w fun e w' => e = .returned (.int .i64 (hexV c)) ∧ w = w' := by
 refine Calls.mono (Any.strings_IndexByte Tryz.lays137 hxD c w) ?_;rintro e w' ⟨rfl, rfl⟩;obtain ⟨x, rfl⟩ := Int.eq_ofNat_of_zero_le h0;have := hexI_fin ⟨x, by omega⟩;refine ⟨?_, rfl⟩;rw [← this];rfl
theorem makeBA (n : Nat) (hn : n ≤ 1000000) (w : World) : (Instr.makeSlice 22 (.int .i64 0) (.int .i64 (n : Int))).run Tryz.prog w = .ok (.slice (some ⟨w.heap.size, 0, none⟩) 0 n) (w.alloc (.cells (madeCells #[.int .u8 0] n) 5)) := by
 obtain ⟨i, hi, he⟩ := Option.map_eq_some_iff.1 info8A;simp only [Prod.mk.injEq] at he;have := run_makeSlice (P := Tryz.prog) w 22 5 i (.int .u8 0) Tryz.underlying22 hi he.1 .i64 .i64 0 n (by omega) (by omega) (by rw [he.2.1, Int.toNat_natCast]; omega) (by rw [he.2.2]; omega) (by omega);rw [he.2.1, Int.toNat_natCast, Nat.mul_one] at this;exact this
theorem textIn_in (s : ByteArray) (hs : s.size ≤ 100000) (w : World) :
  Calls Tryz.prog 119 #[.string s] w fun e w' => HexEnds s e ∧ Below w.heap.size w w' := by
 obtain ⟨i0, hi, hz0, hz1, hz2⟩ := info_parts info8A;by_cases hev : s.size % 2 = 0
 rotate_left
 ·have hE : Hid (HexEnds s (.returned (.tuple #[.string ⟨#[]⟩, .bool false]))) := ⟨_, false, rfl, by simp, fun _ => unhexOf_odd (by omega)⟩;have he : (s.size : Int).tmod 2 = 1 := by rw [Int.tmod_eq_emod_of_nonneg (by omega)]; omega
  go_enter Tryz.func119, Tryz.ntmps119;go_wp2_with fail;exact bodyPost_ret (v := .tuple #[.string ⟨#[]⟩, .bool false]) (by simp [results, Tryz.results119, go_sem]) rfl ⟨hE.out, Below.refl _ _⟩
 have he : (s.size : Int).tmod 2 = 0 := by rw [Int.tmod_eq_emod_of_nonneg (by omega)]; omega
 have hd2 : (s.size : Int).tdiv 2 = ((s.size / 2 : Nat) : Int) := by rw [Int.tdiv_eq_ediv_of_nonneg (by omega)]; omega
 have hmk := makeBA (s.size / 2) (by omega) w;rw [show ((s.size / 2 : Nat) : Int) = (s.size : Int) / 2 by omega] at hmk;have bA : Below w.heap.size w (w.alloc (.cells (madeCells #[.int .u8 0] (s.size / 2)) 5)) := (Below.refl _ _).alloc (Nat.le_refl _) _
 have sA : Buf (w.alloc (.cells (madeCells #[.int .u8 0] (s.size / 2)) 5)) 5 (.slice (some ⟨w.heap.size, 0, none⟩) 0 (s.size / 2)) ByteArray.empty :=
  .inr ⟨w.heap.size, s.size / 2, _, (0, 0), rfl, heap_alloc_new w _, .inl rfl, Nat.zero_le _, by simp only [maxLen]; omega, size_madeCells _ _, rfl⟩
 have hrel0 : Hid (Buf (w.alloc (.cells (madeCells #[.int .u8 0] (s.size / 2)) 5)) 5 (.slice (some ⟨w.heap.size, 0, none⟩) 0 (s.size / 2)) ByteArray.empty ∧ (∀ k, (Value.slice (some ⟨w.heap.size, 0, none⟩) 0 (s.size / 2)).ownBlock = some k → w.heap.size ≤ k) ∧ Below w.heap.size w (w.alloc (.cells (madeCells #[.int .u8 0] (s.size / 2)) 5)) ∧ HexAt s 0 ByteArray.empty) :=
  ⟨sA, fun k hk => by simp only [Value.ownBlock, Option.some.injEq] at hk; omega, bA, HexAt.start s⟩
 clear sA bA;go_enter Tryz.func119, Tryz.ntmps119;go_upto_region 4 with fail;generalize w.alloc (.cells (madeCells #[.int .u8 0] (s.size / 2)) 5) = w1 at hrel0 ⊢;obtain ⟨B, hBe⟩ : ∃ B, w.heap.size = B := ⟨_, rfl⟩;rw [hBe] at hrel0 ⊢;replace hBe := hidR hBe;clear hmk;go_wp2_with fail;go_loopw [4, 5, 6, 7] (fun ov iv _ _ wr => ∃ (i : Nat) (X : ByteArray), iv = .int .i64 (i : Int) ∧ i ≤ s.size ∧ i % 2 = 0 ∧ X.size = i / 2 ∧ Hid (Buf wr 5 ov X ∧ (∀ k, ov.ownBlock = some k → B ≤ k) ∧ Below B w wr ∧ HexAt s i X)) (fun _ iv _ _ _ => s.size - (RowKit.intOf iv).toNat);case atStart => exact ⟨0, ByteArray.empty, rfl, by omega, rfl, rfl, hrel0.out⟩
 case round =>
  obtain ⟨i, X, rfl, hi1, hi2, hX, hq⟩ := hrel;have hXs : X.size ≤ 100000 := by omega
  replace hX := hidR hX;obtain ⟨wz, hwz⟩ : ∃ x, x = wr := ⟨_, rfl⟩;subst hwz;clear hrel0;by_cases hlt0 : i < s.size
  ·have hlt : i + 1 < s.size := by omega
   have hlI : (i : Int) < (s.size : Int) := by omega
   have hil : i < s.size := by omega
   have hc0 : 0 ≤ (s[i].toNat : Int) ∧ (s[i].toNat : Int) ≤ 255 := by have := s[i].toNat_lt; omega
   have hc1 : 0 ≤ (s[i + 1].toNat : Int) ∧ (s[i + 1].toNat : Int) ≤ 255 := by have := s[i + 1].toNat_lt; omega
   have d0 := hidR (hexIndex_in (s[i].toNat : Int) hc0.1 hc0.2 wz);have d1 := hidR (hexIndex_in (s[i + 1].toNat : Int) hc1.1 hc1.2 wz);have v0 := hexV_lt (s[i].toNat : Int);have v1 := hexV_lt (s[i + 1].toNat : Int);obtain ⟨x0, hx0⟩ : ∃ x, hexV (s[i].toNat : Int) = x := ⟨_, rfl⟩;obtain ⟨x1, hx1⟩ : ∃ x, hexV (s[i + 1].toNat : Int) = x := ⟨_, rfl⟩;rw [hx0] at d0 v0;rw [hx1] at d1 v1;replace hx0 := hidR hx0;replace hx1 := hidR hx1;go_wp2_with fail;refine Calls.mono d0.out ?_;rintro e y ⟨rfl, rfl⟩;clear d0;go_wp2_with fail;refine Calls.mono d1.out ?_;rintro e y ⟨rfl, rfl⟩;clear d1;by_cases hbad : x0 < 0 ∨ x1 < 0
   ·have hno : Hid (qd1 s = none) := hq.out.2.2.2.bad hlt (by rw [hx0.out, hx1.out]; exact hbad);have hbel := hq.out.2.2.1;by_cases hb0 : x0 < 0
    ·go_wp2_with fail;exact bodyPost_ret (v := .tuple #[.string ⟨#[]⟩, .bool false]) (by simp [results, Tryz.results119, go_sem]) rfl ⟨⟨_, false, rfl, by simp, fun _ => hno.out⟩, by rw [hBe.out]; exact hbel⟩
    ·have hb1 : x1 < 0 := by omega
     go_wp2_with fail;exact bodyPost_ret (v := .tuple #[.string ⟨#[]⟩, .bool false]) (by simp [results, Tryz.results119, go_sem]) rfl ⟨⟨_, false, rfl, by simp, fun _ => hno.out⟩, by rw [hBe.out]; exact hbel⟩
   ·have hb0 : ¬ x0 < 0 := by omega
    have hb1 : ¬ x1 < 0 := by omega
    have hB := hidR hq.out.1;have hown := hidR hq.out.2.1;have hbel := hidR hq.out.2.2.1;have hnx := hidR (hq.out.2.2.2.step hlt (by rw [hx0.out]; omega) (by rw [hx1.out]; omega));rw [hx0.out, hx1.out] at hnx;have hw8 : IntKind.u8.wrap (16 * x0 + x1) = x0 * 16 + x1 := by rw [IntKind.wrap_u8]; omega
    obtain ⟨a0, c0, hform⟩ := hB.out.form;subst hform;clear hq hx0 hx1;have hbc := hidR (byte_cells (x := x0 * 16 + x1) (by omega) (by omega));obtain ⟨S1, hS1⟩ : ∃ S, S = (⟨#[UInt8.ofNat (x0 * 16 + x1).toNat]⟩ : ByteArray) := ⟨_, rfl⟩;have hS1z : S1.size = 1 := by rw [hS1]; rfl
    rw [← hS1] at hnx hbc;clear hS1;go_wp2_with (at_builtin; refine qe5 _ rfl (.tmp 37) (.tmp 43) 22 rfl 5 i0 Tryz.underlying22 hi hz0 hz1 hz2 _ X rfl (hB.out.keep (fun k hk => Below.heap_alloc _ _ _ (hB.out.lt k hk))) S1 ⟨wz.heap.size, 0, none⟩ 1 1 rfl hS1z (by omega) ?c1 ?c2 ?_);case c1 => rw [hbc.out]; exact World.news_of_block (heap_alloc_new _ _)
    case c2 => rw [hS1z]; omega
    intro v' w' hB2 hg hat;obtain ⟨a1, c1, hform⟩ := hB2.form;subst hform
    have hown2 : ∀ k, (Value.slice a1 (X ++ S1).size c1).ownBlock = some k → B ≤ k := by
     intro k hk;rcases hat with e | e
     ·rw [e] at hk; exact hown.out k hk
     ·rw [e] at hk;have := hbel.out.size;simp only [World.size_alloc, Option.some.injEq] at hk;rw [hBe.out] at this;omega
    have hbel2 : Below B w w' := by
     have h9 : Below B w (wz.alloc (.cells #[.int .u8 (x0 * 16 + x1)] 5)) := hbel.out.alloc (by have := hbel.out.size; rw [hBe.out] at this; omega) _;have h8 := h9.size;rw [hBe.out] at h8;refine h9.trans ⟨hg.os, hg.tape, hg.output, hg.size, fun k hk => hg.block k (by omega) (fun e => ?_)⟩;have := hown.out k e.symm;omega
    have hrel : Hid (Buf w' 5 (.slice a1 (X ++ S1).size c1) (X ++ S1) ∧ (∀ k, (Value.slice a1 (X ++ S1).size c1).ownBlock = some k → B ≤ k) ∧ Below B w w' ∧ HexAt s (i + 2) (X ++ S1)) := ⟨hB2, hown2, hbel2, hnx.out⟩;have hsz9 : (X ++ S1).size = (i + 2) / 2 := by rw [ByteArray.size_append, hS1z, hX.out]; omega
    clear hB2 hown2 hbel2 hnx hB hown hbel hg hat hbc hi hz0 hz1 hz2;obtain ⟨X2, hX2⟩ : ∃ Y, X ++ S1 = Y := ⟨_, rfl⟩;rw [hX2] at hrel hsz9 ⊢;clear hX2;go_wp2_with fail;go_roundw;case rel => exact ⟨i + 2, X2, by go_num, by omega, by omega, hsz9, hrel.out⟩
    case measure => clear hrel; simp only [RowKit.intOf]; omega
  ·obtain rfl : i = s.size := by omega
   have hlI : ¬ ((s.size : Nat) : Int) < (s.size : Int) := by omega
   have hbel := hq.out.2.2.1;obtain ⟨a0, c0, hform⟩ := hq.out.1.form;subst hform;have hcv : (convert 22 9 (.slice a0 X.size c0)).run Tryz.prog wz = .ok (.string X) wz := conv_buf _ _ _ Tryz.underlying22 Tryz.underlying5 Tryz.underlying9 hq.out.1;have hfin : Hid (qd1 s = some X) := hq.out.2.2.2.fin;clear hq;go_wp2_with fail;exact bodyPost_ret (v := .tuple #[.string X, .bool true]) (by simp [results, Tryz.results119, go_sem]) rfl ⟨⟨X, true, rfl, fun _ => hfin.out, by simp⟩, by rw [hBe.out]; exact hbel⟩
end Go.Proofs.YtplijnfaiofckaaGreatDoor
namespace Go.Proofs.YtplijnfaiofckaaGreatDoor
open Go.RowKit Go.Shelf
set_option linter.unusedVariables false
set_option linter.unusedSimpArgs false
set_option maxRecDepth 100000
set_option maxHeartbeats 9000000
theorem formatInt_in (n : Int) (h0 : -9223372036854775808 ≤ n) (h1 : n ≤ 9223372036854775807) (w : World) (ht : PowTab w) :
  Calls Tryz.prog 140 #[.int .i64 n, .int .i64 10] w fun e w' => e = .returned (.string (dec n)) ∧ Below w.heap.size w w' := by
 refine Calls.mono (Any.strconv_FormatInt_10 Tryz.laysM173 n h0 h1 w ht) ?_;rintro e w' ⟨rfl, k, os, rfl⟩;exact ⟨rfl, Lib.below_grow _ _ (Nat.le_refl _) _ _⟩
structure ErrV (w : World) : Prop where
 syn : ∃ ev, w.cell? ⟨6, 0, none⟩ = some ev ∧ (ev = .nilIface ∨ ∃ te pe, ev = .iface te pe)
 rng : ∃ ev, w.cell? ⟨7, 0, none⟩ = some ev ∧ (ev = .nilIface ∨ ∃ te pe, ev = .iface te pe)
 posS : 6 < w.heap.size
 posR : 7 < w.heap.size
theorem ErrV.below {w w' : World} (h : ErrV w) (hb : Below w.heap.size w w') : ErrV w' := by
 obtain ⟨⟨e1, h1, k1⟩, ⟨e2, h2, k2⟩, p1, p2⟩ := h;have hz := hb.size;exact ⟨⟨e1, (hb.cell (p := ⟨6, 0, none⟩) p1).trans h1, k1⟩, ⟨e2, (hb.cell (p := ⟨7, 0, none⟩) p2).trans h2, k2⟩, by omega, by omega⟩
def DecEnds (s : ByteArray) (e : Ending) : Prop := (∃ n, decOf s = some n ∧ e = .returned (.tuple #[.int .i64 n, .bool true])) ∨ (decOf s = none ∧ e = .returned (.tuple #[.int .i64 0, .bool false]))
theorem decimalIn_in (s : ByteArray) (hs : s.size ≤ 100000) (w : World) (ht : PowTab w) (hE : ErrV w) :
  Calls Tryz.prog 118 #[.string s] w fun e w' => DecEnds s e ∧ Below w.heap.size w w' := by
 cases hp : Lib.parseIntB 64 s.data.toList with
 | ok v =>
  have hb := Lib.parseIntB_bounds hp;have hv : I64 v := by unfold I64; simp at hb; omega
  have hcall := hidR (show Calls Tryz.prog 144 #[.string s, .int .i64 10, .int .i64 64] w fun e w' => e = .returned (.tuple #[.int .i64 v, .nilIface]) ∧ Below w.heap.size w w' from by
   refine Calls.mono (Any.strconv_ParseInt_10_at64_ok Tryz.laysC174 s (by omega) v hp w) ?_;rintro e w' ⟨rfl, h | ⟨t, h⟩⟩
   ·subst h; exact ⟨rfl, Below.refl _ _⟩
   ·subst h; exact ⟨rfl, Lib.bytesWorld_below _ _ _⟩)
  have hfm := hidR (fun (y : World) (hy : Below w.heap.size w y) => formatInt_in v hv.1 hv.2 y (qa2 ht hy))
  have hres : Hid (∀ b, b = decide (dec v = s) → (b = true → decOf s = some v) ∧ (b = false → decOf s = none)) := fun b hb => by
   subst hb;refine ⟨fun h => ?_, fun h => ?_⟩
   ·rw [← of_decide_eq_true h]; exact decOf_dec hv
   ·cases hd : decOf s with
    | none => rfl
    | some m =>
     exfalso
     obtain ⟨hm, he⟩ := decOf_some hd;rw [he, parse_dec hm] at hp;injection hp with hp;rw [hp] at he;exact of_decide_eq_false h he.symm
  have hstr := str_eq (dec v) s;obtain ⟨b, hb9⟩ : ∃ b, decide (dec v = s) = b := ⟨_, rfl⟩;rw [hb9] at hstr;have hr := hres.out b hb9.symm;clear hres hp hb9 ht hE;unfold I64 at hv;generalize dec v = D at hfm hstr;go_enter Tryz.func118, Tryz.ntmps118;go_wp2_with fail;refine Calls.mono hcall.out ?_;rintro e y ⟨rfl, b1⟩;have hf1 := hidR (hfm.out y b1);clear hcall hfm;go_wp2_with fail;refine Calls.mono hf1.out ?_;rintro e y2 ⟨rfl, b2⟩;have b3 := b1.trans (b2.mono b1.size);clear hf1 b1 b2
  cases b with
  | true =>
   have hd := hidR (hr.1 rfl);clear hr;go_wp2_with fail;exact bodyPost_ret (v := .tuple #[.int .i64 v, .bool true]) (by simp [results, Tryz.results118, go_sem]) rfl ⟨.inl ⟨v, hd.out, rfl⟩, b3⟩
  | false =>
   have hd := hidR (hr.2 rfl);clear hr;go_wp2_with fail;exact bodyPost_ret (v := .tuple #[.int .i64 0, .bool false]) (by simp [results, Tryz.results118, go_sem]) rfl ⟨.inr ⟨hd.out, rfl⟩, b3⟩
 | «syntax» =>
  have hno : Hid (decOf s = none) := by
   cases hd : decOf s with
   | none => rfl
   | some m =>
    exfalso
    obtain ⟨hm, he⟩ := decOf_some hd;rw [he, parse_dec hm] at hp
    cases hp
  obtain ⟨ev, hcv, hev⟩ := hE.syn;have hcall := hidR (Any.strconv_ParseInt_10_at64_syntax Tryz.laysC174 s (by omega) hp ev w hcv hev);clear hp ht hE hcv hev;go_enter Tryz.func118, Tryz.ntmps118;go_wp2_with fail;refine Calls.mono hcall.out ?_;rintro e y ⟨N, rfl, hN, hNb, b1⟩;clear hcall hNb;go_wp2_with fail;exact bodyPost_ret (v := .tuple #[.int .i64 0, .bool false]) (by simp [results, Tryz.results118, go_sem]) rfl ⟨.inr ⟨hno.out, rfl⟩, b1⟩
 | range =>
  have hno : Hid (decOf s = none) := by
   cases hd : decOf s with
   | none => rfl
   | some m =>
    exfalso
    obtain ⟨hm, he⟩ := decOf_some hd;rw [he, parse_dec hm] at hp
    cases hp
  obtain ⟨ev, hcv, hev⟩ := hE.rng;have hcall := hidR (Any.strconv_ParseInt_10_at64_range Tryz.laysC174 s (by omega) hp ev w hcv hev);clear hp ht hE hcv hev;go_enter Tryz.func118, Tryz.ntmps118;go_wp2_with fail;refine Calls.mono hcall.out ?_;rintro e y ⟨N, rfl, hN, hNb, b1⟩;clear hcall hNb;go_wp2_with fail;exact bodyPost_ret (v := .tuple #[.int .i64 0, .bool false]) (by simp [results, Tryz.results118, go_sem]) rfl ⟨.inr ⟨hno.out, rfl⟩, b1⟩
theorem infI1 : (Tryz.prog.info? 3).map (fun i => (i.zero, i.size, i.bytes)) = some (some (.int .i64 0), 1, 8) := by kernel_rfl
theorem makeI (n : Nat) (hn : n ≤ 1000) (w : World) : (Instr.makeSlice 60 (.int .i64 (n : Int)) (.int .i64 (n : Int))).run Tryz.prog w = .ok (.slice (some ⟨w.heap.size, 0, none⟩) n n) (w.alloc (.cells (madeCells #[.int .i64 0] n) 3)) := by
 obtain ⟨i, hi, he⟩ := Option.map_eq_some_iff.1 infI1;simp only [Prod.mk.injEq] at he;have := run_makeSlice (P := Tryz.prog) w 60 3 i (.int .i64 0) Tryz.underlying60 hi he.1 .i64 .i64 n n (by omega) (by omega) (by rw [he.2.1, Int.toNat_natCast]; omega) (by rw [he.2.2]; omega) (by omega);rw [he.2.1, Int.toNat_natCast, Nat.mul_one] at this;exact this
structure Fit where
 f : Nat
 bd : List Value
 q : Int → Bool
def FitOk (w : World) (t : Fit) : Prop := (∀ args y, (callFunc t.f args).run Tryz.prog y = .ok (.enter t.f args) y) ∧
 ∀ y, Below w.heap.size w y → ∀ n, I64 n → Calls Tryz.prog t.f (t.bd ++ [Value.int .i64 n]).toArray y fun e w' => e = .returned (.bool (t.q n)) ∧ Below y.heap.size y w'
def fitV (t : Fit) : Value := .func (.func t.f) t.bd.toArray #[]
noncomputable def numAt (ws : List ByteArray) (j : Nat) : Option Int := decOf (ws.getD j ⟨#[]⟩)
def NumsOk (ws : List ByteArray) (fs : List Fit) (k : Nat) : Prop := ∀ j, j < k → ∃ n t, numAt ws j = some n ∧ fs[j]? = some t ∧ t.q n = true
theorem qb7 (ws : List ByteArray) (fs : List Fit) (ad fb : Option Addr) (c fc : Nat) (w : World) (hl : ws.length ≠ fs.length) (h1 : ws.length ≤ 100000) (h2 : fs.length ≤ 1000) :
  Calls Tryz.prog 116 #[.slice ad ws.length c, .slice fb fs.length fc] w fun e w' => e = .returned (.tuple #[.slice none 0 0, .bool false]) ∧ Below w.heap.size w w' := by
 have hb : ((ws.length : Int) != (fs.length : Int)) = true := by simp; omega
 generalize ws.length = n at *;generalize fs.length = m at *;go_enter Tryz.func116, Tryz.ntmps116;go_wp2_with fail;exact bodyPost_ret (v := .tuple #[.slice none 0 0, .bool false]) (by simp [results, Tryz.results116, go_sem]) rfl ⟨rfl, Below.refl _ _⟩
def qh3 (ws : List ByteArray) (fs : List Fit) (B : Nat) (e : Ending) (w' : World) : Prop :=
 (NumsOk ws fs ws.length ∧ e = .returned (.tuple #[.slice (some ⟨B, 0, none⟩) ws.length ws.length, .bool true]) ∧ w'.rowIs B 3 ws.length (fun j => .int .i64 ((numAt ws j).getD 0))) ∨ (¬ NumsOk ws fs ws.length ∧ e = .returned (.tuple #[.slice none 0 0, .bool false]))
theorem qe1 (ws : List ByteArray) (fs : List Fit) (g o c fb fc : Nat) (w : World) (hl : ws.length = fs.length) (hn : ws.length ≤ 10) (hcap : ws.length ≤ c) (ho : o ≤ 1000)
  (hc : ∀ (j : Nat) x, ws[j]? = some x → w.cell? ⟨g, o + j, none⟩ = some (.string x)) (hg : g < w.heap.size) (hz : ∀ x ∈ ws, x.size ≤ 100000)
  (hf : ∀ (j : Nat) t, fs[j]? = some t → w.cell? ⟨fb, j, none⟩ = some (fitV t)) (hfb : fb < w.heap.size) (hfc : fs.length ≤ fc) (hok : ∀ t ∈ fs, FitOk w t) (ht : PowTab w) (hE : ErrV w) :
  Calls Tryz.prog 116 #[.slice (some ⟨g, o, none⟩) ws.length c, .slice (some ⟨fb, 0, none⟩) fs.length fc] w fun e w' => qh3 ws fs w.heap.size e w' ∧ Below w.heap.size w w' := by
 have hmk := makeI ws.length (by omega) w;have H0 := World.rowIs_made w (.int .i64 0) ws.length 3;have b0 : Below w.heap.size w (w.alloc (.cells (madeCells #[.int .i64 0] ws.length) 3)) := (Below.refl _ _).alloc (Nat.le_refl _) _;rw [← hl];have hlf : fs.length ≤ fc := hfc;rw [← hl] at hlf;replace hl := hidR hl;clear hfc;obtain ⟨B, hB⟩ : ∃ n, w.heap.size = n := ⟨_, rfl⟩;rw [hB] at hmk H0
 have hrel0 : Hid ((w.alloc (.cells (madeCells #[.int .i64 0] ws.length) 3)).rowIs B 3 ws.length (fun j => if j < 0 then .int .i64 ((numAt ws j).getD 0) else .int .i64 0) ∧ Below w.heap.size w (w.alloc (.cells (madeCells #[.int .i64 0] ws.length) 3)) ∧ NumsOk ws fs 0) :=
  ⟨World.rowIs.congr H0 (fun j _ => by simp), b0, fun j h => absurd h (by omega)⟩
 replace hc := hidR hc;replace hf := hidR hf;replace hok := hidR hok;replace ht := hidR ht;replace hE := hidR hE;replace hz := hidR hz;clear H0 b0;have hgB : g < B := by omega
 have hfB : fb < B := by omega
 rw [hB];replace hB := hidR hB;go_enter Tryz.func116, Tryz.ntmps116;go_upto_region 4 with fail;generalize w.alloc (.cells (madeCells #[.int .i64 0] ws.length) 3) = y0 at hrel0 ⊢;clear hmk;go_wp2_with fail;go_loopw [7, 8, 9, 10, 21] (fun _ _ _ _ iv wr => ∃ k : Nat, iv = .int .i64 (k : Int) ∧ k ≤ ws.length ∧ Hid (wr.rowIs B 3 ws.length (fun j => if j < k then .int .i64 ((numAt ws j).getD 0) else .int .i64 0) ∧ Below w.heap.size w wr ∧ NumsOk ws fs k)) (fun _ _ _ _ iv _ => ws.length - (intOf iv).toNat);case atStart => exact ⟨0, rfl, by omega, hrel0.out⟩
 case round =>
  obtain ⟨k, rfl, hk, hq⟩ := hrel;obtain ⟨wz, hwz⟩ : ∃ x, x = wr := ⟨_, rfl⟩;subst hwz;clear hrel0;by_cases hlt : k < ws.length
  ·have hkI : (k : Int) < (ws.length : Int) := by omega
   obtain ⟨x, hx⟩ : ∃ x, ws[k]? = some x := ⟨_, List.getElem?_eq_getElem hlt⟩;obtain ⟨t, htk⟩ : ∃ t, fs[k]? = some t := ⟨_, List.getElem?_eq_getElem (by have := hl.out; omega)⟩;have hna : Hid (numAt ws k = decOf x) := by show numAt ws k = _; unfold numAt; rw [List.getD, hx]; rfl
   have hcx : wz.cell? ⟨g, o + k, none⟩ = some (.string x) := (hq.out.2.1.cell (p := ⟨g, o + k, none⟩) hg).trans (hc.out k x hx);have hcall := hidR (decimalIn_in x (hz.out x (List.mem_of_getElem? hx)) wz (qa2 ht.out hq.out.2.1) (hE.out.below hq.out.2.1))
   have hno : Hid (decOf x = none → ¬ NumsOk ws fs ws.length) := fun h hh => by
    obtain ⟨n, t', h1, _⟩ := hh k hlt;rw [hna.out, h] at h1
    cases h1
   have hno2 : Hid (∀ n, decOf x = some n → t.q n = false → ¬ NumsOk ws fs ws.length) := fun n h h2 hh => by
    obtain ⟨n', t', h1, h3, h4⟩ := hh k hlt;rw [hna.out, h] at h1;rw [htk] at h3
    cases h1
    cases h3
    rw [h2] at h4
    cases h4
   have hfc2 : Hid (∀ y, Below wz.heap.size wz y → y.cell? ⟨fb, k, none⟩ = some (.func (.func t.f) t.bd.toArray #[])) := fun y hy =>
    ((hq.out.2.1.trans (hy.mono hq.out.2.1.size)).cell (p := ⟨fb, k, none⟩) hfb).trans (hf.out k t htk)
   have hft := hidR (hok.out t (List.mem_of_getElem? htk));replace hx := hidR hx;replace htk := hidR htk;go_wp2_with fail;refine Calls.mono hcall.out ?_;rintro e y1 ⟨hd, b1⟩;clear hcall hcx;rcases hd with ⟨n, hdn, rfl⟩ | ⟨hdn, rfl⟩
   ·have hI := (decOf_some hdn).1;have hcf := hfc2.out y1 b1;have by1 := hq.out.2.1.trans (b1.mono hq.out.2.1.size);replace hdn := hidR hdn;have hfl : fb < y1.heap.size := Nat.lt_of_lt_of_le hfb by1.size;go_wp2_with fail;have hcl := hidR (hft.out.2 y1 by1 n hI);rw [hft.out.1];go_wp2_with fail;refine Calls.mono hcl.out ?_;rintro e y2 ⟨rfl, b2⟩;have by2 := by1.trans (b2.mono by1.size);have hrow := World.rowIs.of_block (World.rowIs.of_block hq.out.1 (b1.block _ (World.rowIs.lt hq.out.1))) (b2.block _ (Nat.lt_of_lt_of_le (World.rowIs.lt hq.out.1) b1.size));clear hcl hcf hft hfc2
    cases hqn : t.q n with
    | false =>
     have hn0 := hidR (hno2.out n hdn.out hqn);clear hno hno2 hna hqn hrow;go_wp2_with fail;exact bodyPost_ret (v := .tuple #[.slice none 0 0, .bool false]) (by simp [results, Tryz.results116, go_sem]) rfl ⟨.inr ⟨hn0.out, rfl⟩, by rw [← hB.out]; exact by2⟩
    | true =>
     have q1 := hrow.cell hlt;have f1 := hrow.frozen k;have hl1 := hrow.lt;have hrow2 := hrow.set k (.int .i64 n);have bb := Below.setCell by2 (p := ⟨B, k, none⟩) (show w.heap.size ≤ B by rw [hB.out]; exact Nat.le_refl _) (.int .i64 n)
     have hrel : Hid ((y2.setCell ⟨B, k, none⟩ (.int .i64 n)).rowIs B 3 ws.length (fun j => if j < k + 1 then .int .i64 ((numAt ws j).getD 0) else .int .i64 0) ∧ Below w.heap.size w (y2.setCell ⟨B, k, none⟩ (.int .i64 n)) ∧ NumsOk ws fs (k + 1)) := by
      refine ⟨hrow2.congr (fun j hj => ?_), bb, fun j hj => ?_⟩
      ·by_cases e1 : j = k
       ·subst e1; rw [if_pos rfl, if_pos (by omega), hna.out, hdn.out]; rfl
       ·rw [if_neg e1];by_cases e2 : j < k
        ·rw [if_pos e2, if_pos (by omega)]
        ·rw [if_neg e2, if_neg (by omega)]
      ·by_cases e1 : j = k
       ·subst e1; exact ⟨n, t, by rw [hna.out, hdn.out], htk.out, hqn⟩
       ·exact hq.out.2.2 j (by omega)
     clear hrow hrow2 bb hq hno hno2 hna hqn by2 by1;go_wp2_with fail;go_roundw;case rel => exact ⟨k + 1, by go_num, by omega, hrel.out⟩
     case measure => clear hrel; simp only [intOf]; omega
   ·have hn0 := hidR (hno.out hdn);have by1 := hq.out.2.1.trans (b1.mono hq.out.2.1.size);clear hno hno2 hdn hna;go_wp2_with fail;exact bodyPost_ret (v := .tuple #[.slice none 0 0, .bool false]) (by simp [results, Tryz.results116, go_sem]) rfl ⟨.inr ⟨hn0.out, rfl⟩, by rw [← hB.out]; exact by1⟩
  ·obtain rfl : k = ws.length := by omega
   have hkI : ¬ ((ws.length : Nat) : Int) < (ws.length : Int) := by omega
   have hfin : Hid (qh3 ws fs B (.returned (.tuple #[.slice (some ⟨B, 0, none⟩) ws.length ws.length, .bool true])) wz) := .inl ⟨hq.out.2.2, rfl, World.rowIs.congr hq.out.1 (fun j hj => by rw [if_pos hj])⟩;have hbel := hq.out.2.1;clear hq;go_wp2_with fail;exact bodyPost_ret (v := .tuple #[.slice (some ⟨B, 0, none⟩) ws.length ws.length, .bool true]) (by simp [results, Tryz.results116, go_sem]) rfl ⟨hfin.out, by rw [← hB.out]; exact hbel⟩
noncomputable def fitN : Fit := ⟨98, [], fun n => decide (0 ≤ n ∧ n ≤ 16777215)⟩
noncomputable def fitM : Fit := ⟨120, [], fun n => decide ((0 ≤ n ∧ n ≤ 4294967295) ∧ n % 64 > 33)⟩
noncomputable def fitH (k : Nat) (hi : Int) : Fit := ⟨121, [.int .i64 (k : Int)], fun n => decide (0 ≤ n ∧ n ≤ hi)⟩
noncomputable def fitW : Fit := ⟨124, [], fun n => decide (-131072 ≤ n ∧ n ≤ 131071)⟩
theorem within_b (n lo hi : Int) (w : World) : Calls Tryz.prog 28 #[.int .i64 n, .int .i64 lo, .int .i64 hi] w fun e w' => e = .returned (.bool (decide (lo ≤ n ∧ n ≤ hi))) ∧ w = w' :=
 (qh7 n lo hi w).mono fun e w' ⟨⟨r, he, hr⟩, hw⟩ => ⟨by
  rw [he]
  congr 2
  cases r
  ·exact (decide_eq_false (fun h => by simpa using hr.2 h)).symm
  ·exact (decide_eq_true (hr.1 rfl)).symm, by first | exact hw | exact hw.symm⟩
theorem fitN_ok (w : World) : FitOk w fitN := by
 refine ⟨fun args y => by show (callFunc 98 args).run Tryz.prog y = .ok (.enter 98 args) y; kernel_rfl, fun y hy n hI => ?_⟩;show Calls Tryz.prog 98 #[.int .i64 n] y fun e w' => e = .returned (.bool (decide (0 ≤ n ∧ n ≤ 16777215))) ∧ Below y.heap.size y w';have hc := hidR (within_b n 0 16777215 y);generalize decide (0 ≤ n ∧ n ≤ 16777215) = b at hc ⊢;go_enter Tryz.func98, Tryz.ntmps98;go_wp2_with fail;refine Calls.mono hc.out ?_;rintro e y2 ⟨rfl, rfl⟩;go_wp2_with fail;exact bodyPost_ret (v := .bool b) (by simp [results, Tryz.results98, go_sem]) rfl ⟨rfl, Below.refl _ _⟩
theorem field_op (x a1 a2 a3 a4 : Int) (y : World) : (Instr.field 88 (.agg #[.int .i64 x, .int .i64 a1, .int .i64 a2, .int .i64 a3, .int .i64 a4]) 0).run Tryz.prog y = .ok (.int .i64 x) y := by kernel_rfl
theorem fitM_ok (w : World) (hS : Spans w) : FitOk w fitM := by
 refine ⟨fun args y => by show (callFunc 120 args).run Tryz.prog y = .ok (.enter 120 args) y; kernel_rfl, fun y hy n hI => ?_⟩;show Calls Tryz.prog 120 #[.int .i64 n] y fun e w' => e = .returned (.bool (decide ((0 ≤ n ∧ n ≤ 4294967295) ∧ n % 64 > 33))) ∧ Below y.heap.size y w';have hc := hidR (within_b n 0 4294967295 y);by_cases hn : 0 ≤ n ∧ n ≤ 4294967295
 ·rw [decide_eq_true hn] at hc;have hun := hidR (unpackI n y (hS.below hy) hn.1 hn.2);have hw : IntKind.u32.wrap n = n := by rw [IntKind.wrap_u32]; omega
  have hop : opW n = n % 64 := rfl;rw [hop] at hun;generalize aW n = a1 at hun;generalize bW n = a2 at hun;generalize cW n = a3 at hun;generalize sW n = a4 at hun;unfold insV at hun;obtain ⟨b, hb⟩ : ∃ b, decide ((0 ≤ n ∧ n ≤ 4294967295) ∧ n % 64 > 33) = b := ⟨_, rfl⟩;rw [hb];have hb2 : decide (n % 64 > 33) = b := by rw [← hb]; simp [hn]
  replace hb := hidR hb;go_enter Tryz.func120, Tryz.ntmps120;go_wp2_with fail;refine Calls.mono hc.out ?_;rintro e y2 ⟨rfl, rfl⟩;go_wp2_with fail;refine Calls.mono hun.out ?_;rintro e y3 ⟨rfl, b3⟩;have hfd := field_op (n % 64) a1 a2 a3 a4 y3;go_wp2_with fail;refine bodyPost_ret (v := .bool b) ?_ rfl ⟨rfl, b3⟩;simp [results, Tryz.results120, go_sem, ← hb2]
 ·rw [decide_eq_false hn] at hc;have hd : decide ((0 ≤ n ∧ n ≤ 4294967295) ∧ n % 64 > 33) = false := decide_eq_false fun h => hn h.1;rw [hd];clear hd hn;go_enter Tryz.func120, Tryz.ntmps120;go_wp2_with fail;refine Calls.mono hc.out ?_;rintro e y2 ⟨rfl, rfl⟩;go_wp2_with fail;exact bodyPost_ret (v := .bool false) (by simp [results, Tryz.results120, go_sem]) rfl ⟨rfl, Below.refl _ _⟩
theorem fitW_ok (w : World) : FitOk w fitW := by
 refine ⟨fun args y => by show (callFunc 124 args).run Tryz.prog y = .ok (.enter 124 args) y; kernel_rfl, fun y hy n hI => ?_⟩;show Calls Tryz.prog 124 #[.int .i64 n] y fun e w' => e = .returned (.bool (decide (-131072 ≤ n ∧ n ≤ 131071))) ∧ Below y.heap.size y w';by_cases h1 : n ≥ -131072
 ·by_cases h2 : n ≤ 131071
  ·rw [decide_eq_true ⟨h1, h2⟩];go_enter Tryz.func124, Tryz.ntmps124;go_wp2_with fail;exact bodyPost_ret (v := .bool true) (by simp [results, Tryz.results124, go_sem]) rfl ⟨rfl, by go_grown⟩
  ·rw [decide_eq_false fun h => h2 h.2];go_enter Tryz.func124, Tryz.ntmps124;go_wp2_with fail;exact bodyPost_ret (v := .bool false) (by simp [results, Tryz.results124, go_sem] <;> omega) rfl ⟨rfl, by go_grown⟩
 ·rw [decide_eq_false fun h => h1 h.1];go_enter Tryz.func124, Tryz.ntmps124;go_wp2_with fail;exact bodyPost_ret (v := .bool false) (by simp [results, Tryz.results124, go_sem] <;> omega) rfl ⟨rfl, by go_grown⟩
theorem fitH_ok (w : World) (hS : Spans w) : FitOk w (fitH 1 255) ∧ FitOk w (fitH 2 511) ∧ FitOk w (fitH 3 511) := by
 have hcf : ∀ args y, (callFunc 121 args).run Tryz.prog y = .ok (.enter 121 args) y := fun args y => by kernel_rfl
 refine ⟨⟨hcf, fun y hy n hI => ?_⟩, ⟨hcf, fun y hy n hI => ?_⟩, ⟨hcf, fun y hy n hI => ?_⟩⟩
 ·show Calls Tryz.prog 121 #[.int .i64 1, .int .i64 n] y fun e w' => e = .returned (.bool (decide (0 ≤ n ∧ n ≤ 255))) ∧ Below y.heap.size y w';by_cases h : 0 ≤ n ∧ n ≤ 255
  ·rw [decide_eq_true h];exact (qg1 n y (hS.below hy).c3 h.1 h.2).mono fun e w' ⟨he, hw⟩ => ⟨he, by rw [hw]; exact Below.refl _ _⟩
  ·rw [decide_eq_false h];exact (holds1_no n y (hS.below hy).c3 (by omega)).mono fun e w' ⟨he, hw⟩ => ⟨he, by rw [hw]; exact Below.refl _ _⟩
 ·show Calls Tryz.prog 121 #[.int .i64 2, .int .i64 n] y fun e w' => e = .returned (.bool (decide (0 ≤ n ∧ n ≤ 511))) ∧ Below y.heap.size y w';by_cases h : 0 ≤ n ∧ n ≤ 511
  ·rw [decide_eq_true h];exact (holds2_yes n y (hS.below hy).c5 h.1 h.2).mono fun e w' ⟨he, hw⟩ => ⟨he, by rw [hw]; exact Below.refl _ _⟩
  ·rw [decide_eq_false h];exact (holds2_no n y (hS.below hy).c5 (by omega)).mono fun e w' ⟨he, hw⟩ => ⟨he, by rw [hw]; exact Below.refl _ _⟩
 ·show Calls Tryz.prog 121 #[.int .i64 3, .int .i64 n] y fun e w' => e = .returned (.bool (decide (0 ≤ n ∧ n ≤ 511))) ∧ Below y.heap.size y w';by_cases h : 0 ≤ n ∧ n ≤ 511
  ·rw [decide_eq_true h];exact (holds3_yes n y (hS.below hy).c7 h.1 h.2).mono fun e w' ⟨he, hw⟩ => ⟨he, by rw [hw]; exact Below.refl _ _⟩
  ·rw [decide_eq_false h];exact (holds3_no n y (hS.below hy).c7 (by omega)).mono fun e w' ⟨he, hw⟩ => ⟨he, by rw [hw]; exact Below.refl _ _⟩
def WordIn (R : Option Int) (e : Ending) : Prop := (∃ x, R = some x ∧ e = .returned (.tuple #[.int .u32 x, .bool true])) ∨ (R = none ∧ e = .returned (.tuple #[.int .u32 0, .bool false]))
structure Env (w : World) : Prop where
 pow : PowTab w
 err : ErrV w
 spans : Spans w
theorem Env.below {w w' : World} (h : Env w) (hb : Below w.heap.size w w') : Env w' := ⟨qa2 h.pow hb, h.err.below hb, h.spans.below hb⟩
theorem qf2 {p : ByteArray} {n hi : Int} (h : decOf p = some n) (h0 : 0 ≤ n) (h1 : n ≤ hi) : natOf p hi = n := by
 unfold natOf;rw [h];exact if_pos ⟨h0, h1⟩
theorem qd6 {p : ByteArray} {hi : Int} (h : 0 ≤ natOf p hi) : decOf p = some (natOf p hi) ∧ natOf p hi ≤ hi := by
 unfold natOf at h ⊢
 cases hd : decOf p with
 | none => rw [hd] at h; simp at h
 | some n =>
  rw [hd] at h;simp only at h ⊢;by_cases hc : 0 ≤ n ∧ n ≤ hi
  ·rw [if_pos hc]; exact ⟨rfl, hc.2⟩
  ·rw [if_neg hc] at h; omega
theorem wordIn_in (r : List ByteArray) (g o c : Nat) (w : World) (hcap : r.length ≤ c) (ho : o ≤ 1000) (hN : r.length ≤ 100000)
  (hc : ∀ (j : Nat) x, r[j]? = some x → w.cell? ⟨g, o + j, none⟩ = some (.string x)) (hg : g < w.heap.size) (hz : ∀ x ∈ r, x.size ≤ 100000) (hv : Env w) :
  Calls Tryz.prog 71 #[.slice (some ⟨g, o, none⟩) r.length c] w fun e w' => WordIn (wordN r) e ∧ Below w.heap.size w w' := by
 obtain ⟨w1, hw1⟩ : ∃ w1, w.alloc (.cells #[.func (.func 120) #[] #[]] 105) = w1 := ⟨_, rfl⟩;have bA : Below w.heap.size w w1 := by rw [← hw1]; exact (Below.refl _ _).alloc (Nat.le_refl _) _
 by_cases hl : r.length = 1
 ·match r, hl, hc, hz with
  | [p], _, hc, hz =>
   have hfc : w1.cell? ⟨w.heap.size, 0, none⟩ = some (fitV fitM) := by rw [← hw1]; exact (RowL.new w [.func (.func 120) #[] #[]] 105).cell 0 rfl
   have hwl : w.heap.size < w1.heap.size := by rw [← hw1, World.size_alloc]; omega
   have hcall := hidR (qe1 [p] [fitM] g o c w.heap.size 1 w1 rfl (by simp) hcap ho (fun j x hx => (bA.cell (p := ⟨g, o + j, none⟩) hg).trans (hc j x hx)) (by omega) hz (fun j t ht => by
    match j, ht with
    | 0, ht => simp at ht; subst ht; exact hfc) hwl (by simp) (fun t ht => by simp at ht; subst ht; exact fitM_ok w1 (hv.spans.below bA)) (qa2 hv.pow bA) (hv.err.below bA))
   have hyes : Hid (NumsOk [p] [fitM] 1 → ∃ n, numAt [p] 0 = some n ∧ wordN [p] = some n ∧ 0 ≤ n ∧ n ≤ 4294967295) := fun h => by
    obtain ⟨n, t, h1, h2, h3⟩ := h 0 (by omega);simp only [List.getElem?_cons_zero, Option.some.injEq] at h2;subst h2;have h4 : (0 ≤ n ∧ n ≤ 4294967295) ∧ n % 64 > 33 := of_decide_eq_true h3;have h5 := qf2 (hi := 4294967295) (show decOf p = some n from h1) h4.1.1 h4.1.2;exact ⟨n, h1, by show (if 0 ≤ natOf p 4294967295 ∧ natOf p 4294967295 % 64 > 33 then some (natOf p 4294967295) else none) = _; rw [h5, if_pos ⟨h4.1.1, h4.2⟩], h4.1⟩
   have hnot : Hid (¬ NumsOk [p] [fitM] 1 → wordN [p] = none) := fun h => by
    show (if 0 ≤ natOf p 4294967295 ∧ natOf p 4294967295 % 64 > 33 then some (natOf p 4294967295) else none) = _;refine if_neg fun h2 => h fun j hj => ?_;obtain rfl : j = 0 := by omega
    obtain ⟨h3, h4⟩ := qd6 h2.1;exact ⟨natOf p 4294967295, fitM, h3, rfl, decide_eq_true ⟨⟨h2.1, h4⟩, h2.2⟩⟩
   replace hw1 := hidR hw1;replace bA := hidR bA;clear hc hz hv hfc hcap;go_enter Tryz.func71, Tryz.ntmps71;go_wp2_with fail;rw [hw1.out];refine Calls.mono hcall.out ?_;rintro e y ⟨hE, b1⟩;have bz := bA.out.trans (b1.mono bA.out.size);clear hcall b1 hw1 bA;rcases hE with ⟨hok, rfl, hrow⟩ | ⟨hno, rfl⟩
   ·obtain ⟨n, hn1, hn2, hn3, hn4⟩ := hyes.out hok;have hcl := hrow.cell (i := 0) (by simp);rw [hn1] at hcl;replace hcl : y.cell? ⟨w1.heap.size, 0, none⟩ = some (.int .i64 n) := hcl;have hlt := hrow.lt;have hcw : IntKind.u32.wrap n = n := by rw [IntKind.wrap_u32]; omega
    clear hyes hnot hok hrow hn1;replace hn2 := hidR hn2;go_wp2_with fail;exact bodyPost_ret (v := .tuple #[.int .u32 n, .bool true]) (by simp [results, Tryz.results71, go_sem]) rfl ⟨.inl ⟨n, hn2.out, rfl⟩, bz⟩
   ·have hn := hidR (hnot.out hno);clear hyes hnot hno;go_wp2_with fail;exact bodyPost_ret (v := .tuple #[.int .u32 0, .bool false]) (by simp [results, Tryz.results71, go_sem]) rfl ⟨.inr ⟨hn.out, rfl⟩, bz⟩
 ·have hcall := hidR (qb7 r [fitM] (some ⟨g, o, none⟩) (some ⟨w.heap.size, 0, none⟩) c 1 w1 hl hN (by simp))
  have hn : Hid (wordN r = none) := by
   show wordN r = none;unfold wordN;split
   ·exact absurd rfl hl
   ·rfl
  replace hcall : Hid (Calls Tryz.prog 116 #[.slice (some ⟨g, o, none⟩) r.length c, .slice (some ⟨w.heap.size, 0, none⟩) 1 1] w1 fun e w' => e = .returned (.tuple #[.slice none 0 0, .bool false]) ∧ Below w1.heap.size w1 w') := hcall;replace hw1 := hidR hw1;clear hc hz hv;generalize r.length = m at *;go_enter Tryz.func71, Tryz.ntmps71;go_wp2_with fail;rw [hw1.out];refine Calls.mono hcall.out ?_;rintro e y ⟨rfl, b1⟩;have bz := bA.trans (b1.mono bA.size);clear hcall;go_wp2_with fail;exact bodyPost_ret (v := .tuple #[.int .u32 0, .bool false]) (by simp [results, Tryz.results71, go_sem]) rfl ⟨.inr ⟨hn.out, rfl⟩, bz⟩
end Go.Proofs.YtplijnfaiofckaaGreatDoor

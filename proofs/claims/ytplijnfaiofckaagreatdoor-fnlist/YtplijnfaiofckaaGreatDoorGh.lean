import Derived.Test.YtplijnfaiofckaaGreatDoorGg
import Derived.Test.YtplijnfaiofckaaGreatDoorShelb
namespace Go.Proofs.YtplijnfaiofckaaGreatDoor
open Go.RowKit Go.Shelf
set_option linter.unusedVariables false
set_option linter.unusedSimpArgs false
set_option maxRecDepth 100000
set_option maxHeartbeats 9000000
def hx (n : Nat) : Nat := [48, 49, 50, 51, 52, 53, 54, 55, 56, 57, 97, 98, 99, 100, 101, 102].getD n 0
def hexL (l : List UInt8) : List Int := l.flatMap fun b => [(hx (b.toNat / 16) : Int), (hx (b.toNat % 16) : Int)]
def hexB (s : ByteArray) : ByteArray := strOfNums (hexL s.data.toList)
theorem hx_lt {n : Nat} (h : n < 16) : hx n < 256 := by
 have : ∀ k : Fin 16, hx k.val < 256 := by decide
 exact this ⟨n, h⟩
theorem strOfNums_app (a b : List Int) : strOfNums a ++ strOfNums b = strOfNums (a ++ b) := by
 apply ByteArray.ext;apply Array.ext';simp [strOfNums]
theorem hex_step (s : ByteArray) (i : Nat) (hi : i < s.size) : hexB (s.extract 0 i) ++ strOfNums [(hx ((s[i]'hi).toNat / 16) : Int), (hx ((s[i]'hi).toNat % 16) : Int)] = hexB (s.extract 0 (i + 1)) := by
 unfold hexB;rw [strOfNums_app]
 congr 1
 have e := ext_step s i hi
 have e2 : (s.extract 0 (i + 1)).data.toList = (s.extract 0 i).data.toList ++ [s[i]'hi] := by
  rw [← e];simp [strOfNums, ByteArray.data_append]
 rw [e2];simp [hexL]
theorem hexB_size (s : ByteArray) : (hexB s).size = 2 * s.size := by
 unfold hexB;rw [strOfNums_size]
 have : ∀ l : List UInt8, (hexL l).length = 2 * l.length := fun l => by
  induction l with
  | nil => rfl
  | cons b l ih => unfold hexL at *; rw [List.flatMap_cons, List.length_append, ih, List.length_cons]; simp; omega
 rw [this, Array.length_toList];rfl
theorem idx_fin : ∀ n : Fin 16, ((⟨#[48, 49, 50, 51, 52, 53, 54, 55, 56, 57, 97, 98, 99, 100, 101, 102]⟩ : ByteArray)[n.val]'n.isLt).toNat = hx n.val := by decide
theorem idx_hex (n : Nat) (h : n < 16) (wx : World) : (Instr.index 9 (.string ⟨#[48, 49, 50, 51, 52, 53, 54, 55, 56, 57, 97, 98, 99, 100, 101, 102]⟩) (.int .u8 (n : Int))).run Tryz.prog wx = .ok (.int .u8 (hx n : Int)) wx := by
 have hI : (n : Int) < 16 := by omega
 have e := idx_fin ⟨n, h⟩;dsimp only at e;rw [← e];go_simp
theorem strCells_two {a b : Nat} (ha : a < 256) (hb : b < 256) : Lib.strCells (strOfNums [(a : Int), (b : Int)]) = [.int .u8 (a : Int), .int .u8 (b : Int)] := by
 simp [Lib.strCells, strOfNums];omega
theorem below_grown {n : Nat} {a b b' : World} {q : Option Nat} (h : Below n a b) (hg : b.grownBy b' q) (hq : ∀ k, q = some k → n ≤ k) (hn : n ≤ b.heap.size) : Below n a b' :=
 ⟨hg.os.trans h.os, hg.tape.trans h.tape, hg.output.trans h.output, Nat.le_trans h.size hg.size, fun i hi => (hg.block i (by omega) (fun e => by have := hq i (by first | exact e | exact e.symm); omega)).trans (h.block i hi)⟩
theorem l6Hex_in (s : ByteArray) (w : World) (hs : s.size ≤ 100000) :
  Calls Tryz.prog 113 #[.string s] w fun e w' => e = .returned (.string (hexB s)) ∧ Below w.heap.size w w' := by
 go_enter Tryz.func113, Tryz.ntmps113;go_wp2_with fail;go_loopw [3, 4] (fun o iv wr => ∃ i : Nat, iv = .int .i64 (i : Int) ∧ i ≤ s.size ∧ Hid (Buf wr 5 o (hexB (s.extract 0 i)) ∧ (∀ k, o.ownBlock = some k → w.heap.size ≤ k) ∧ Below w.heap.size w wr)) (fun _ i _ => s.size - (intOf i).toNat)
 case atStart =>
  refine ⟨0, rfl, Nat.zero_le _, ?_, fun k hk => ?_, (Below.refl _ _).alloc (Nat.le_refl _) _⟩
  ·have e0 : hexB (s.extract 0 0) = ⟨#[]⟩ := by rw [show s.extract 0 0 = ⟨#[]⟩ by simp; rfl]; rfl
   rw [e0];exact .inr ⟨w.heap.size, 0, #[], (0, 0), rfl, heap_alloc_new _ _, .inl rfl, Nat.le_refl _, Nat.zero_le _, rfl, rfl⟩
  ·simp [Value.ownBlock] at hk;omega
 case round =>
  obtain ⟨i, rfl, hin, hq⟩ := hrel;obtain ⟨a0, c0, rfl⟩ := hq.out.1.form;by_cases hlt : i < s.size
  ·have hii : (i : Int) < (s.size : Int) := by omega
   obtain ⟨x, hxe⟩ : ∃ x : Nat, (s[i]'hlt).toNat = x := ⟨_, rfl⟩;have hx256 : x < 256 := by rw [← hxe]; exact UInt8.toNat_lt _
   have hst := show Hid _ from hex_step s i hlt;rw [hxe] at hst;obtain ⟨xh, hxh⟩ : ∃ z : Nat, x / 16 = z := ⟨_, rfl⟩;obtain ⟨xl, hxl⟩ : ∃ z : Nat, x % 16 = z := ⟨_, rfl⟩;rw [hxh, hxl] at hst;have lh : xh < 16 := by omega
   have ll : xl < 16 := by omega
   have q1 : (x : Int) / 16 = (xh : Int) := by omega
   have q2 : (x : Int) % 16 = (xl : Int) := by omega
   have q3 : (x : Int).tdiv 16 = (xh : Int) := by rw [Int.tdiv_eq_ediv_of_nonneg (by omega)]; exact q1
   have q4 : (x : Int).tmod 16 = (xl : Int) := by rw [Int.tmod_eq_emod_of_nonneg (by omega)]; exact q2
   have w1 : IntKind.u8.wrap (xh : Int) = (xh : Int) := by simp [IntKind.wrap, IntKind.bits, IntKind.signed]; omega
   have w2 : IntKind.u8.wrap (xl : Int) = (xl : Int) := by simp [IntKind.wrap, IntKind.bits, IntKind.signed]; omega
   have d1 := fun wx => idx_hex xh lh wx;have d2 := fun wx => idx_hex xl ll wx;clear hxh hxl;obtain ⟨i0, hi, hz0, hz1, hz2⟩ := info_parts info8;go_upto_region 5 with fail;refine wp_region_held_drew (S := fun _ => True) (by kernel_rfl) trivial (fun hH => ?_);clear hH;have hB := show Hid (Buf wr.drew 5 (.slice a0 (hexB (s.extract 0 i)).size c0) (hexB (s.extract 0 i))) from hq.out.1.keep (fun k hk => rfl);have hD := show Hid _ from hq.out.2.2.drew;have hO := show Hid _ from hq.out.2.1;clear hq;generalize wr.drew = yz at hB hD ⊢;refine tkd 0 12 (.slice a0 (hexB (s.extract 0 i)).size c0) trivial ?_;refine tkd 1 13 (.string s) trivial ?_;refine tkd 2 14 (.int .i64 (i : Int)) trivial ?_;refine tkd 3 15 (.int .u8 (x : Int)) trivial ?_;refine tkd 4 16 (.int .u8 (xh : Int)) trivial ?_;refine tkd 5 17 (.int .u8 (hx xh : Int)) trivial ?_;refine tkd 6 18 (.string s) trivial ?_;refine tkd 7 19 (.int .i64 (i : Int)) trivial ?_;refine tkd 8 20 (.int .u8 (x : Int)) trivial ?_;refine tkd 9 21 (.int .u8 (xl : Int)) trivial ?_;refine tkd 10 22 (.int .u8 (hx xl : Int)) trivial ?_;clear q1 q2 q3 q4 w1 w2 d1 d2;refine rdy1 11 (fun K hK => ?_);go_simp;refine hK.out _ _ trivial (fun hzz => ?_);clear hK K hzz;try simp only [tK]
   refine rdy1 12 (fun K hK => ?_);refine qf4 _ rfl (.tmp 12) (.tmp 23) 22 rfl 5 i0 Tryz.underlying22 hi hz0 hz1 hz2 _ (hexB (s.extract 0 i)) rfl (hB.out.keep (fun k hk => Below.heap_alloc _ _ _ (hB.out.lt k hk))) (strOfNums [(hx xh : Int), (hx xl : Int)]) ⟨yz.heap.size, 0, none⟩ 2 2 rfl (strOfNums_size _) (by omega) ?c1 ?c2 ?_;case c1 => rw [strCells_two (hx_lt lh) (hx_lt ll)]; exact World.news_of_block (heap_alloc_new _ _)
   case c2 =>
    have e1 := hexB_size (s.extract 0 i);have e2 : (s.extract 0 i).size ≤ s.size := by simp; omega
    rw [strOfNums_size];simp only [List.length_cons, List.length_nil];omega
   intro v' w1 hB1 hg ho;rw [hst.out] at hB1;have hD2 : Below w.heap.size w (yz.alloc (.cells #[.int .u8 (hx xh : Int), .int .u8 (hx xl : Int)] 5)) := hD.out.alloc hD.out.size _
   have hO2 : ∀ k, v'.ownBlock = some k → w.heap.size ≤ k := fun k hk => by
    rcases ho with e | e
    ·rw [e] at hk; exact hO.out k hk
    ·rw [e] at hk;have e2 := Option.some.inj hk;have := hD2.size;omega
   have hrel : Hid (Buf w1 5 v' (hexB (s.extract 0 (i + 1))) ∧ (∀ k, v'.ownBlock = some k → w.heap.size ≤ k) ∧ Below w.heap.size w w1) := ⟨hB1, hO2, below_grown hD2 hg hO.out (by have := hD2.size; omega)⟩;obtain ⟨a1, c1, rfl⟩ := hB1.form;clear hB hD hO hB1 hg ho hD2 hO2 hi hz0 hz1 hz2 hst;generalize (hexB (s.extract 0 (i + 1))).size = nn at hrel ⊢;refine hK.out _ _ trivial (fun hzz => ?_);clear hK K hzz;try simp only [tK]
   refine rdy1 13 (fun K hK => ?_);go_simp;refine hK.out _ _ trivial (fun hzz => ?_);clear hK K hzz;try simp only [tK]
   refine wpAnyH_done (by kernel_rfl) ?_ _;go_wp2_with fail;go_roundw;case rel => exact ⟨i + 1, by go_num, by omega, hrel.out⟩
   case measure => clear hrel; simp only [intOf]; omega
  ·obtain rfl : i = s.size := by omega
   have hcv := conv_buf (P := Tryz.prog) 22 9 5 Tryz.underlying22 Tryz.underlying5 Tryz.underlying9 hq.out.1;have hfin : hexB (s.extract 0 s.size) = hexB s := by simp
   rw [hfin] at hcv hq;have hb := show Hid _ from hq.out.2.2;clear hq hfin;rw [show (s.extract 0 s.size) = s by simp] at *;go_wp2_with fail;go_ret;exact ⟨rfl, hb.out⟩
theorem makeB (n : Nat) (hn : n ≤ 1000000) (w : World) : (Instr.makeSlice 22 (.int .i64 0) (.int .i64 (n : Int))).run Tryz.prog w = .ok (.slice (some ⟨w.heap.size, 0, none⟩) 0 n) (w.alloc (.cells (madeCells #[.int .u8 0] n) 5)) := by
 obtain ⟨i, hi, he⟩ := Option.map_eq_some_iff.1 info8;simp only [Prod.mk.injEq] at he;have := run_makeSlice (P := Tryz.prog) w 22 5 i (.int .u8 0) Tryz.underlying22 hi he.1 .i64 .i64 0 n (by omega) (by omega) (by rw [he.2.1, Int.toNat_natCast]; omega) (by rw [he.2.2]; omega) (by omega);rw [he.2.1, Int.toNat_natCast, Nat.mul_one] at this;exact this
theorem hexOf_in (s : ByteArray) (w : World) (hs : s.size ≤ 100000) :
  Calls Tryz.prog 108 #[.string s] w fun e w' => e = .returned (.string (hexB s)) ∧ Below w.heap.size w w' := by
 have hmk := makeB (2 * s.size) (by omega) w;rw [show ((2 * s.size : Nat) : Int) = 2 * (s.size : Int) by omega] at hmk;obtain ⟨y0, hy0⟩ : ∃ y0, w.alloc (.cells (madeCells #[.int .u8 0] (2 * s.size)) 5) = y0 := ⟨_, rfl⟩
 have hB0 : Buf y0 5 (.slice (some ⟨w.heap.size, 0, none⟩) 0 (2 * s.size)) ⟨#[]⟩ := by
  rw [← hy0];exact .inr ⟨w.heap.size, 2 * s.size, _, (0, 0), rfl, heap_alloc_new _ _, .inl rfl, Nat.zero_le _, by simp only [maxLen]; omega, size_madeCells _ _, rfl⟩
 have b0 : Below w.heap.size w y0 := by rw [← hy0]; exact (Below.refl _ _).alloc (Nat.le_refl _) _
 have z0 : y0.heap.size = w.heap.size + 1 := by rw [← hy0, World.size_alloc]
 rw [hy0] at hmk;have hcv := Go.Lib.run_convert_string_bytes (P := Tryz.prog) y0 9 22 5 s Tryz.underlying9 Tryz.underlying22 Tryz.underlying5;have hb : y0.heap.size < (Go.Lib.bytesWorld y0 5 s).heap.size := by rw [Go.Lib.bytesWorld_size]; omega
 have hbel : Below y0.heap.size y0 (Go.Lib.bytesWorld y0 5 s) := ⟨rfl, rfl, rfl, by rw [Go.Lib.bytesWorld_size]; omega, fun k hk => Go.Lib.bytesWorld_at_old y0 5 s k hk⟩
 have hc : ∀ j (h : j < s.size), (Go.Lib.bytesWorld y0 5 s).cell? ⟨y0.heap.size, j, none⟩ = some (.int .u8 (s[j].toNat : Int)) := fun j hj => by
  rw [Go.Lib.bytesWorld_cell y0 5 s j hj];simp [List.getD, ByteArray.getElem_eq_getElem_data, hj]
 generalize Go.Lib.bytesWorld y0 5 s = y1 at hcv hb hbel hc;generalize grownCap y0 s.size 0 5 = cap at hcv;have hB1 : Hid (Buf y1 5 (.slice (some ⟨w.heap.size, 0, none⟩) 0 (2 * s.size)) ⟨#[]⟩) := hB0.keep fun k hk => hbel.block k (hB0.lt k hk);have b1 : Hid (Below w.heap.size w y1) := b0.trans (hbel.mono b0.size);replace hc : Hid _ := hc;obtain ⟨T, hT⟩ : ∃ T, y0.heap.size = T := ⟨_, rfl⟩;rw [hT] at hcv hc hb;have hTw : T = w.heap.size + 1 := by omega
 replace hTw : Hid _ := hTw;clear hB0 b0 hbel hT z0 hy0;go_enter Tryz.func108, Tryz.ntmps108;go_wp2_with fail;clear hmk hcv;go_loopw [3, 13] (fun o iv wr => ∃ i : Nat, iv = .int .i64 (i : Int) ∧ i ≤ s.size ∧ Hid (Buf wr 5 o (hexB (s.extract 0 i)) ∧ (∀ k, o.ownBlock = some k → w.heap.size ≤ k ∧ k ≠ T) ∧ Below w.heap.size w wr ∧ wr.heap[T]? = y1.heap[T]? ∧ T < wr.heap.size)) (fun _ i _ => s.size - (intOf i).toNat)
 case atStart =>
  refine ⟨0, rfl, Nat.zero_le _, ?_, fun k hk => ?_, b1.out, rfl, hb⟩
  ·have e0 : hexB (s.extract 0 0) = ⟨#[]⟩ := by rw [show s.extract 0 0 = ⟨#[]⟩ by simp; rfl]; rfl
   rw [e0];exact hB1.out
  ·have e : w.heap.size = k := by simpa [Value.ownBlock] using hk
   have := hTw.out;omega
 case round =>
  obtain ⟨i, rfl, hin, hq⟩ := hrel;obtain ⟨a0, c0, rfl⟩ := hq.out.1.form;by_cases hlt : i < s.size
  ·have hii : (i : Int) < (s.size : Int) := by omega
   obtain ⟨x, hxe⟩ : ∃ x : Nat, (s[i]'hlt).toNat = x := ⟨_, rfl⟩;have hx256 : x < 256 := by rw [← hxe]; exact UInt8.toNat_lt _
   have hcx : wr.cell? ⟨T, i, none⟩ = some (.int .u8 (x : Int)) := by
    rw [← hxe];exact (World.cell?_of_block (a := ⟨T, i, none⟩) hq.out.2.2.2.1).trans (hc.out i hlt)
   have hst := show Hid _ from hex_step s i hlt;rw [hxe] at hst;obtain ⟨xh, hxh⟩ : ∃ z : Nat, x / 16 = z := ⟨_, rfl⟩;obtain ⟨xl, hxl⟩ : ∃ z : Nat, x % 16 = z := ⟨_, rfl⟩;rw [hxh, hxl] at hst;have lh : xh < 16 := by omega
   have ll : xl < 16 := by omega
   have q1 : (x : Int) / 16 = (xh : Int) := by omega
   have q2 : (x : Int) % 16 = (xl : Int) := by omega
   have q3 : (x : Int).tdiv 16 = (xh : Int) := by rw [Int.tdiv_eq_ediv_of_nonneg (by omega)]; exact q1
   have q4 : (x : Int).tmod 16 = (xl : Int) := by rw [Int.tmod_eq_emod_of_nonneg (by omega)]; exact q2
   have w1 : IntKind.u8.wrap (xh : Int) = (xh : Int) := by simp [IntKind.wrap, IntKind.bits, IntKind.signed]; omega
   have w2 : IntKind.u8.wrap (xl : Int) = (xl : Int) := by simp [IntKind.wrap, IntKind.bits, IntKind.signed]; omega
   have d1 := fun wx => idx_hex xh lh wx;have d2 := fun wx => idx_hex xl ll wx;clear hxh hxl;obtain ⟨i0, hi, hz0, hz1, hz2⟩ := info_parts info8;go_upto_region 5 with fail;clear hcx;refine wp_region_held_drew (S := fun _ => True) (by kernel_rfl) trivial (fun hH => ?_);clear hH;have hB := show Hid (Buf wr.drew 5 (.slice a0 (hexB (s.extract 0 i)).size c0) (hexB (s.extract 0 i))) from hq.out.1.keep (fun k hk => rfl);have hD := show Hid _ from hq.out.2.2.1.drew;have hO := show Hid _ from hq.out.2.1;have hTT := show Hid (wr.drew.heap[T]? = y1.heap[T]? ∧ T < wr.drew.heap.size) from hq.out.2.2.2;clear hq;generalize wr.drew = yz at hB hD hTT ⊢;refine tkd 0 17 (.slice a0 (hexB (s.extract 0 i)).size c0) trivial ?_;refine tkd 1 18 (.int .u8 (x : Int)) trivial ?_;refine tkd 2 19 (.int .u8 (xh : Int)) trivial ?_;refine tkd 3 20 (.int .u8 (hx xh : Int)) trivial ?_;refine tkd 4 21 (.int .u8 (x : Int)) trivial ?_;refine tkd 5 22 (.int .u8 (xl : Int)) trivial ?_;refine tkd 6 23 (.int .u8 (hx xl : Int)) trivial ?_;clear q1 q2 q3 q4 w1 w2 d1 d2;refine rdy1 7 (fun K hK => ?_);go_simp;refine hK.out _ _ trivial (fun hzz => ?_);clear hK K hzz;try simp only [tK]
   refine rdy1 8 (fun K hK => ?_);refine qf4 _ rfl (.tmp 17) (.tmp 24) 22 rfl 5 i0 Tryz.underlying22 hi hz0 hz1 hz2 _ (hexB (s.extract 0 i)) rfl (hB.out.keep (fun k hk => Below.heap_alloc _ _ _ (hB.out.lt k hk))) (strOfNums [(hx xh : Int), (hx xl : Int)]) ⟨yz.heap.size, 0, none⟩ 2 2 rfl (strOfNums_size _) (by omega) ?c1 ?c2 ?_;case c1 => rw [strCells_two (hx_lt lh) (hx_lt ll)]; exact World.news_of_block (heap_alloc_new _ _)
   case c2 =>
    have e1 := hexB_size (s.extract 0 i);have e2 : (s.extract 0 i).size ≤ s.size := by simp; omega
    rw [strOfNums_size];simp only [List.length_cons, List.length_nil];omega
   intro v' w1 hB1 hg ho;rw [hst.out] at hB1;have hD2 : Below w.heap.size w (yz.alloc (.cells #[.int .u8 (hx xh : Int), .int .u8 (hx xl : Int)] 5)) := hD.out.alloc hD.out.size _;have hTl := hTT.out.2
   have hO2 : ∀ k, v'.ownBlock = some k → w.heap.size ≤ k ∧ k ≠ T := fun k hk => by
    rcases ho with e | e
    ·rw [e] at hk; exact hO.out k hk
    ·rw [e] at hk;have e2 := Option.some.inj hk;have := hD2.size;rw [World.size_alloc] at e2;rw [World.size_alloc] at this;omega
   have hT2 : w1.heap[T]? = y1.heap[T]? := (hg.block T (by rw [World.size_alloc]; omega) (fun e => (hO.out T (by first | exact e | exact e.symm)).2 rfl)).trans ((Below.heap_alloc _ _ _ hTl).trans hTT.out.1);have hrel : Hid (Buf w1 5 v' (hexB (s.extract 0 (i + 1))) ∧ (∀ k, v'.ownBlock = some k → w.heap.size ≤ k ∧ k ≠ T) ∧ Below w.heap.size w w1 ∧ w1.heap[T]? = y1.heap[T]? ∧ T < w1.heap.size) := ⟨hB1, hO2, below_grown hD2 hg (fun k e => (hO.out k e).1) (by have := hD2.size; omega), hT2, by have := hg.size; rw [World.size_alloc] at this; omega⟩;obtain ⟨a1, c1, rfl⟩ := hB1.form;clear hB hD hO hB1 hg ho hD2 hO2 hi hz0 hz1 hz2 hst hTT hT2;generalize (hexB (s.extract 0 (i + 1))).size = nn at hrel ⊢;refine hK.out _ _ trivial (fun hzz => ?_);clear hK K hzz;try simp only [tK]
   refine rdy1 9 (fun K hK => ?_);go_simp;refine hK.out _ _ trivial (fun hzz => ?_);clear hK K hzz;try simp only [tK]
   refine wpAnyH_done (by kernel_rfl) ?_ _;go_wp2_with fail;go_roundw;case rel => exact ⟨i + 1, by go_num, by omega, hrel.out⟩
   case measure => clear hrel; simp only [intOf]; omega
  ·obtain rfl : i = s.size := by omega
   have hcv := conv_buf (P := Tryz.prog) 22 9 5 Tryz.underlying22 Tryz.underlying5 Tryz.underlying9 hq.out.1;have hfin : hexB (s.extract 0 s.size) = hexB s := by simp
   rw [hfin] at hcv hq;have hb9 := show Hid _ from hq.out.2.2.1;clear hq hfin;rw [show (s.extract 0 s.size) = s by simp] at *;go_wp2_with fail;go_ret;exact ⟨rfl, hb9.out⟩
theorem formatUint0_small (u : Nat) (hu : u < 100) (w : World) :
  Calls Tryz.prog 141 #[.int .u64 (u : Int), .int .i64 10] w fun e w' => e = .returned (.string (dec (u : Int))) ∧ Below w.heap.size w w' := by
 have hs := show Hid _ from Any.internal_strconv_small Tryz.lays283 u hu w;have hI : (u : Int) < 100 := by omega
 have hd : Hid (dec (u : Int) = ⟨(Lib.decDigits u).toArray⟩) := by
  show dec (u : Int) = _;rw [dec_pos (by omega), Int.toNat_natCast]
 have hw64 : wrap64 (u : Int) = (u : Int) := by unfold wrap64; omega
 go_enter Tryz.func141, Tryz.ntmps141;go_wp2_with fail;refine Calls.mono hs.out ?_;rintro e y ⟨rfl, rfl⟩;clear hs;go_wp2_with fail;go_ret;exact ⟨by rw [hd.out]; rfl, Below.refl _ _⟩
theorem formatUint0_big (u : Nat) (hu : ¬ u < 100) (hu2 : u ≤ 4294967295) (w : World) (ht : PowTab w) :
  Calls Tryz.prog 141 #[.int .u64 (u : Int), .int .i64 10] w fun e w' => e = .returned (.string (dec (u : Int))) ∧ Below w.heap.size w w' := by
 have hI : ¬ (u : Int) < 100 := by omega
 have hd : Hid (dec (u : Int) = ⟨(Lib.decDigits u).toArray⟩) := by
  show dec (u : Int) = _;rw [dec_pos (by omega), Int.toNat_natCast]
 have hu64 : u < 18446744073709551616 := by omega
 have hnd20 : Lib.nDigits u ≤ 20 := by have := Lib.numDigits_eq u (by omega) hu64; split at this <;> omega
 have hn := show Hid (∀ y, PowTab y → Calls Tryz.prog 158 #[.int .u64 (u : Int)] y fun e w' => e = .returned (.int .i64 (Lib.nDigits u)) ∧ w' = y) from fun y hy => Any.internal_strconv_numDigits Tryz.laysM284 u (by omega) hu64 y hy;have ht' := show Hid _ from Lib.tabBelow_of_tabIs ht;have hH0 := Lib.holds_zero0 w 192 (Lib.nDigits u) (by omega);have hfmt := Any.internal_strconv_formatBase10 Tryz.lays285 w.heap.size 0 24 u (Array.replicate (Lib.nDigits u) 0) (w.alloc (.cells Lib.zeros24 192)) hH0 (by rw [Array.size_replicate]; exact Lib.lt_pow_nDigits u) hu64 (by rw [Array.size_replicate]; omega);rw [Array.size_replicate] at hfmt;replace hfmt := show Hid _ from hfmt;have HH0 := show Hid _ from hH0;have b0 := show Hid (Below w.heap.size w (w.alloc (.cells Lib.zeros24 192))) from (Below.refl _ _).alloc (Nat.le_refl _) _;have hndI : ((Lib.nDigits u : Nat) : Int) ≤ 24 := by omega
 clear hH0;go_enter Tryz.func141, Tryz.ntmps141;go_wp2_with fail;refine Calls.mono (hn.out _ (ht'.out _ b0.out)) ?_;rintro e y ⟨rfl, rfl⟩;clear hn ht';go_wp2_with fail;refine Calls.mono hfmt.out ?_;rintro e y ⟨rfl, k, v', dk, rfl, hF⟩
 have hcv : (convert 22 9 (.slice (some ⟨w.heap.size, 0, none⟩) (Lib.nDigits u) 24)).run Tryz.prog ((Sort.putRow (fun (b : UInt8) => Value.int .u8 (b.toNat : Int)) (w.alloc (.cells Lib.zeros24 192)) w.heap.size 0 dk).drewN k) = .ok (.string ⟨(Lib.decDigits u).toArray⟩) ((Sort.putRow (fun (b : UInt8) => Value.int .u8 (b.toNat : Int)) (w.alloc (.cells Lib.zeros24 192)) w.heap.size 0 dk).drewN k) := by
  have h := run_convert_bytes_back (P := Tryz.prog) ((Sort.putRow (fun (b : UInt8) => Value.int .u8 (b.toNat : Int)) (w.alloc (.cells Lib.zeros24 192)) w.heap.size 0 dk).drewN k) 22 9 5 ⟨w.heap.size, 0, none⟩ 24 (Lib.decDigits u) Tryz.underlying22 Tryz.underlying5 Tryz.underlying9 (fun j hj => by
   rw [Lib.row_is_numeral hF j hj, Lib.add_plain, World.cell?_drewN];exact Sort.cell?_putRow (fun (b : UInt8) => Value.int .u8 (b.toNat : Int)) _ w.heap.size 0 _ dk HH0.out (by rw [hF.size, Array.size_replicate]) j (by rw [hF.size]; rw [Lib.decDigits_length] at hj; exact hj))
  rw [Lib.decDigits_length] at h;exact h
 obtain ⟨os, eo⟩ := Lib.fin_at w (.cells Lib.zeros24 192) dk k 0
 have bf : Hid (Below w.heap.size w ((Sort.putRow (fun (b : UInt8) => Value.int .u8 (b.toNat : Int)) (w.alloc (.cells Lib.zeros24 192)) w.heap.size 0 dk).drewN k)) := by
  rw [eo];exact Lib.below_grow _ _ (Nat.le_refl _) _ _
 clear hfmt HH0 b0 hF eo;generalize ((Sort.putRow (fun (b : UInt8) => Value.int .u8 (b.toNat : Int)) (w.alloc (.cells Lib.zeros24 192)) w.heap.size 0 dk).drewN k) = yz at hcv bf ⊢;go_wp2_with fail;go_ret;exact ⟨by rw [hd.out]; rfl, bf.out⟩
theorem formatUint_in (u : Nat) (hu2 : u ≤ 4294967295) (w : World) (ht : PowTab w) :
  Calls Tryz.prog 110 #[.int .u64 (u : Int), .int .i64 10] w fun e w' => e = .returned (.string (dec (u : Int))) ∧ Below w.heap.size w w' := by
 have h : Hid (Calls Tryz.prog 141 #[.int .u64 (u : Int), .int .i64 10] w fun e w' => e = .returned (.string (dec (u : Int))) ∧ Below w.heap.size w w') := by
  by_cases hu : u < 100
  ·exact formatUint0_small u hu w
  ·exact formatUint0_big u hu hu2 w ht
 generalize dec (u : Int) = d at h ⊢;go_enter Tryz.func110, Tryz.ntmps110;go_wp2_with fail;refine Calls.mono h.out ?_;rintro e y ⟨rfl, hb⟩;go_wp2_with fail;go_ret;exact ⟨rfl, hb⟩
theorem freeze_other (w : World) (p : Addr) (n k : Nat) (h : k ≠ p.block) : (w.freeze p n).heap[k]? = w.heap[k]? := by
 unfold World.freeze;split
 ·rfl
 ·simp only [Array.getElem?_modify];rw [if_neg (by omega)]
theorem string_in (P : Nat) (U : List Value) (w0 : World) (v0 : Value) (y : World) (v : Value) (X : ByteArray) (h : Lw P U w0 v0 y v X) (h0 : X.size ≠ 0) (B : Nat) (hB : ∀ k, v.ownBlock = some k → B ≤ k) :
  Calls Tryz.prog 15 #[.pointer (some ⟨P, 0, none⟩)] y fun e w' => e = .returned (.string X) ∧ Below B y w' ∧ ∀ k, v.ownBlock ≠ some k → w'.heap[k]? = y.heap[k]? := by
 obtain ⟨a, ha, hb⟩ := h.box;rcases h.buf with ⟨_, hz⟩ | ⟨g, cap, cur, fz, rfl, hg, hfz, hnc, hcm, hcs, htake⟩
 ·exact absurd hz h0
 have hBg : B ≤ g := hB g rfl;have hlen : X.data.toList.length = X.size := by rw [Array.length_toList]; rfl
 have c1 : y.drew.cell? ⟨P, 1, none⟩ = some (.slice (some ⟨g, 0, none⟩) X.size cap) := (hb.call (Below.refl _ _).drew).cell 1 rfl;have hl := hb.lt
 have hSD : (Builtin.unsafeSliceData_ #[22] 103 #[.slice (some ⟨g, 0, none⟩) X.size cap]).run Tryz.prog y.drew = .ok (.pointer (some ⟨g, 0, none⟩)) y.drew :=
  Lib.run_unsafeSliceData_row _ _ _ _ _ _ (by omega)
 have hUS : (Builtin.unsafeString_ #[103, 3] 9 #[.pointer (some ⟨g, 0, none⟩), .int .i64 (X.size : Int)]).run Tryz.prog y.drew = .ok (.string X) (y.drew.freeze ⟨g, 0, none⟩ X.size) := by
  have hg' : y.drew.heap[g]? = some (.cells cur 5 fz) := hg;have := Lib.run_unsafeString_row (P := Tryz.prog) y.drew 103 3 9 5 Tryz.underlying103 (by kernel_rfl) g cur.size (by simp [World.shape?, hg']) X.data.toList (fun e => h0 (by rw [← hlen, e]; rfl)) (by omega) (by rw [hlen]; unfold maxLen at hcm; omega) ?_
  ·rw [hlen] at this;exact this
  ·intro j x hx;have hjl : j < X.size := by rw [← hlen]; exact (List.getElem?_eq_some_iff.1 hx).1
   have e1 : (cur.toList.take X.size)[j]? = some (.int .u8 (x.toNat : Int)) := by
    rw [htake];simp [Lib.strCells, hx]
   rw [List.getElem?_take_of_lt hjl, Array.getElem?_toList] at e1;rw [add_zero_lit];simp [World.cell?, hg', e1]
 have hot : Hid (∀ k, (Value.slice (some ⟨g, 0, none⟩) X.size cap).ownBlock ≠ some k → (y.drew.freeze ⟨g, 0, none⟩ X.size).heap[k]? = y.heap[k]?) := fun k hk => freeze_other y.drew ⟨g, 0, none⟩ X.size k (fun e => hk (by rw [e]; rfl));have hbf := show Hid (Below B y (y.drew.freeze ⟨g, 0, none⟩ X.size)) from Lib.below_freeze (Below.drew (Below.refl B y)) (p := ⟨g, 0, none⟩) hBg _;clear h hb ha hg hfz hnc hcm hcs htake hlen;generalize X.size = n at c1 hSD hUS hbf hot ⊢;have mixed : Tryz.prog.follows .mixedOrders = true := by kernel_rfl
 go_enter Tryz.func15, Tryz.ntmps15;go_wp2_with fail
 go_region_o
 all_goals (go_wp2_with fail; go_ret; exact ⟨rfl, hbf.out, hot.out⟩)
end Go.Proofs.YtplijnfaiofckaaGreatDoor

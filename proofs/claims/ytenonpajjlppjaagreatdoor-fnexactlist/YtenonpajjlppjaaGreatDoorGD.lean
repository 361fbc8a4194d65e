import Derived.Test.YtenonpajjlppjaaGreatDoorLjE
import Derived.Deep.RegionWith
import Derived.Lib.ConvBytes
namespace Go.Proofs.YtenonpajjlppjaaGreatDoor
section
open Go.RowKit Go.Shelf
set_option linter.unusedVariables false
set_option linter.unusedSimpArgs false
set_option maxRecDepth 100000
set_option maxHeartbeats 1000000
/-- the sign of a hexadecimal digit. -/
def hx (n : Nat) : Nat := [48, 49, 50, 51, 52, 53, 54, 55, 56, 57, 97, 98, 99, 100, 101, 102].getD n 0
def hexL (l : List UInt8) : List Int := l.flatMap fun b => [(hx (b.toNat / 16) : Int), (hx (b.toNat % 16) : Int)]
def hexB (s : ByteArray) : ByteArray := strOfNums (hexL s.data.toList)
theorem hx_lt {n : Nat} (h : n < 16) : hx n < 256 := by
  have : ∀ k : Fin 16, hx k.val < 256 := by decide
  exact this ⟨n, h⟩
theorem strOfNums_app (a b : List Int) : strOfNums a ++ strOfNums b = strOfNums (a ++ b) := by
  apply ByteArray.ext
  apply Array.ext'
  simp [strOfNums]
theorem hex_step (s : ByteArray) (i : Nat) (hi : i < s.size) : hexB (s.extract 0 i) ++ strOfNums [(hx ((s[i]'hi).toNat / 16) : Int), (hx ((s[i]'hi).toNat % 16) : Int)] = hexB (s.extract 0 (i + 1)) := by
  unfold hexB
  rw [strOfNums_app]
  congr 1
  have e := ext_step s i hi
  have e2 : (s.extract 0 (i + 1)).data.toList = (s.extract 0 i).data.toList ++ [s[i]'hi] := by
    rw [← e]
    simp [strOfNums, ByteArray.data_append]
  rw [e2]
  simp [hexL]
theorem hexB_size (s : ByteArray) : (hexB s).size = 2 * s.size := by
  unfold hexB
  rw [strOfNums_size]
  have : ∀ l : List UInt8, (hexL l).length = 2 * l.length := fun l => by
    induction l with
    | nil => rfl
    | cons b l ih => unfold hexL at *; rw [List.flatMap_cons, List.length_append, ih, List.length_cons]; simp; omega
  rw [this, Array.length_toList]
  rfl
theorem idx_fin : ∀ n : Fin 16, ((⟨#[48, 49, 50, 51, 52, 53, 54, 55, 56, 57, 97, 98, 99, 100, 101, 102]⟩ : ByteArray)[n.val]'n.isLt).toNat = hx n.val := by decide
theorem idx_hex (n : Nat) (h : n < 16) (wx : World) : (Instr.index 9 (.string ⟨#[48, 49, 50, 51, 52, 53, 54, 55, 56, 57, 97, 98, 99, 100, 101, 102]⟩) (.int .u8 (n : Int))).run Tryz.prog wx = .ok (.int .u8 (hx n : Int)) wx := by
  have hI : (n : Int) < 16 := by omega
  have e := idx_fin ⟨n, h⟩
  dsimp only at e
  rw [← e]
  go_simp
theorem strCells_two {a b : Nat} (ha : a < 256) (hb : b < 256) : Lib.strCells (strOfNums [(a : Int), (b : Int)]) = [.int .u8 (a : Int), .int .u8 (b : Int)] := by
  simp [Lib.strCells, strOfNums]
  omega
theorem below_grown {n : Nat} {a b b' : World} {q : Option Nat} (h : Below n a b) (hg : b.grownBy b' q) (hq : ∀ k, q = some k → n ≤ k) (hn : n ≤ b.heap.size) : Below n a b' :=
  ⟨hg.os.trans h.os, hg.tape.trans h.tape, hg.output.trans h.output, Nat.le_trans h.size hg.size, fun i hi => (hg.block i (by omega) (fun e => by have := hq i (by first | exact e | exact e.symm); omega)).trans (h.block i hi)⟩
theorem l6Hex_in (s : ByteArray) (w : World) (hs : s.size ≤ 100000) :
    Calls Tryz.prog 66 #[.string s] w fun e w' => e = .returned (.string (hexB s)) ∧ Below w.heap.size w w' := by
  go_enter Tryz.func66, Tryz.ntmps66
  go_wp2_with fail
  go_loopw [3, 4] (fun o iv wr => ∃ i : Nat, iv = .int .i64 (i : Int) ∧ i ≤ s.size ∧ Hid (Buf wr 5 o (hexB (s.extract 0 i)) ∧ (∀ k, o.ownBlock = some k → w.heap.size ≤ k) ∧ Below w.heap.size w wr)) (fun _ i _ => s.size - (intOf i).toNat)
  case atStart =>
    refine ⟨0, rfl, Nat.zero_le _, ?_, fun k hk => ?_, (Below.refl _ _).alloc (Nat.le_refl _) _⟩
    · have e0 : hexB (s.extract 0 0) = ⟨#[]⟩ := by rw [show s.extract 0 0 = ⟨#[]⟩ by simp; rfl]; rfl
      rw [e0]
      exact .inr ⟨w.heap.size, 0, #[], (0, 0), rfl, heap_alloc_new _ _, .inl rfl, Nat.le_refl _, Nat.zero_le _, rfl, rfl⟩
    · simp [Value.ownBlock] at hk
      omega
  case round =>
    obtain ⟨i, rfl, hin, hq⟩ := hrel
    obtain ⟨a0, c0, rfl⟩ := hq.out.1.form
    by_cases hlt : i < s.size
    · have hii : (i : Int) < (s.size : Int) := by omega
      obtain ⟨x, hxe⟩ : ∃ x : Nat, (s[i]'hlt).toNat = x := ⟨_, rfl⟩
      have hx256 : x < 256 := by rw [← hxe]; exact UInt8.toNat_lt _
      have hst := show Hid _ from hex_step s i hlt
      rw [hxe] at hst
      obtain ⟨xh, hxh⟩ : ∃ z : Nat, x / 16 = z := ⟨_, rfl⟩
      obtain ⟨xl, hxl⟩ : ∃ z : Nat, x % 16 = z := ⟨_, rfl⟩
      rw [hxh, hxl] at hst
      have lh : xh < 16 := by omega
      have ll : xl < 16 := by omega
      have q1 : (x : Int) / 16 = (xh : Int) := by omega
      have q2 : (x : Int) % 16 = (xl : Int) := by omega
      have q3 : (x : Int).tdiv 16 = (xh : Int) := by rw [Int.tdiv_eq_ediv_of_nonneg (by omega)]; exact q1
      have q4 : (x : Int).tmod 16 = (xl : Int) := by rw [Int.tmod_eq_emod_of_nonneg (by omega)]; exact q2
      have w1 : IntKind.u8.wrap (xh : Int) = (xh : Int) := by simp [IntKind.wrap, IntKind.bits, IntKind.signed]; omega
      have w2 : IntKind.u8.wrap (xl : Int) = (xl : Int) := by simp [IntKind.wrap, IntKind.bits, IntKind.signed]; omega
      have d1 := fun wx => idx_hex xh lh wx
      have d2 := fun wx => idx_hex xl ll wx
      clear hxh hxl
      obtain ⟨i0, hi, hz0, hz1, hz2⟩ := info_parts info8
      go_upto_region 5 with fail
      refine wp_region_held_drew (S := fun _ => True) (by kernel_rfl) trivial (fun hH => ?_)
      clear hH
      have hB := show Hid (Buf wr.drew 5 (.slice a0 (hexB (s.extract 0 i)).size c0) (hexB (s.extract 0 i))) from hq.out.1.keep (fun k hk => rfl)
      have hD := show Hid _ from hq.out.2.2.drew
      have hO := show Hid _ from hq.out.2.1
      clear hq
      generalize wr.drew = yz at hB hD ⊢
      refine take_dst 0 12 (.slice a0 (hexB (s.extract 0 i)).size c0) rfl (by kernel_rfl) (by kernel_rfl) (by kernel_rfl) (fun _ _ _ h => h) (Or.inl ⟨by rfl, by intro wv hSv; go_simp⟩) trivial rfl ?_
      try simp only [Act.put, List.setIfInBounds_toArray, List.set_cons_zero, List.set_cons_succ]
      refine take_dst 1 13 (.string s) rfl (by kernel_rfl) (by kernel_rfl) (by kernel_rfl) (fun _ _ _ h => h) (Or.inl ⟨by rfl, by intro wv hSv; go_simp⟩) trivial rfl ?_
      try simp only [Act.put, List.setIfInBounds_toArray, List.set_cons_zero, List.set_cons_succ]
      refine take_dst 2 14 (.int .i64 (i : Int)) rfl (by kernel_rfl) (by kernel_rfl) (by kernel_rfl) (fun _ _ _ h => h) (Or.inl ⟨by rfl, by intro wv hSv; go_simp⟩) trivial rfl ?_
      try simp only [Act.put, List.setIfInBounds_toArray, List.set_cons_zero, List.set_cons_succ]
      refine take_dst 3 15 (.int .u8 (x : Int)) rfl (by kernel_rfl) (by kernel_rfl) (by kernel_rfl) (fun _ _ _ h => h) (Or.inl ⟨by rfl, by intro wv hSv; go_simp⟩) trivial rfl ?_
      try simp only [Act.put, List.setIfInBounds_toArray, List.set_cons_zero, List.set_cons_succ]
      refine take_dst 4 16 (.int .u8 (xh : Int)) rfl (by kernel_rfl) (by kernel_rfl) (by kernel_rfl) (fun _ _ _ h => h) (Or.inl ⟨by rfl, by intro wv hSv; go_simp⟩) trivial rfl ?_
      try simp only [Act.put, List.setIfInBounds_toArray, List.set_cons_zero, List.set_cons_succ]
      refine take_dst 5 17 (.int .u8 (hx xh : Int)) rfl (by kernel_rfl) (by kernel_rfl) (by kernel_rfl) (fun _ _ _ h => h) (Or.inl ⟨by rfl, by intro wv hSv; go_simp⟩) trivial rfl ?_
      try simp only [Act.put, List.setIfInBounds_toArray, List.set_cons_zero, List.set_cons_succ]
      refine take_dst 6 18 (.string s) rfl (by kernel_rfl) (by kernel_rfl) (by kernel_rfl) (fun _ _ _ h => h) (Or.inl ⟨by rfl, by intro wv hSv; go_simp⟩) trivial rfl ?_
      try simp only [Act.put, List.setIfInBounds_toArray, List.set_cons_zero, List.set_cons_succ]
      refine take_dst 7 19 (.int .i64 (i : Int)) rfl (by kernel_rfl) (by kernel_rfl) (by kernel_rfl) (fun _ _ _ h => h) (Or.inl ⟨by rfl, by intro wv hSv; go_simp⟩) trivial rfl ?_
      try simp only [Act.put, List.setIfInBounds_toArray, List.set_cons_zero, List.set_cons_succ]
      refine take_dst 8 20 (.int .u8 (x : Int)) rfl (by kernel_rfl) (by kernel_rfl) (by kernel_rfl) (fun _ _ _ h => h) (Or.inl ⟨by rfl, by intro wv hSv; go_simp⟩) trivial rfl ?_
      try simp only [Act.put, List.setIfInBounds_toArray, List.set_cons_zero, List.set_cons_succ]
      refine take_dst 9 21 (.int .u8 (xl : Int)) rfl (by kernel_rfl) (by kernel_rfl) (by kernel_rfl) (fun _ _ _ h => h) (Or.inl ⟨by rfl, by intro wv hSv; go_simp⟩) trivial rfl ?_
      try simp only [Act.put, List.setIfInBounds_toArray, List.set_cons_zero, List.set_cons_succ]
      refine take_dst 10 22 (.int .u8 (hx xl : Int)) rfl (by kernel_rfl) (by kernel_rfl) (by kernel_rfl) (fun _ _ _ h => h) (Or.inl ⟨by rfl, by intro wv hSv; go_simp⟩) trivial rfl ?_
      try simp only [Act.put, List.setIfInBounds_toArray, List.set_cons_zero, List.set_cons_succ]
      clear q1 q2 q3 q4 w1 w2 d1 d2
      refine wpAnyH_ready (rs := [11]) (by kernel_rfl) (by simp) ?_
      refine AllReadyH.cons rfl (fun K hK => ?_) AllReadyH.nil
      go_simp
      refine hK.out _ _ trivial (fun hzz => ?_)
      clear hK K hzz
      try simp only [Act.put, List.setIfInBounds_toArray, List.set_cons_zero, List.set_cons_succ]
      refine wpAnyH_ready (rs := [12]) (by kernel_rfl) (by simp) ?_
      refine AllReadyH.cons rfl (fun K hK => ?_) AllReadyH.nil
      refine step_append_buf_news _ rfl (.tmp 12) (.tmp 23) 35 rfl 5 i0 Tryz.underlying35 hi hz0 hz1 hz2 _ (hexB (s.extract 0 i)) rfl (hB.out.keep (fun k hk => Below.heap_alloc _ _ _ (hB.out.lt k hk))) (strOfNums [(hx xh : Int), (hx xl : Int)]) ⟨yz.heap.size, 0, none⟩ 2 2 rfl (strOfNums_size _) (by omega) ?c1 ?c2 ?_
      case c1 => rw [strCells_two (hx_lt lh) (hx_lt ll)]; exact World.news_of_block (heap_alloc_new _ _)
      case c2 =>
        have e1 := hexB_size (s.extract 0 i)
        have e2 : (s.extract 0 i).size ≤ s.size := by simp; omega
        rw [strOfNums_size]
        simp only [List.length_cons, List.length_nil]
        omega
      intro v' w1 hB1 hg ho
      rw [hst.out] at hB1
      have hD2 : Below w.heap.size w (yz.alloc (.cells #[.int .u8 (hx xh : Int), .int .u8 (hx xl : Int)] 5)) := hD.out.alloc hD.out.size _
      have hO2 : ∀ k, v'.ownBlock = some k → w.heap.size ≤ k := fun k hk => by
        rcases ho with e | e
        · rw [e] at hk; exact hO.out k hk
        · rw [e] at hk
          have e2 := Option.some.inj hk
          have := hD2.size
          omega
      have hrel : Hid (Buf w1 5 v' (hexB (s.extract 0 (i + 1))) ∧ (∀ k, v'.ownBlock = some k → w.heap.size ≤ k) ∧ Below w.heap.size w w1) := ⟨hB1, hO2, below_grown hD2 hg hO.out (by have := hD2.size; omega)⟩
      obtain ⟨a1, c1, rfl⟩ := hB1.form
      clear hB hD hO hB1 hg ho hD2 hO2 hi hz0 hz1 hz2 hst
      generalize (hexB (s.extract 0 (i + 1))).size = nn at hrel ⊢
      refine hK.out _ _ trivial (fun hzz => ?_)
      clear hK K hzz
      try simp only [Act.put, List.setIfInBounds_toArray, List.set_cons_zero, List.set_cons_succ]
      refine wpAnyH_ready (rs := [13]) (by kernel_rfl) (by simp) ?_
      refine AllReadyH.cons rfl (fun K hK => ?_) AllReadyH.nil
      go_simp
      refine hK.out _ _ trivial (fun hzz => ?_)
      clear hK K hzz
      try simp only [Act.put, List.setIfInBounds_toArray, List.set_cons_zero, List.set_cons_succ]
      refine wpAnyH_done (by kernel_rfl) ?_ _
      go_wp2_with fail
      go_roundw
      case rel => exact ⟨i + 1, by go_num, by omega, hrel.out⟩
      case measure => clear hrel; simp only [intOf]; omega
    · obtain rfl : i = s.size := by omega
      have hcv := conv_buf (P := Tryz.prog) 35 9 5 Tryz.underlying35 Tryz.underlying5 Tryz.underlying9 hq.out.1
      have hfin : hexB (s.extract 0 s.size) = hexB s := by simp
      rw [hfin] at hcv hq
      have hb := show Hid _ from hq.out.2.2
      clear hq hfin
      rw [show (s.extract 0 s.size) = s by simp] at *
      go_wp2_with fail
      go_ret
      exact ⟨rfl, hb.out⟩
end
section
open Go.RowKit Go.Shelf
set_option linter.unusedVariables false
set_option linter.unusedSimpArgs false
set_option maxRecDepth 100000
set_option maxHeartbeats 1000000
theorem makeB (n : Nat) (hn : n ≤ 1000000) (w : World) : (Instr.makeSlice 35 (.int .i64 0) (.int .i64 (n : Int))).run Tryz.prog w = .ok (.slice (some ⟨w.heap.size, 0, none⟩) 0 n) (w.alloc (.cells (madeCells #[.int .u8 0] n) 5)) := by
  obtain ⟨i, hi, he⟩ := Option.map_eq_some_iff.1 info8
  simp only [Prod.mk.injEq] at he
  have := run_makeSlice (P := Tryz.prog) w 35 5 i (.int .u8 0) Tryz.underlying35 hi he.1 .i64 .i64 0 n (by omega) (by omega) (by rw [he.2.1, Int.toNat_natCast]; omega) (by rw [he.2.2]; omega) (by omega)
  rw [he.2.1, Int.toNat_natCast, Nat.mul_one] at this
  exact this
theorem hexOf_in (s : ByteArray) (w : World) (hs : s.size ≤ 100000) :
    Calls Tryz.prog 92 #[.string s] w fun e w' => e = .returned (.string (hexB s)) ∧ Below w.heap.size w w' := by
  have hmk := makeB (2 * s.size) (by omega) w
  rw [show ((2 * s.size : Nat) : Int) = 2 * (s.size : Int) by omega] at hmk
  obtain ⟨y0, hy0⟩ : ∃ y0, w.alloc (.cells (madeCells #[.int .u8 0] (2 * s.size)) 5) = y0 := ⟨_, rfl⟩
  have hB0 : Buf y0 5 (.slice (some ⟨w.heap.size, 0, none⟩) 0 (2 * s.size)) ⟨#[]⟩ := by
    rw [← hy0]
    exact .inr ⟨w.heap.size, 2 * s.size, _, (0, 0), rfl, heap_alloc_new _ _, .inl rfl, Nat.zero_le _, by simp only [maxLen]; omega, size_madeCells _ _, rfl⟩
  have b0 : Below w.heap.size w y0 := by rw [← hy0]; exact (Below.refl _ _).alloc (Nat.le_refl _) _
  have z0 : y0.heap.size = w.heap.size + 1 := by rw [← hy0, World.size_alloc]
  rw [hy0] at hmk
  have hcv := Go.Lib.run_convert_string_bytes (P := Tryz.prog) y0 9 35 5 s Tryz.underlying9 Tryz.underlying35 Tryz.underlying5
  have hb : y0.heap.size < (Go.Lib.bytesWorld y0 5 s).heap.size := by rw [Go.Lib.bytesWorld_size]; omega
  have hbel : Below y0.heap.size y0 (Go.Lib.bytesWorld y0 5 s) := ⟨rfl, rfl, rfl, by rw [Go.Lib.bytesWorld_size]; omega, fun k hk => Go.Lib.bytesWorld_at_old y0 5 s k hk⟩
  have hc : ∀ j (h : j < s.size), (Go.Lib.bytesWorld y0 5 s).cell? ⟨y0.heap.size, j, none⟩ = some (.int .u8 (s[j].toNat : Int)) := fun j hj => by
    rw [Go.Lib.bytesWorld_cell y0 5 s j hj]
    simp [List.getD, ByteArray.getElem_eq_getElem_data, hj]
  generalize Go.Lib.bytesWorld y0 5 s = y1 at hcv hb hbel hc
  generalize grownCap y0 s.size 0 5 = cap at hcv
  have hB1 : Hid (Buf y1 5 (.slice (some ⟨w.heap.size, 0, none⟩) 0 (2 * s.size)) ⟨#[]⟩) := hB0.keep fun k hk => hbel.block k (hB0.lt k hk)
  have b1 : Hid (Below w.heap.size w y1) := b0.trans (hbel.mono b0.size)
  replace hc : Hid _ := hc
  obtain ⟨T, hT⟩ : ∃ T, y0.heap.size = T := ⟨_, rfl⟩
  rw [hT] at hcv hc hb
  have hTw : T = w.heap.size + 1 := by omega
  replace hTw : Hid _ := hTw
  clear hB0 b0 hbel hT z0 hy0
  go_enter Tryz.func92, Tryz.ntmps92
  go_wp2_with fail
  clear hmk hcv
  go_loopw [3, 13] (fun o iv wr => ∃ i : Nat, iv = .int .i64 (i : Int) ∧ i ≤ s.size ∧ Hid (Buf wr 5 o (hexB (s.extract 0 i)) ∧ (∀ k, o.ownBlock = some k → w.heap.size ≤ k ∧ k ≠ T) ∧ Below w.heap.size w wr ∧ wr.heap[T]? = y1.heap[T]? ∧ T < wr.heap.size)) (fun _ i _ => s.size - (intOf i).toNat)
  case atStart =>
    refine ⟨0, rfl, Nat.zero_le _, ?_, fun k hk => ?_, b1.out, rfl, hb⟩
    · have e0 : hexB (s.extract 0 0) = ⟨#[]⟩ := by rw [show s.extract 0 0 = ⟨#[]⟩ by simp; rfl]; rfl
      rw [e0]
      exact hB1.out
    · have e : w.heap.size = k := by simpa [Value.ownBlock] using hk
      have := hTw.out
      omega
  case round =>
    obtain ⟨i, rfl, hin, hq⟩ := hrel
    obtain ⟨a0, c0, rfl⟩ := hq.out.1.form
    by_cases hlt : i < s.size
    · have hii : (i : Int) < (s.size : Int) := by omega
      obtain ⟨x, hxe⟩ : ∃ x : Nat, (s[i]'hlt).toNat = x := ⟨_, rfl⟩
      have hx256 : x < 256 := by rw [← hxe]; exact UInt8.toNat_lt _
      have hcx : wr.cell? ⟨T, i, none⟩ = some (.int .u8 (x : Int)) := by
        rw [← hxe]
        exact (World.cell?_of_block (a := ⟨T, i, none⟩) hq.out.2.2.2.1).trans (hc.out i hlt)
      have hst := show Hid _ from hex_step s i hlt
      rw [hxe] at hst
      obtain ⟨xh, hxh⟩ : ∃ z : Nat, x / 16 = z := ⟨_, rfl⟩
      obtain ⟨xl, hxl⟩ : ∃ z : Nat, x % 16 = z := ⟨_, rfl⟩
      rw [hxh, hxl] at hst
      have lh : xh < 16 := by omega
      have ll : xl < 16 := by omega
      have q1 : (x : Int) / 16 = (xh : Int) := by omega
      have q2 : (x : Int) % 16 = (xl : Int) := by omega
      have q3 : (x : Int).tdiv 16 = (xh : Int) := by rw [Int.tdiv_eq_ediv_of_nonneg (by omega)]; exact q1
      have q4 : (x : Int).tmod 16 = (xl : Int) := by rw [Int.tmod_eq_emod_of_nonneg (by omega)]; exact q2
      have w1 : IntKind.u8.wrap (xh : Int) = (xh : Int) := by simp [IntKind.wrap, IntKind.bits, IntKind.signed]; omega
      have w2 : IntKind.u8.wrap (xl : Int) = (xl : Int) := by simp [IntKind.wrap, IntKind.bits, IntKind.signed]; omega
      have d1 := fun wx => idx_hex xh lh wx
      have d2 := fun wx => idx_hex xl ll wx
      clear hxh hxl
      obtain ⟨i0, hi, hz0, hz1, hz2⟩ := info_parts info8
      go_upto_region 5 with fail
      clear hcx
      refine wp_region_held_drew (S := fun _ => True) (by kernel_rfl) trivial (fun hH => ?_)
      clear hH
      have hB := show Hid (Buf wr.drew 5 (.slice a0 (hexB (s.extract 0 i)).size c0) (hexB (s.extract 0 i))) from hq.out.1.keep (fun k hk => rfl)
      have hD := show Hid _ from hq.out.2.2.1.drew
      have hO := show Hid _ from hq.out.2.1
      have hTT := show Hid (wr.drew.heap[T]? = y1.heap[T]? ∧ T < wr.drew.heap.size) from hq.out.2.2.2
      clear hq
      generalize wr.drew = yz at hB hD hTT ⊢
      refine take_dst 0 17 (.slice a0 (hexB (s.extract 0 i)).size c0) rfl (by kernel_rfl) (by kernel_rfl) (by kernel_rfl) (fun _ _ _ h => h) (Or.inl ⟨by rfl, by intro wv hSv; go_simp⟩) trivial rfl ?_
      try simp only [Act.put, List.setIfInBounds_toArray, List.set_cons_zero, List.set_cons_succ]
      refine take_dst 1 18 (.int .u8 (x : Int)) rfl (by kernel_rfl) (by kernel_rfl) (by kernel_rfl) (fun _ _ _ h => h) (Or.inl ⟨by rfl, by intro wv hSv; go_simp⟩) trivial rfl ?_
      try simp only [Act.put, List.setIfInBounds_toArray, List.set_cons_zero, List.set_cons_succ]
      refine take_dst 2 19 (.int .u8 (xh : Int)) rfl (by kernel_rfl) (by kernel_rfl) (by kernel_rfl) (fun _ _ _ h => h) (Or.inl ⟨by rfl, by intro wv hSv; go_simp⟩) trivial rfl ?_
      try simp only [Act.put, List.setIfInBounds_toArray, List.set_cons_zero, List.set_cons_succ]
      refine take_dst 3 20 (.int .u8 (hx xh : Int)) rfl (by kernel_rfl) (by kernel_rfl) (by kernel_rfl) (fun _ _ _ h => h) (Or.inl ⟨by rfl, by intro wv hSv; go_simp⟩) trivial rfl ?_
      try simp only [Act.put, List.setIfInBounds_toArray, List.set_cons_zero, List.set_cons_succ]
      refine take_dst 4 21 (.int .u8 (x : Int)) rfl (by kernel_rfl) (by kernel_rfl) (by kernel_rfl) (fun _ _ _ h => h) (Or.inl ⟨by rfl, by intro wv hSv; go_simp⟩) trivial rfl ?_
      try simp only [Act.put, List.setIfInBounds_toArray, List.set_cons_zero, List.set_cons_succ]
      refine take_dst 5 22 (.int .u8 (xl : Int)) rfl (by kernel_rfl) (by kernel_rfl) (by kernel_rfl) (fun _ _ _ h => h) (Or.inl ⟨by rfl, by intro wv hSv; go_simp⟩) trivial rfl ?_
      try simp only [Act.put, List.setIfInBounds_toArray, List.set_cons_zero, List.set_cons_succ]
      refine take_dst 6 23 (.int .u8 (hx xl : Int)) rfl (by kernel_rfl) (by kernel_rfl) (by kernel_rfl) (fun _ _ _ h => h) (Or.inl ⟨by rfl, by intro wv hSv; go_simp⟩) trivial rfl ?_
      try simp only [Act.put, List.setIfInBounds_toArray, List.set_cons_zero, List.set_cons_succ]
      clear q1 q2 q3 q4 w1 w2 d1 d2
      refine wpAnyH_ready (rs := [7]) (by kernel_rfl) (by simp) ?_
      refine AllReadyH.cons rfl (fun K hK => ?_) AllReadyH.nil
      go_simp
      refine hK.out _ _ trivial (fun hzz => ?_)
      clear hK K hzz
      try simp only [Act.put, List.setIfInBounds_toArray, List.set_cons_zero, List.set_cons_succ]
      refine wpAnyH_ready (rs := [8]) (by kernel_rfl) (by simp) ?_
      refine AllReadyH.cons rfl (fun K hK => ?_) AllReadyH.nil
      refine step_append_buf_news _ rfl (.tmp 17) (.tmp 24) 35 rfl 5 i0 Tryz.underlying35 hi hz0 hz1 hz2 _ (hexB (s.extract 0 i)) rfl (hB.out.keep (fun k hk => Below.heap_alloc _ _ _ (hB.out.lt k hk))) (strOfNums [(hx xh : Int), (hx xl : Int)]) ⟨yz.heap.size, 0, none⟩ 2 2 rfl (strOfNums_size _) (by omega) ?c1 ?c2 ?_
      case c1 => rw [strCells_two (hx_lt lh) (hx_lt ll)]; exact World.news_of_block (heap_alloc_new _ _)
      case c2 =>
        have e1 := hexB_size (s.extract 0 i)
        have e2 : (s.extract 0 i).size ≤ s.size := by simp; omega
        rw [strOfNums_size]
        simp only [List.length_cons, List.length_nil]
        omega
      intro v' w1 hB1 hg ho
      rw [hst.out] at hB1
      have hD2 : Below w.heap.size w (yz.alloc (.cells #[.int .u8 (hx xh : Int), .int .u8 (hx xl : Int)] 5)) := hD.out.alloc hD.out.size _
      have hTl := hTT.out.2
      have hO2 : ∀ k, v'.ownBlock = some k → w.heap.size ≤ k ∧ k ≠ T := fun k hk => by
        rcases ho with e | e
        · rw [e] at hk; exact hO.out k hk
        · rw [e] at hk
          have e2 := Option.some.inj hk
          have := hD2.size
          rw [World.size_alloc] at e2
          rw [World.size_alloc] at this
          omega
      have hT2 : w1.heap[T]? = y1.heap[T]? := (hg.block T (by rw [World.size_alloc]; omega) (fun e => (hO.out T (by first | exact e | exact e.symm)).2 rfl)).trans ((Below.heap_alloc _ _ _ hTl).trans hTT.out.1)
      have hrel : Hid (Buf w1 5 v' (hexB (s.extract 0 (i + 1))) ∧ (∀ k, v'.ownBlock = some k → w.heap.size ≤ k ∧ k ≠ T) ∧ Below w.heap.size w w1 ∧ w1.heap[T]? = y1.heap[T]? ∧ T < w1.heap.size) := ⟨hB1, hO2, below_grown hD2 hg (fun k e => (hO.out k e).1) (by have := hD2.size; omega), hT2, by have := hg.size; rw [World.size_alloc] at this; omega⟩
      obtain ⟨a1, c1, rfl⟩ := hB1.form
      clear hB hD hO hB1 hg ho hD2 hO2 hi hz0 hz1 hz2 hst hTT hT2
      generalize (hexB (s.extract 0 (i + 1))).size = nn at hrel ⊢
      refine hK.out _ _ trivial (fun hzz => ?_)
      clear hK K hzz
      try simp only [Act.put, List.setIfInBounds_toArray, List.set_cons_zero, List.set_cons_succ]
      refine wpAnyH_ready (rs := [9]) (by kernel_rfl) (by simp) ?_
      refine AllReadyH.cons rfl (fun K hK => ?_) AllReadyH.nil
      go_simp
      refine hK.out _ _ trivial (fun hzz => ?_)
      clear hK K hzz
      try simp only [Act.put, List.setIfInBounds_toArray, List.set_cons_zero, List.set_cons_succ]
      refine wpAnyH_done (by kernel_rfl) ?_ _
      go_wp2_with fail
      go_roundw
      case rel => exact ⟨i + 1, by go_num, by omega, hrel.out⟩
      case measure => clear hrel; simp only [intOf]; omega
    · obtain rfl : i = s.size := by omega
      have hcv := conv_buf (P := Tryz.prog) 35 9 5 Tryz.underlying35 Tryz.underlying5 Tryz.underlying9 hq.out.1
      have hfin : hexB (s.extract 0 s.size) = hexB s := by simp
      rw [hfin] at hcv hq
      have hb9 := show Hid _ from hq.out.2.2.1
      clear hq hfin
      rw [show (s.extract 0 s.size) = s by simp] at *
      go_wp2_with fail
      go_ret
      exact ⟨rfl, hb9.out⟩
end
end Go.Proofs.YtenonpajjlppjaaGreatDoor

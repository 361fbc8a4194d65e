import Derived.Test.YtkanjbopfflioaaGreatDoorG29
namespace Go.Proofs.YtkanjbopfflioaaGreatDoor
open Go.RowKit Go.Shelf
set_option linter.unusedVariables false
set_option linter.unusedSimpArgs false
set_option maxRecDepth 100000
set_option maxHeartbeats 4000000
def fI (k : Nat) : Value := .func (.func (if WideOp k then 37 else 36)) #[] #[]
/-- the readers, so far of the first n operations. -/
structure RdI (w w' : World) (mB X n : Nat) (ib ob : Nat → Nat) : Prop where
  map : w'.heap[X + 3]? = some (.map (ents X (X + 1) (X + 2) ib ob n).toArray (4 + n))
  xr : RowL w' X 37 [.pointer (some ⟨mB, 0, none⟩)]
  pr : RowL w' (X + 1) 69 [.pointer none]
  ar : RowL w' (X + 2) 70 [.func (.func 26) #[] #[.pointer (some ⟨X + 1, 0, none⟩)]]
  ir : ∀ j, j < n → RowL w' (ib j) 82 [fI j] ∧ RowL w' (ob j) 3 [.int .i64 (j : Int)] ∧ X + 3 < ib j ∧ X + 3 < ob j
  bel : Below X w w'
theorem us_wide9 (k : Nat) (h : k < 34) : usC k 3 = .int .i64 (if WideOp k then (if k = 1 then 3 else if k = 25 then 5 else 6) else 0) := by
  match k, h with
  | 0, _ => rfl
  | 1, _ => rfl
  | 2, _ => rfl
  | 3, _ => rfl
  | 4, _ => rfl
  | 5, _ => rfl
  | 6, _ => rfl
  | 7, _ => rfl
  | 8, _ => rfl
  | 9, _ => rfl
  | 10, _ => rfl
  | 11, _ => rfl
  | 12, _ => rfl
  | 13, _ => rfl
  | 14, _ => rfl
  | 15, _ => rfl
  | 16, _ => rfl
  | 17, _ => rfl
  | 18, _ => rfl
  | 19, _ => rfl
  | 20, _ => rfl
  | 21, _ => rfl
  | 22, _ => rfl
  | 23, _ => rfl
  | 24, _ => rfl
  | 25, _ => rfl
  | 26, _ => rfl
  | 27, _ => rfl
  | 28, _ => rfl
  | 29, _ => rfl
  | 30, _ => rfl
  | 31, _ => rfl
  | 32, _ => rfl
  | 33, _ => rfl
  | n + 34, h => omega
theorem extract_us {k : Nat} (hk : k < 64) : usTab.extract (k * 10) (k * 10 + 10) = #[usC k 0, usC k 1, usC k 2, usC k 3, usC k 4, usC k 5, usC k 6, usC k 7, usC k 8, usC k 9] := by
  apply Array.ext_getElem?
  intro i
  by_cases hi : i < 10
  · rw [Array.getElem?_extract, if_pos (by rw [usTab_size]; omega), show k * 10 + i = 10 * k + i by omega, usTab_get hk hi]
    match i, hi with
    | 0, _ => rfl
    | 1, _ => rfl
    | 2, _ => rfl
    | 3, _ => rfl
    | 4, _ => rfl
    | 5, _ => rfl
    | 6, _ => rfl
    | 7, _ => rfl
    | 8, _ => rfl
    | 9, _ => rfl
  · rw [Array.getElem?_eq_none (by rw [Array.size_extract, usTab_size]; omega), Array.getElem?_eq_none (by simp; omega)]
theorem infUs : (Tryz.prog.info? 78).map (·.size) = some 10 := by kernel_rfl
theorem index_us (k : Nat) (hk : k < 64) (y : World) : (Instr.index 80 (.agg usTab) (.int .i64 (k : Int))).run Tryz.prog y = .ok (.agg #[usC k 0, usC k 1, usC k 2, usC k 3, usC k 4, usC k 5, usC k 6, usC k 7, usC k 8, usC k 9]) y := by
  have hu : Tryz.prog.underlying 80 = some (.array 64 78) := by kernel_rfl
  have hag : (isAgg 78).run Tryz.prog y = .ok true y := by kernel_rfl
  have hsz : (sizeOf 78).run Tryz.prog y = .ok 10 y := by kernel_rfl
  have hb : (0 : Int) ≤ (k : Int) ∧ (k : Int) < 64 := by omega
  simp [Instr.index, asIntOf, Sem.run_bind, run_underlying hu, hsz, part, hag, extract_us hk, hb]
  intro h; omega
theorem below_put {B : Nat} {w w' : World} (h : Below B w w') {l : Nat} (hl : B ≤ l) (o : Obj) : Below B w (w'.putObj l o) :=
  h.trans ⟨rfl, rfl, rfl, by simp, fun k hk => World.putObj_heap_other (by omega)⟩
theorem RdI.call {w w' w2 : World} {mB X n : Nat} {ib ob : Nat → Nat} (h : RdI w w' mB X n ib ob) (hb : Below w'.heap.size w' w2) (hz : X + 3 < w'.heap.size) : RdI w w2 mB X n ib ob :=
  ⟨(hb.block _ hz).trans h.map, h.xr.call hb, h.pr.call hb, h.ar.call hb, fun j hj => ⟨(h.ir j hj).1.call hb, (h.ir j hj).2.1.call hb, (h.ir j hj).2.2⟩, h.bel.trans (hb.mono (by omega))⟩
theorem s3_iff (k : Nat) : (if WideOp k then (if k = 1 then 3 else if k = 25 then 5 else 6) else 0 : Int) = 0 ↔ ¬ WideOp k := by
  by_cases hw : WideOp k
  · rw [if_pos hw]
    refine ⟨fun h => ?_, fun h => absurd hw h⟩
    by_cases h1 : k = 1
    · rw [if_pos h1] at h; omega
    · rw [if_neg h1] at h
      by_cases h2 : k = 25
      · rw [if_pos h2] at h; omega
      · rw [if_neg h2] at h; omega
  · rw [if_neg hw]
    exact ⟨fun _ => hw, fun _ => rfl⟩
theorem RdI.next {w wr y9 W9 : World} {mB X k i o : Nat} {ib ob : Nat → Nat} (h : RdI w wr mB X k ib ob) (hb : Below wr.heap.size wr y9) (hX : X + 3 < wr.heap.size)
    (hM : W9.heap[X + 3]? = some (.map ((ents X (X + 1) (X + 2) ib ob k).toArray.push ⟨.string (nm k), .func (.func 38) #[] #[.pointer (some ⟨X + 2, 0, none⟩), .pointer (some ⟨i, 0, none⟩), .pointer (some ⟨o, 0, none⟩)], 4 + k⟩) (4 + k + 1)))
    (hk : W9 = y9.putObj (X + 3) (.map ((ents X (X + 1) (X + 2) ib ob k).toArray.push ⟨.string (nm k), .func (.func 38) #[] #[.pointer (some ⟨X + 2, 0, none⟩), .pointer (some ⟨i, 0, none⟩), .pointer (some ⟨o, 0, none⟩)], 4 + k⟩) (4 + k + 1)))
    (hi : RowL y9 i 82 [fI k]) (ho : RowL y9 o 3 [.int .i64 (k : Int)]) (h1 : X + 3 < i) (h2 : X + 3 < o) : ∃ ib ob, RdI w W9 mB X (k + 1) ib ob := by
  have hk9 : ∀ b, b ≠ X + 3 → W9.heap[b]? = y9.heap[b]? := fun b hb => by rw [hk]; exact World.putObj_heap_other hb
  have h9 := h.call hb hX
  refine ⟨fun j => if j = k then i else ib j, fun j => if j = k then o else ob j, ?_, World.rowIs.of_block h9.xr (hk9 _ (by omega)), World.rowIs.of_block h9.pr (hk9 _ (by omega)), World.rowIs.of_block h9.ar (hk9 _ (by omega)), fun j hj => ?_, ?_⟩
  · rw [hM]
    congr 2
    have e1 : ents X (X + 1) (X + 2) (fun j => if j = k then i else ib j) (fun j => if j = k then o else ob j) k = ents X (X + 1) (X + 2) ib ob k := ents_congr fun j hj => by simp [show j ≠ k by omega]
    rw [ents_succ, e1]
    simp [fO]
  · by_cases e : j = k
    · subst e
      simp only [if_pos]
      exact ⟨World.rowIs.of_block hi (hk9 _ (by omega)), World.rowIs.of_block ho (hk9 _ (by omega)), h1, h2⟩
    · simp only [if_neg e]
      obtain ⟨r1, r2, r3, r4⟩ := h9.ir j (by omega)
      exact ⟨World.rowIs.of_block r1 (hk9 _ (by omega)), World.rowIs.of_block r2 (hk9 _ (by omega)), r3, r4⟩
  · rw [hk]
    exact below_put h9.bel (by omega) _
theorem push_ex {P : Program} {w : World} {T K E : TypeId} {M clk : Nat} {es : Array MapEntry} {p : ByteArray} {v : Value} (hT : P.underlying T = some (.map K E)) (hK : P.underlying K = some .string) (hM : w.heap[M]? = some (.map es clk)) (hf : Instr.findNow .string (.string p) es.toList 0 = some none) :
    ∃ W, (Instr.mapUpdate T (.map (some M)) (.string p) v).run P w = .ok () W ∧ W.heap[M]? = some (.map (es.push ⟨.string p, v, clk⟩) (clk + 1)) ∧ W = w.putObj M (.map (es.push ⟨.string p, v, clk⟩) (clk + 1)) :=
  ⟨_, run_mapPush hT hK hM hf, World.putObj_heap_same (Array.getElem?_eq_some_iff.1 hM).1, rfl⟩
theorem us_oneC : ∀ k : Fin 34, (#[usC k.val 0, usC k.val 1, usC k.val 2, usC k.val 3, usC k.val 4, usC k.val 5, usC k.val 6, usC k.val 7, usC k.val 8, usC k.val 9] : Array Value).all (·.oneCell') = true := by decide +kernel
theorem lineReaders_in (mB : Nat) (w : World) (hnm : Named w) : Calls Tryz.prog 12 #[.pointer (some ⟨mB, 0, none⟩)] w fun e w' => ∃ ib ob, e = .returned (.map (some (w.heap.size + 3))) ∧ RdI w w' mB w.heap.size 34 ib ob := by
  obtain ⟨U, hUe⟩ : ∃ U, U = usTab := ⟨_, rfl⟩
  have hau := hidR allUsages_in
  rw [← hUe] at hau
  replace hUe := hidR hUe
  replace hnm := hidR hnm
  have hmm := @run_makeMap Tryz.prog
  go_enter Tryz.func12, Tryz.ntmps12
  go_upto_region 3 with fail
  obtain ⟨X, hX⟩ : ∃ X, w.heap.size = X := ⟨_, rfl⟩
  have RX := ((RowL.new w [.pointer (some ⟨mB, 0, none⟩)] 37).alloc (.cells #[.pointer none] 69)).alloc (.cells #[.func (.func 26) #[] #[.pointer (some ⟨w.heap.size + 1, 0, none⟩)]] 70)
  have RP := (RowL.new (w.alloc (.cells #[.pointer (some ⟨mB, 0, none⟩)] 37)) [.pointer none] 69).alloc (.cells #[.func (.func 26) #[] #[.pointer (some ⟨w.heap.size + 1, 0, none⟩)]] 70)
  have RA := RowL.new ((w.alloc (.cells #[.pointer (some ⟨mB, 0, none⟩)] 37)).alloc (.cells #[.pointer none] 69)) [.func (.func 26) #[] #[.pointer (some ⟨w.heap.size + 1, 0, none⟩)]] 70
  have bw : Below w.heap.size w (((w.alloc (.cells #[.pointer (some ⟨mB, 0, none⟩)] 37)).alloc (.cells #[.pointer none] 69)).alloc (.cells #[.func (.func 26) #[] #[.pointer (some ⟨w.heap.size + 1, 0, none⟩)]] 70)) := by go_grown
  have hs3 : (((w.alloc (.cells #[.pointer (some ⟨mB, 0, none⟩)] 37)).alloc (.cells #[.pointer none] 69)).alloc (.cells #[.func (.func 26) #[] #[.pointer (some ⟨w.heap.size + 1, 0, none⟩)]] 70)).heap.size = w.heap.size + 3 := by simp
  simp only [World.size_alloc] at RP RA
  rw [hX] at RX RP RA bw hs3 ⊢
  generalize ((w.alloc (.cells #[.pointer (some ⟨mB, 0, none⟩)] 37)).alloc (.cells #[.pointer none] 69)).alloc (.cells #[.func (.func 26) #[] #[.pointer (some ⟨X + 1, 0, none⟩)]] 70) = w3 at RX RP RA bw hs3 ⊢
  replace hX := hidR hX
  replace RX := hidR RX
  replace RP := hidR RP
  replace RA := hidR RA
  replace bw := hidR bw
  replace hs3 := hidR hs3
  obtain ⟨M, hMe⟩ : ∃ M, w3.heap.size = M := ⟨_, rfl⟩
  have hM0 : (w3.alloc (.map #[] 0)).heap[M]? = some (.map #[] 0) := by rw [← hMe]; exact heap_alloc_new _ _
  obtain ⟨W1, h1, hM1, hk1⟩ := push_ex (v := .func (.func 27) #[] #[.pointer (some ⟨X, 0, none⟩), .pointer (some ⟨X + 1, 0, none⟩)]) (p := ⟨#[112, 114, 111, 116, 111]⟩) Tryz.underlying35 Tryz.underlying9 hM0 rfl
  obtain ⟨W2, h2, hM2, hk2⟩ := push_ex (v := .func (.func 29) #[] #[.pointer (some ⟨X + 1, 0, none⟩)]) (p := ⟨#[99, 111, 110, 115, 116]⟩) Tryz.underlying35 Tryz.underlying9 hM1 (by kernel_rfl)
  obtain ⟨W3, h3, hM3, hk3⟩ := push_ex (v := .func (.func 31) #[] #[.pointer (some ⟨X + 1, 0, none⟩)]) (p := ⟨#[117, 112]⟩) Tryz.underlying35 Tryz.underlying9 hM2 (by kernel_rfl)
  obtain ⟨W4, h4, hM4, hk4⟩ := push_ex (v := .func (.func 33) #[] #[.pointer (some ⟨X + 2, 0, none⟩)]) (p := ⟨#[119, 111, 114, 100]⟩) Tryz.underlying35 Tryz.underlying9 hM3 (by kernel_rfl)
  replace hM4 := hidR hM4
  replace hk1 := hidR hk1
  replace hk2 := hidR hk2
  replace hk3 := hidR hk3
  replace hk4 := hidR hk4
  clear hM0 hM1 hM2 hM3
  go_upto_region 4 with fail
  have hMX : M = X + 3 := by rw [← hMe]; exact hs3.out
  have keep4 : ∀ k, k ≠ M → k < w3.heap.size → W4.heap[k]? = w3.heap[k]? := fun k hk hlt => by
    rw [hk4.out, World.putObj_heap_other hk, hk3.out, World.putObj_heap_other hk, hk2.out, World.putObj_heap_other hk, hk1.out, World.putObj_heap_other hk]
    exact Below.heap_alloc _ _ _ hlt
  have sz4 : W4.heap.size = w3.heap.size + 1 := by rw [hk4.out, hk3.out, hk2.out, hk1.out]; simp
  have b4 : Below X w W4 := by
    rw [hk4.out, hk3.out, hk2.out, hk1.out]
    refine below_put ?_ (by omega) _
    refine below_put ?_ (by omega) _
    refine below_put ?_ (by omega) _
    refine below_put ?_ (by omega) _
    exact bw.out.alloc (by have := bw.out.size; rw [hX.out] at this; omega) _
  have hrd0 : RdI w W4 mB X 0 (fun _ => 0) (fun _ => 0) := ⟨by rw [← hMX]; exact hM4.out, World.rowIs.of_block RX.out (keep4 X (by omega) RX.out.lt), World.rowIs.of_block RP.out (keep4 (X + 1) (by omega) RP.out.lt), World.rowIs.of_block RA.out (keep4 (X + 2) (by omega) RA.out.lt), fun j hj => by omega, b4⟩
  have hz4 : X + 3 < W4.heap.size := by omega
  clear hk1 hk2 hk3 hk4 keep4 b4 RX RP RA bw hM4 h1 h2 h3 h4 hMe sz4 hs3 hmm
  subst hMX
  replace hrd0 := hidR hrd0
  go_wp2_with fail
  refine Calls.mono (hau.out _) ?_
  rintro e y1 ⟨rfl, b1⟩
  have hrd1 : Hid (∃ ib ob, RdI w y1 mB X 0 ib ob) := ⟨_, _, hrd0.out.call b1 hz4⟩
  have hz1 : X + 3 < y1.heap.size := Nat.lt_of_lt_of_le hz4 b1.size
  clear hrd0 b1 hau hz4
  go_wp2_with fail
  go_loopw [17] (fun iv wr => ∃ (k : Nat), iv = .int .i64 (k : Int) ∧ k ≤ 34 ∧ Hid (∃ ib ob, RdI w wr mB X k ib ob)) (fun iv _ => 35 - (intOf iv).toNat)
  case atStart => exact ⟨0, rfl, by omega, hrd1⟩
  case round =>
    clear hrd1
    obtain ⟨k, rfl, hk, hI⟩ := hrel
    by_cases hlt : k < 34
    · have hkI : (k : Int) < 64 := by omega
      have hk33 : ¬ (33 : Int) < (k : Int) := by omega
      obtain ⟨ib, ob, hr⟩ := hI.out
      clear hI
      have hix := fun y => index_us k (by omega) y
      have hone := us_oneC ⟨k, hlt⟩
      rw [← hUe.out] at hix
      dsimp only at hone
      rw [us_wide9 k hlt] at hix hone
      have hs3 := hidR (s3_iff k)
      generalize (if WideOp k then (if k = 1 then 3 else if k = 25 then 5 else 6) else 0 : Int) = s3 at hix hone hs3
      generalize usC k 0 = u0 at hix hone
      generalize usC k 1 = u1 at hix hone
      generalize usC k 2 = u2 at hix hone
      generalize usC k 4 = u4 at hix hone
      generalize usC k 5 = u5 at hix hone
      generalize usC k 6 = u6 at hix hone
      generalize usC k 7 = u7 at hix hone
      generalize usC k 8 = u8 at hix hone
      generalize usC k 9 = u9 at hix hone
      replace hone := hidR hone
      replace hr := hidR hr
      have hold9 := hidR (heap_alloc_new (wr.alloc (.cells #[.int .i64 (k : Int)] 3)) (.cells #[.int .i64 0, .int .i64 0, .int .i64 0, .int .i64 0, .bool false, .nilFunc, .nilFunc, .nilFunc, .nilFunc, .nilFunc] 78))
      rw [World.size_alloc] at hold9
      go_upto_region 7 with (refine wpList_store_row rfl 78 (.tmp 7) (.tmp 20) rfl (wr.heap.size + 1) #[u0, u1, u2, .int .i64 s3, u4, u5, u6, u7, u8, u9] rfl rfl 78 #[.int .i64 0, .int .i64 0, .int .i64 0, .int .i64 0, .bool false, .nilFunc, .nilFunc, .nilFunc, .nilFunc, .nilFunc] hold9.out (by simpa using infUs) rfl hone.out ?_)
      try simp only [Act.put]
      have RO := (RowL.new wr [.int .i64 (k : Int)] 3).alloc (.cells #[.int .i64 0, .int .i64 0, .int .i64 0, .int .i64 0, .bool false, .nilFunc, .nilFunc, .nilFunc, .nilFunc, .nilFunc] 78)
      replace RO := RO.rowOther (show wr.heap.size ≠ wr.heap.size + 1 by omega) #[u0, u1, u2, .int .i64 s3, u4, u5, u6, u7, u8, u9]
      have RU := RowL.new (wr.alloc (.cells #[.int .i64 (k : Int)] 3)) [.int .i64 0, .int .i64 0, .int .i64 0, .int .i64 0, .bool false, .nilFunc, .nilFunc, .nilFunc, .nilFunc, .nilFunc] 78
      rw [World.size_alloc] at RU
      replace RU := RU.setRow [u0, u1, u2, .int .i64 s3, u4, u5, u6, u7, u8, u9] rfl
      have bz : Below wr.heap.size wr (((wr.alloc (.cells #[.int .i64 (k : Int)] 3)).alloc (.cells #[.int .i64 0, .int .i64 0, .int .i64 0, .int .i64 0, .bool false, .nilFunc, .nilFunc, .nilFunc, .nilFunc, .nilFunc] 78)).setRow (wr.heap.size + 1) #[u0, u1, u2, .int .i64 s3, u4, u5, u6, u7, u8, u9]) := below_row (((Below.refl _ _).alloc (Nat.le_refl _) _).alloc (by simp) _) (by omega) _
      have cu3 := RU.cell 3 rfl
      have co := RO.cell 0 rfl
      have hol := RO.lt
      have hz7 : wr.heap.size + 1 < ((((wr.alloc (.cells #[.int .i64 (k : Int)] 3)).alloc (.cells #[.int .i64 0, .int .i64 0, .int .i64 0, .int .i64 0, .bool false, .nilFunc, .nilFunc, .nilFunc, .nilFunc, .nilFunc] 78)).setRow (wr.heap.size + 1) #[u0, u1, u2, .int .i64 s3, u4, u5, u6, u7, u8, u9])).heap.size := RU.lt
      replace RO := hidR RO
      clear hone hold9 hix RU
      generalize (((wr.alloc (.cells #[.int .i64 (k : Int)] 3)).alloc (.cells #[.int .i64 0, .int .i64 0, .int .i64 0, .int .i64 0, .bool false, .nilFunc, .nilFunc, .nilFunc, .nilFunc, .nilFunc] 78)).setRow (wr.heap.size + 1) #[u0, u1, u2, .int .i64 s3, u4, u5, u6, u7, u8, u9]) = y7 at RO bz cu3 co hz7 hol ⊢
      have hXl : X + 3 < wr.heap.size := (Array.getElem?_eq_some_iff.1 hr.out.map).1
      have hy7 := bz.size
      by_cases hw : WideOp k
      · have hsn : ¬ s3 = 0 := fun e => (hs3.out.1 e) hw
        have hsb : (s3 == 0) = false := by simpa using hsn
        clear hs3
        go_upto_region 11 with fail
        have RI : RowL (y7.alloc (.cells #[.func (.func 37) #[] #[]] 82)) y7.heap.size 82 [fI k] := by
          have := RowL.new y7 [.func (.func 37) #[] #[]] 82
          unfold fI
          rw [if_pos hw]
          exact this
        have b8 : Below y7.heap.size y7 (y7.alloc (.cells #[.func (.func 37) #[] #[]] 82)) := (Below.refl _ _).alloc (Nat.le_refl _) _
        generalize y7.alloc (.cells #[.func (.func 37) #[] #[]] 82) = y8 at RI b8 ⊢
        have co8 := (RO.out.call b8).cell 0 rfl
        have RO8 := hidR (RO.out.call b8)
        have bz8 := bz.trans (b8.mono bz.size)
        have hop := hidR (implName k hlt y8 (hnm.out.below (hr.out.bel.trans (bz8.mono (by have := hr.out.xr.lt; omega)) |> fun h => by rw [hX.out]; exact h)))
        clear co cu3
        go_wp2_with fail
        refine Calls.mono hop.out ?_
        rintro e y9 ⟨rfl, b9⟩
        clear hop
        have bz9 := bz8.trans (b9.mono bz8.size)
        have hM9 := (bz9.block (X + 3) hXl).trans hr.out.map
        obtain ⟨W9, h9, hM10, hk10⟩ := push_ex (v := .func (.func 38) #[] #[.pointer (some ⟨X + 2, 0, none⟩), .pointer (some ⟨y7.heap.size, 0, none⟩), .pointer (some ⟨wr.heap.size, 0, none⟩)]) (p := nm k) Tryz.underlying35 Tryz.underlying9 hM9 (ents_fresh hlt)
        have hnew : Hid (∃ ib ob, RdI w W9 mB X (k + 1) ib ob) := RdI.next hr.out bz9 hXl hM10 hk10 (RI.call b9) (RO8.out.call b9) (by omega) (by omega)
        clear hM9 hM10 hk10 hr RO RO8 RI b8 b9 bz bz8 bz9 hw
        go_wp2_with fail
        go_roundw
        case rel => exact ⟨k + 1, by go_num, by omega, hnew⟩
        case measure => clear hnew; simp only [intOf]; omega

      · obtain rfl : s3 = 0 := hs3.out.2 hw
        clear hs3
        go_upto_region 11 with fail
        have RI : RowL (y7.alloc (.cells #[.func (.func 36) #[] #[]] 82)) y7.heap.size 82 [fI k] := by
          have := RowL.new y7 [.func (.func 36) #[] #[]] 82
          unfold fI
          rw [if_neg hw]
          exact this
        have b8 : Below y7.heap.size y7 (y7.alloc (.cells #[.func (.func 36) #[] #[]] 82)) := (Below.refl _ _).alloc (Nat.le_refl _) _
        generalize y7.alloc (.cells #[.func (.func 36) #[] #[]] 82) = y8 at RI b8 ⊢
        have co8 := (RO.out.call b8).cell 0 rfl
        have RO8 := hidR (RO.out.call b8)
        have bz8 := bz.trans (b8.mono bz.size)
        have hop := hidR (implName k hlt y8 (hnm.out.below (hr.out.bel.trans (bz8.mono (by have := hr.out.xr.lt; omega)) |> fun h => by rw [hX.out]; exact h)))
        clear co cu3
        go_wp2_with fail
        refine Calls.mono hop.out ?_
        rintro e y9 ⟨rfl, b9⟩
        clear hop
        have bz9 := bz8.trans (b9.mono bz8.size)
        have hM9 := (bz9.block (X + 3) hXl).trans hr.out.map
        obtain ⟨W9, h9, hM10, hk10⟩ := push_ex (v := .func (.func 38) #[] #[.pointer (some ⟨X + 2, 0, none⟩), .pointer (some ⟨y7.heap.size, 0, none⟩), .pointer (some ⟨wr.heap.size, 0, none⟩)]) (p := nm k) Tryz.underlying35 Tryz.underlying9 hM9 (ents_fresh hlt)
        have hnew : Hid (∃ ib ob, RdI w W9 mB X (k + 1) ib ob) := RdI.next hr.out bz9 hXl hM10 hk10 (RI.call b9) (RO8.out.call b9) (by omega) (by omega)
        clear hM9 hM10 hk10 hr RO RO8 RI b8 b9 bz bz8 bz9 hw
        go_wp2_with fail
        go_roundw
        case rel => exact ⟨k + 1, by go_num, by omega, hnew⟩
        case measure => clear hnew; simp only [intOf]; omega

    · obtain rfl : k = 34 := by omega
      have hkI : ((34 : Nat) : Int) < 64 := by omega
      have hk33 : (33 : Int) < ((34 : Nat) : Int) := by omega
      obtain ⟨ib, ob, hr⟩ := hI.out
      clear hI
      have hix : ∀ y, (Instr.index 80 (.agg U) (.int .i64 34)).run Tryz.prog y = .ok (.agg #[.int .i64 0, .int .i64 0, .int .i64 0, .int .i64 0, .bool false, .nilFunc, .nilFunc, .nilFunc, .nilFunc, .nilFunc]) y := fun y => by
        have := index_us 34 (by omega) y
        rw [← hUe.out] at this
        exact this
      have hXl : X + 3 < wr.heap.size := (Array.getElem?_eq_some_iff.1 hr.map).1
      have bz : Below wr.heap.size wr (((wr.alloc (.cells #[.int .i64 34] 3)).alloc (.cells #[.int .i64 0, .int .i64 0, .int .i64 0, .int .i64 0, .bool false, .nilFunc, .nilFunc, .nilFunc, .nilFunc, .nilFunc] 78)).setRow (wr.heap.size + 1) #[.int .i64 0, .int .i64 0, .int .i64 0, .int .i64 0, .bool false, .nilFunc, .nilFunc, .nilFunc, .nilFunc, .nilFunc]) := below_row (((Below.refl _ _).alloc (Nat.le_refl _) _).alloc (by simp) _) (by omega) _
      have hend := hidR (hr.call bz hXl)
      have co : (((wr.alloc (.cells #[.int .i64 34] 3)).alloc (.cells #[.int .i64 0, .int .i64 0, .int .i64 0, .int .i64 0, .bool false, .nilFunc, .nilFunc, .nilFunc, .nilFunc, .nilFunc] 78)).setRow (wr.heap.size + 1) #[.int .i64 0, .int .i64 0, .int .i64 0, .int .i64 0, .bool false, .nilFunc, .nilFunc, .nilFunc, .nilFunc, .nilFunc]).cell? ⟨wr.heap.size, 0, none⟩ = some (.int .i64 34) := (((RowL.new wr [.int .i64 34] 3).alloc (.cells #[.int .i64 0, .int .i64 0, .int .i64 0, .int .i64 0, .bool false, .nilFunc, .nilFunc, .nilFunc, .nilFunc, .nilFunc] 78)).rowOther (show wr.heap.size ≠ wr.heap.size + 1 by omega) #[.int .i64 0, .int .i64 0, .int .i64 0, .int .i64 0, .bool false, .nilFunc, .nilFunc, .nilFunc, .nilFunc, .nilFunc]).cell 0 rfl
      clear hr bz
      have hold9 := hidR (heap_alloc_new (wr.alloc (.cells #[.int .i64 34] 3)) (.cells #[.int .i64 0, .int .i64 0, .int .i64 0, .int .i64 0, .bool false, .nilFunc, .nilFunc, .nilFunc, .nilFunc, .nilFunc] 78))
      rw [World.size_alloc] at hold9
      go_upto_region 7 with (refine wpList_store_row rfl 78 (.tmp 7) (.tmp 20) rfl (wr.heap.size + 1) #[.int .i64 0, .int .i64 0, .int .i64 0, .int .i64 0, .bool false, .nilFunc, .nilFunc, .nilFunc, .nilFunc, .nilFunc] rfl rfl 78 #[.int .i64 0, .int .i64 0, .int .i64 0, .int .i64 0, .bool false, .nilFunc, .nilFunc, .nilFunc, .nilFunc, .nilFunc] hold9.out (by simpa using infUs) rfl (by simp [Value.oneCell']) ?_)
      try simp only [Act.put]
      generalize ((wr.alloc (.cells #[.int .i64 34] 3)).alloc (.cells #[.int .i64 0, .int .i64 0, .int .i64 0, .int .i64 0, .bool false, .nilFunc, .nilFunc, .nilFunc, .nilFunc, .nilFunc] 78)).setRow (wr.heap.size + 1) #[.int .i64 0, .int .i64 0, .int .i64 0, .int .i64 0, .bool false, .nilFunc, .nilFunc, .nilFunc, .nilFunc, .nilFunc] = y7 at hend co ⊢
      go_wp2_with fail
      refine bodyPost_ret (v := .map (some (X + 3))) (by simp [results, Tryz.results12, go_sem]) rfl ⟨ib, ob, ?_, ?_⟩
      · rw [hX.out]
      · rw [hX.out]; exact hend.out
end Go.Proofs.YtkanjbopfflioaaGreatDoor

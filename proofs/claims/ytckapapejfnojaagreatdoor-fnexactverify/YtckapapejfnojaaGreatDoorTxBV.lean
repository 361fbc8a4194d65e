import Derived.Test.YtckapapejfnojaaGreatDoorTxAV
import Derived.Test.YtckapapejfnojaaGreatDoorGAV
namespace Go.Proofs.YtckapapejfnojaaGreatDoor
open Go.RowKit Go.Shelf
set_option linter.unusedVariables false
set_option linter.unusedSimpArgs false
attribute [local go_sem] Oper.semAt_some
set_option maxRecDepth 100000 in
set_option maxHeartbeats 8000000 in
theorem topsOf_in (w : World) (pb po B uo : Nat) (p : PD) (a3 a4 a5 : Value) (hP : PtrP w pb po p a3 a4 a5) (hS : Spans w) (hU : UsO w B uo) (hB : B < w.heap.size) (hcb : ∀ i, i < p.code.n → 0 ≤ p.code.f i ∧ p.code.f i ≤ 4294967295) (hn : p.code.n ≤ 2000) (h0 : 0 < p.code.n) :
    Calls Tryz.prog 35 #[.pointer (some ⟨pb, po, none⟩), .pointer (some ⟨B, uo, none⟩)] w fun e w' => e = .returned (.slice (some ⟨w.heap.size, 0, none⟩) p.code.n p.code.n) ∧ Below w.heap.size w w' ∧ ∃ f : Nat → Int, w'.rowIs w.heap.size 3 p.code.n (fun i => .int .i64 (f i)) ∧ ∀ t, t < p.code.n → TopAt p.code t (f t) := by
  obtain ⟨b, o, cap, rfl, hb, hc⟩ := hP.word h0
  have c3 := hP.c3
  have lt := hP.lt
  have hmk := run_make_rows 34 3 (.int .i64 0) 1 8 Tryz.underlying34 (by kernel_rfl) p.code.n (by omega) (by omega)
  have r1 := World.rowIs_made w (.int .i64 0) p.code.n 3
  have hm : w.alloc (.cells (madeCells #[.int .i64 0] p.code.n) 3) = madeW w (.int .i64 0) p.code.n 1 3 := by unfold madeW; rw [Nat.mul_one]; rfl
  rw [hm] at r1
  have b1 : Below w.heap.size w (madeW w (.int .i64 0) p.code.n 1 3) := below_madeW _ _ _ _ _
  replace hP : Hid (PtrP w pb po p (.slice (some ⟨b, o, none⟩) p.code.n cap) a4 a5) := hP
  replace hcb : Hid (∀ i, i < p.code.n → 0 ≤ p.code.f i ∧ p.code.f i ≤ 4294967295) := hcb
  replace hU : Hid (UsO w B uo) := hU
  clear hc hm
  go_enter Tryz.func35, Tryz.ntmps35
  go_wp2_with fail
  have s1 : Hid (Below w.heap.size w (madeW w (.int .i64 0) p.code.n 1 3) ∧ (madeW w (.int .i64 0) p.code.n 1 3).rowIs w.heap.size 3 p.code.n (fun i => .int .i64 (if i < 0 then -2 else 0))) := ⟨b1, r1⟩
  clear hmk r1 b1
  generalize madeW w (.int .i64 0) p.code.n 1 3 = y1 at s1 ⊢
  go_loopw [6, 19] (fun pv kv wr => ∃ k : Nat, kv = .int .i64 (k : Int) ∧ k ≤ p.code.n ∧ Hid (Below w.heap.size w wr ∧ wr.rowIs w.heap.size 3 p.code.n (fun i => .int .i64 (if i < k then -2 else 0)))) (fun _ kv _ => p.code.n - (intOf kv).toNat)
  case atStart => exact ⟨0, rfl, by omega, s1.out⟩
  case round =>
    obtain ⟨k, rfl, hk, hT⟩ := hrel
    obtain ⟨wA, hwA⟩ : ∃ x, x = wr := ⟨_, rfl⟩
    subst hwA
    clear s1
    obtain ⟨hbA, hrA⟩ := hT.out
    by_cases hlt : k < p.code.n
    · have hkI : (k : Int) < (p.code.n : Int) := by omega
      have q1 := hrA.cell hlt
      have f1 := hrA.frozen k
      have T1 : Hid (Below w.heap.size w (wA.setCell ⟨w.heap.size, k, none⟩ (.int .i64 (-2))) ∧ (wA.setCell ⟨w.heap.size, k, none⟩ (.int .i64 (-2))).rowIs w.heap.size 3 p.code.n (fun i => .int .i64 (if i < k + 1 then -2 else 0))) := by
        refine ⟨hbA.setCell (p := ⟨w.heap.size, k, none⟩) (Nat.le_refl _) _, (World.rowIs.set hrA k (.int .i64 (-2))).congr fun i hi => ?_⟩
        by_cases e : i = k
        · subst e; simp
        · rw [if_neg e]
          by_cases h : i < k
          · rw [if_pos h, if_pos (by omega)]
          · rw [if_neg h, if_neg (by omega)]
      clear hT hbA hrA
      go_wp2_with fail
      go_roundw
      case rel => exact ⟨k + 1, by go_num, by omega, T1.out⟩
      case measure => simp [intOf]; omega
    · obtain rfl : k = p.code.n := by omega
      have hkI : ¬ ((p.code.n : Int) < (p.code.n : Int)) := by omega
      have hK0 : KS w p.code.n (putT (fun _ => -2) 0 (-1)) (.slice (some ⟨wA.heap.size, 0, none⟩) 1 1) [0] ((wA.setCell ⟨w.heap.size, 0, none⟩ (.int .i64 (-1))).alloc (.cells #[.int .i64 0] 3)) := by
        have hsz := World.rowIs.lt hrA
        have e1 : (wA.setCell ⟨w.heap.size, 0, none⟩ (.int .i64 (-1))).heap.size = wA.heap.size := World.size_setCell _ _ _
        refine ⟨World.rowIs.alloc ((World.rowIs.set hrA 0 (.int .i64 (-1))).congr fun i hi => ?_) _, ?_, (hbA.setCell (p := ⟨w.heap.size, 0, none⟩) (Nat.le_refl _) _).alloc (by rw [e1]; exact hbA.size) _⟩
        · by_cases e : i = 0
          · subst e; simp [putT_same]
          · rw [if_neg e, putT_other e, if_pos hi]
        · have := World.ownsRow_lit (base := w.heap.size + 1) (e := 3) (size := 1) (wA.setCell ⟨w.heap.size, 0, none⟩ (.int .i64 (-1))) #[.int .i64 0] 1 (by rw [e1]; omega) (by simp only [maxLen]; omega) rfl
          rw [e1] at this
          exact this
      have q1 := hrA.cell h0
      have f1 := hrA.frozen 0
      have W0 : Hid (Wk p.code (fun _ => False) [0] (putT (fun _ => -2) 0 (-1))) := Wk.start p.code h0
      replace hK0 : Hid (KS w p.code.n (putT (fun _ => -2) 0 (-1)) (.slice (some ⟨wA.heap.size, 0, none⟩) 1 1) [0] ((wA.setCell ⟨w.heap.size, 0, none⟩ (.int .i64 (-1))).alloc (.cells #[.int .i64 0] 3))) := hK0
      clear hT hbA hrA
      go_wp2_with fail
      have s2 : Hid (KS w p.code.n (putT (fun _ => -2) 0 (-1)) (.slice (some ⟨wA.heap.size, 0, none⟩) 1 1) [0] ((wA.setCell ⟨w.heap.size, 0, none⟩ (.int .i64 (-1))).alloc (.cells #[.int .i64 0] 3)) ∧ Wk p.code (fun _ => False) [0] (putT (fun _ => -2) 0 (-1)) ∧ 2 * cnt2 (putT (fun _ => -2) 0 (-1)) p.code.n + [0].length ≤ 2 * p.code.n + 1) := ⟨hK0.out, W0.out, by have := cnt2_bound (putT (fun _ => -2) 0 (-1)) p.code.n; simp; omega⟩
      clear q1 f1 hK0 W0
      generalize (wA.setCell ⟨w.heap.size, 0, none⟩ (.int .i64 (-1))).alloc (.cells #[.int .i64 0] 3) = y2 at s2 ⊢
      go_loopw [7] (fun wv wr => ∃ (g cp : Nat) (D : Nat → Prop) (wk : List Nat) (tv : Nat → Int), wv = .slice (some ⟨g, 0, none⟩) wk.length cp ∧ Hid (KS w p.code.n tv (.slice (some ⟨g, 0, none⟩) wk.length cp) wk wr ∧ Wk p.code D wk tv ∧ 2 * cnt2 tv p.code.n + wk.length ≤ 2 * p.code.n + 1)) (fun wv wr => 2 * cntM wr w.heap.size p.code.n + lenM wv)
      case atStart => exact ⟨wA.heap.size, 1, fun _ => False, [0], _, rfl, s2.out⟩
      case round =>
        obtain ⟨g, cp, D, wk, tv, rfl, hT⟩ := hrel
        obtain ⟨wB, hwB⟩ : ∃ x, x = wr := ⟨_, rfl⟩
        subst hwB
        clear s2
        by_cases hwk : 0 < wk.length
        · obtain ⟨wk, q, rfl⟩ := list_last wk hwk
          obtain ⟨hK, hW, hM⟩ := hT.out
          have hgl := hK.own.lt g rfl
          have hT9 : Hid (wB.ownsRow (w.heap.size + 1) 3 1 (.slice (some ⟨g, 0, none⟩) (wk ++ [q]).length cp) (wk ++ [q]).length (wkL (wk ++ [q]))) := hK.own
          have hcnt := hK.cnt p.code.n (Nat.le_refl _)
          have hq := (hW.todo q (by simp)).2
          have hcq : wB.cell? ⟨g, wk.length, none⟩ = some (.int .i64 (q : Int)) := by
            rw [hK.own.cellAt wk.length (by simp)]
            simp [wkL]
          have hK2 := hK.pop
          have hPB := hP.out.later hK.bel
          have hSB := hS.below hK.bel
          have hUB := hU.out.later hB hK.bel
          have hz12 := hcb.out q hq
          obtain ⟨z, hz⟩ : ∃ z, p.code.f q = z := ⟨_, rfl⟩
          rw [hz] at hz12
          have hWi := hW.enter
          obtain ⟨L, hL⟩ : ∃ L, folW (q : Int) (p.code.f q) = L := ⟨_, rfl⟩
          rw [hL] at hWi
          have hlen : (wk ++ [q]).length = wk.length + 1 := by simp
          have hszB := hK.bel.size
          rw [hlen] at hM ⊢
          have hwl : wk.length ≤ 10000 := by omega
          replace hM : Hid (2 * cnt2 tv p.code.n + (wk.length + 1) ≤ 2 * p.code.n + 1) := hM
          replace hlen : Hid _ := hlen
          replace hK2 : Hid (KS w p.code.n tv (.slice (some ⟨g, 0, none⟩) wk.length cp) wk wB) := hK2
          replace hWi : Hid (Wi p.code D wk tv L q 0) := hWi
          replace hPB : Hid (PtrP wB pb po p (.slice (some ⟨b, o, none⟩) p.code.n cap) a4 a5) := hPB
          replace hSB : Hid (Spans wB) := hSB
          replace hUB : Hid (UsO wB B uo) := hUB
          replace hcnt : Hid (cntM wB w.heap.size p.code.n = cnt2 tv p.code.n) := hcnt
          replace hL : Hid (folW (q : Int) (p.code.f q) = L) := hL
          replace hz : Hid (p.code.f q = z) := hz
          have hz1 := hz12.1
          have hz2 := hz12.2
          have hwI : (0 : Int) < (wk.length : Int) + 1 := by omega
          clear hT hK hW hz12
          go_wp2_with fail
          refine (placeAt_in wB pb po B uo p _ a4 a5 q z hPB.out hSB.out hq hn hz.out hz1 hz2).mono ?_
          rintro e yP ⟨rfl, bP⟩
          have hKP := hK2.out.later bP
          have hPP := hPB.out.later bP
          have hUP := hUB.out.later (by omega) bP
          have hsP := bP.size
          have hcg : yP.cell? ⟨g, wk.length, none⟩ = some (.int .i64 (q : Int)) := (bP.cell (p := ⟨g, wk.length, none⟩) hgl.2).trans hcq
          replace hKP : Hid (KS w p.code.n tv (.slice (some ⟨g, 0, none⟩) wk.length cp) wk yP) := hKP
          replace hPP : Hid (PtrP yP pb po p (.slice (some ⟨b, o, none⟩) p.code.n cap) a4 a5) := hPP
          replace hUP : Hid (UsO yP B uo) := hUP
          have hcp : wk.length + 1 ≤ cp := by
            obtain ⟨-, h | ⟨g', cap', cur, hv, -, -, h1, -⟩⟩ := hT9.out
            · simp at h
            · simp only [Value.slice.injEq] at hv
              obtain ⟨-, -, rfl⟩ := hv
              simp at h1
              exact h1
          clear bP hK2 hPB hUB hSB hcq hT9
          go_wp2_with fail
          have bx : Below yP.heap.size yP (yP.alloc (.cells #[.pointer (some ⟨pb, po, none⟩), .pointer (some ⟨B, uo + (opW z).toNat * 10, none⟩), .int .i64 (q : Int), .int .i64 (opW z), .int .i64 (aW z), .int .i64 (bW z), .int .i64 (cW z), .int .i64 (sW z)] 150)) := (Below.refl _ _).alloc (Nat.le_refl _) _
          have RB := RowL.new yP [.pointer (some ⟨pb, po, none⟩), .pointer (some ⟨B, uo + (opW z).toNat * 10, none⟩), .int .i64 (q : Int), .int .i64 (opW z), .int .i64 (aW z), .int .i64 (bW z), .int .i64 (cW z), .int .i64 (sW z)] 150
          have sxP : (yP.alloc (.cells #[.pointer (some ⟨pb, po, none⟩), .pointer (some ⟨B, uo + (opW z).toNat * 10, none⟩), .int .i64 (q : Int), .int .i64 (opW z), .int .i64 (aW z), .int .i64 (bW z), .int .i64 (cW z), .int .i64 (sW z)] 150)).heap.size = yP.heap.size + 1 := World.size_alloc _ _
          replace hKP : Hid (KS w p.code.n tv (.slice (some ⟨g, 0, none⟩) wk.length cp) wk (yP.alloc (.cells #[.pointer (some ⟨pb, po, none⟩), .pointer (some ⟨B, uo + (opW z).toNat * 10, none⟩), .int .i64 (q : Int), .int .i64 (opW z), .int .i64 (aW z), .int .i64 (bW z), .int .i64 (cW z), .int .i64 (sW z)] 150))) := hKP.out.later bx
          replace hPP : Hid (PtrP (yP.alloc (.cells #[.pointer (some ⟨pb, po, none⟩), .pointer (some ⟨B, uo + (opW z).toNat * 10, none⟩), .int .i64 (q : Int), .int .i64 (opW z), .int .i64 (aW z), .int .i64 (bW z), .int .i64 (cW z), .int .i64 (sW z)] 150)) pb po p (.slice (some ⟨b, o, none⟩) p.code.n cap) a4 a5) := hPP.out.later bx
          replace hUP : Hid (UsO (yP.alloc (.cells #[.pointer (some ⟨pb, po, none⟩), .pointer (some ⟨B, uo + (opW z).toNat * 10, none⟩), .int .i64 (q : Int), .int .i64 (opW z), .int .i64 (aW z), .int .i64 (bW z), .int .i64 (cW z), .int .i64 (sW z)] 150)) B uo) := hUP.out.later (by omega) bx
          clear bx hcg
          generalize yP.alloc (.cells #[.pointer (some ⟨pb, po, none⟩), .pointer (some ⟨B, uo + (opW z).toNat * 10, none⟩), .int .i64 (q : Int), .int .i64 (opW z), .int .i64 (aW z), .int .i64 (bW z), .int .i64 (cW z), .int .i64 (sW z)] 150) = yQ at RB sxP hKP hPP hUP ⊢
          generalize hBP : yP.heap.size = BP at RB sxP ⊢
          refine (next_in yQ pb po B uo q z hUP.out (by omega) (by omega) (by omega) hz1 hz2).mono ?_
          rintro e yN ⟨u, rfl, bN, hIn⟩
          have hLq : folW (q : Int) z = L := by rw [← hz.out]; exact hL.out
          rw [hLq] at hIn
          obtain ⟨au, cu, rfl⟩ : ∃ a b, u = .slice a L.length b := by obtain ⟨a, b, h, _⟩ := hIn; exact ⟨a, b, h⟩
          have hsN := bN.size
          have hLl : L.length ≤ 2 := by rw [← hLq]; exact folO_len2 _ _
          obtain ⟨M, hMM⟩ : ∃ M, 2 * cnt2 tv p.code.n + wk.length = M := ⟨_, rfl⟩
          obtain ⟨NN, hNN⟩ : ∃ NN, yN.heap.size = NN := ⟨_, rfl⟩
          have s3 : Hid (IM w p.code.n tv g cp wk L BP NN [.pointer (some ⟨pb, po, none⟩), .pointer (some ⟨B, uo + (opW z).toNat * 10, none⟩), .int .i64 (q : Int), .int .i64 (opW z), .int .i64 (aW z), .int .i64 (bW z), .int .i64 (cW z), .int .i64 (sW z)] (.slice au L.length cu) yN ∧ Wi p.code D wk tv L q 0 ∧ 2 * cnt2 tv p.code.n + wk.length ≤ M) :=
            ⟨⟨hKP.out.later bN, .inl (by omega), by omega, by omega, RB.call bN, IsArr.mono hIn fun b hb => ⟨by omega, by omega⟩⟩, hWi.out, Nat.le_of_eq hMM⟩
          replace hMM : Hid (2 * cnt2 tv p.code.n + wk.length = M) := hMM
          replace hLq : Hid (folW (q : Int) z = L) := hLq
          replace hNN : Hid _ := hNN
          clear hKP hPP hUP RB hIn bN hWi hsN sxP hBP hsP
          go_wp2_with fail
          go_loopw [7, 49] (fun wv kv wr => ∃ (g cp : Nat) (wk : List Nat) (tv : Nat → Int) (k : Nat), wv = .slice (some ⟨g, 0, none⟩) wk.length cp ∧ kv = .int .i64 (k : Int) ∧ k ≤ L.length ∧ Hid (IM w p.code.n tv g cp wk L BP NN [.pointer (some ⟨pb, po, none⟩), .pointer (some ⟨B, uo + (opW z).toNat * 10, none⟩), .int .i64 (q : Int), .int .i64 (opW z), .int .i64 (aW z), .int .i64 (bW z), .int .i64 (cW z), .int .i64 (sW z)] (.slice au L.length cu) wr ∧ Wi p.code D wk tv L q k ∧ 2 * cnt2 tv p.code.n + wk.length ≤ M)) (fun _ kv _ => L.length - (intOf kv).toNat)
          case atStart => exact ⟨g, cp, wk, tv, 0, rfl, rfl, by omega, s3.out⟩
          case round =>
            clear s3
            obtain ⟨g0, hg0⟩ : ∃ x, x = g := ⟨_, rfl⟩
            obtain ⟨wk0, hwk0⟩ : ∃ x, x = wk := ⟨_, rfl⟩
            obtain ⟨tv0, htv0⟩ : ∃ x, x = tv := ⟨_, rfl⟩
            rw [← htv0, ← hwk0] at hMM hM
            rw [← htv0] at hcnt
            obtain ⟨g, cp, wk, tv, k, rfl, rfl, hkL, hT⟩ := hrel
            obtain ⟨wC, hwC⟩ : ∃ x, x = wr := ⟨_, rfl⟩
            subst hwC
            obtain ⟨hI, hWi, hC⟩ := hT.out
            have hbC := hI.ks.bel.size
            have hwl2 : wk.length ≤ 10000 := by have := hM.out; have := hMM.out; omega
            by_cases hk : k < L.length
            · have hkI : (k : Int) < (L.length : Int) := by omega
              obtain ⟨x, hx⟩ : ∃ x, L[k]? = some x := ⟨L[k], List.getElem?_eq_getElem hk⟩
              obtain ⟨bl, ol, rfl, hbl, hcl⟩ : ∃ bl ol, au = some ⟨bl, ol, none⟩ ∧ (BP + 1 ≤ bl ∧ bl < NN) ∧ wC.cell? ⟨bl, ol + k, none⟩ = some (.int .i64 x) := by
                obtain ⟨_, _, e, _, h⟩ := hI.lst
                obtain ⟨bl, ol, e', hb', hc'⟩ := h (by show 0 < L.length; omega)
                simp only [Value.slice.injEq] at e
                obtain ⟨rfl, -, -⟩ := e
                have h1 := hc' k hk 0 (by omega)
                have hxd : L.getD k 0 = x := by simp [List.getD, hx]
                exact ⟨bl, ol, e', hb', by simpa [iC, slI, hxd, hx] using h1⟩
              have r0 := hI.box.cell 0 rfl
              have r1 := hI.box.cell 1 rfl
              have r2 := hI.box.cell 2 rfl
              have r3 := hI.box.cell 3 rfl
              have r4 := hI.box.cell 4 rfl
              have r5 := hI.box.cell 5 rfl
              have r6 := hI.box.cell 6 rfl
              have r7 := hI.box.cell 7 rfl
              have hPC := hP.out.later hI.ks.bel
              replace hPC : Hid (PtrP wC pb po p (.slice (some ⟨b, o, none⟩) p.code.n cap) a4 a5) := hPC
              replace hI : Hid (IM w p.code.n tv g cp wk L BP NN [.pointer (some ⟨pb, po, none⟩), .pointer (some ⟨B, uo + (opW z).toNat * 10, none⟩), .int .i64 (q : Int), .int .i64 (opW z), .int .i64 (aW z), .int .i64 (bW z), .int .i64 (cW z), .int .i64 (sW z)] (.slice (some ⟨bl, ol, none⟩) L.length cu) wC) := hI
              replace hWi : Hid (Wi p.code D wk tv L q k) := hWi
              replace hC : Hid (2 * cnt2 tv p.code.n + wk.length ≤ M) := hC
              clear hT
              go_wp2_with fail
              by_cases hin : 0 ≤ x ∧ x < (p.code.n : Int)
              · obtain ⟨t, rfl⟩ := Int.eq_ofNat_of_zero_le hin.1
                have htn : t < p.code.n := by omega
                refine (inCode_in wC pb po B uo q z p _ a4 a5 hPC.out (t : Int) hn h0 true (by simp [htn])).mono ?_
                rintro e yI ⟨rfl, bI⟩
                clear r0 r1 r2 r3 r4 r5 r6 r7 hcl hin
                replace hI : Hid (IM w p.code.n tv g cp wk L BP NN [.pointer (some ⟨pb, po, none⟩), .pointer (some ⟨B, uo + (opW z).toNat * 10, none⟩), .int .i64 (q : Int), .int .i64 (opW z), .int .i64 (aW z), .int .i64 (bW z), .int .i64 (cW z), .int .i64 (sW z)] (.slice (some ⟨bl, ol, none⟩) L.length cu) yI) := hI.out.later bI
                have hbI := bI.size
                clear bI hPC
                have qt := hI.out.ks.cell htn
                have htI : (t : Int) < (p.code.n : Int) := by omega
                have htv : -3 ≤ tv t := (hWi.out.tops t htn).low
                have hne2 := hWi.out.ne2 htn hx
                rw [hz.out] at hne2
                replace hne2 : Hid (meet (tv t) (wayW z) ≠ -2) := hne2
                by_cases h2 : tv t = -2
                · have hWn : Wi p.code D (wk ++ [t]) (putT tv t (meet (tv t) (wayW z))) L q (k + 1) := by have := hWi.out.new htn hx h2; rw [hz.out] at this; exact this
                  have hCn : 2 * cnt2 (putT tv t (meet (tv t) (wayW z))) p.code.n + (wk ++ [t]).length ≤ M := by have h7 := cnt2_lt tv t (meet (tv t) (wayW z)) hne2.out h2 p.code.n htn; have h8 := hC.out; simp only [List.length_append, List.length_singleton]; omega
                  replace hWn : Hid (Wi p.code D (wk ++ [t]) (putT tv t (meet (tv t) (wayW z))) L q (k + 1)) := hWn
                  replace hCn : Hid (2 * cnt2 (putT tv t (meet (tv t) (wayW z))) p.code.n + (wk ++ [t]).length ≤ M) := hCn
                  have qt2 : yI.cell? ⟨w.heap.size, t, none⟩ = some (.int .i64 (-2)) := by rw [← h2]; exact qt
                  replace h2 : Hid (tv t = -2) := h2
                  clear qt
                  obtain ⟨i0, hi, hz0, hz1', hz2'⟩ := info_parts (show (Tryz.prog.info? 3).map (fun i => (i.zero, i.size, i.bytes)) = some (some (.int .i64 0), 1, 8) by kernel_rfl)
                  have hNI := hI.out.nn
                  go_wp2_with (at_builtin; refine wpList_append_own_at _ rfl (.tmp 62) (.tmp 64) 34 rfl (w.heap.size + 1) 3 i0 (.int .i64 0) 1 8 Tryz.underlying34 hi hz0 hz1' hz2' rfl (by decide) (.slice (some ⟨g, 0, none⟩) wk.length cp) wk.length _ rfl (hI.out.ks.own.alloc _) ⟨yI.heap.size, 0, none⟩ 1 1 [.int .i64 (t : Int)] rfl rfl ?s1 ?s2 ?s3 ?s4 ?s5 ?_)
                  case s1 => exact World.news_of_block (heap_alloc_new _ _)
                  case s2 => intro u hu; simp only [List.mem_cons, List.not_mem_nil, or_false] at hu; subst hu; rfl
                  case s3 => simp only [maxLen]; omega
                  case s4 => omega
                  case s5 => (try simp only [World.size_alloc]); omega
                  intro v' w' hown hg _ hat
                  obtain ⟨g', cp', rfl, -, -⟩ := hown.form (by omega)
                  have hlen2 : (wk ++ [t]).length = wk.length + 1 := by simp
                  have hat2 : g' = g ∨ NN ≤ g' := by
                    rcases hat with h | h
                    · left; simpa [Value.ownBlock] using h
                    · right; simp [Value.ownBlock] at h; omega
                  have hI9 : IM w p.code.n tv g' cp' (wk ++ [t]) L BP NN [.pointer (some ⟨pb, po, none⟩), .pointer (some ⟨B, uo + (opW z).toNat * 10, none⟩), .int .i64 (q : Int), .int .i64 (opW z), .int .i64 (aW z), .int .i64 (bW z), .int .i64 (cW z), .int .i64 (sW z)] (.slice (some ⟨bl, ol, none⟩) L.length cu) w' := by
                    refine (hI.out.later ((Below.refl _ _).alloc (Nat.le_refl _) _)).grown hg ?_ hat2
                    rw [hlen2]
                    have e9 : wkL (wk ++ [t]) = wkL wk ++ [.int .i64 (t : Int)] := by simp [wkL]
                    rw [e9]
                    exact hown
                  clear hown hg hat hi hz0 hz1' hz2' hI hat2
                  rw [← hlen2]
                  replace hlen2 : Hid _ := hlen2
                  have hI := hI9
                  clear hI9
                  go_wp2_with fail
                  have hPd : PSt BP pb po B uo (q : Int) z w'.drew := PSt.of (hI.later (Below.refl _ _).drew).box
                  have qtd : w'.drew.cell? ⟨w.heap.size, t, none⟩ = some (.int .i64 (tv t)) := hI.ks.cell htn
                  have hId := hI.later (Below.refl _ _).drew
                  replace hI : Hid _ := hI
                  replace hId : Hid (IM w p.code.n tv g' cp' (wk ++ [t]) L BP NN [.pointer (some ⟨pb, po, none⟩), .pointer (some ⟨B, uo + (opW z).toNat * 10, none⟩), .int .i64 (q : Int), .int .i64 (opW z), .int .i64 (aW z), .int .i64 (bW z), .int .i64 (cW z), .int .i64 (sW z)] (.slice (some ⟨bl, ol, none⟩) L.length cu) w'.drew) := hId
                  refine wp_region_held_drew (S := PSt BP pb po B uo (q : Int) z) (by kernel_rfl) hPd (fun hH => ?_)
                  refine take_dst 0 66 (.slice (some ⟨w.heap.size, 0, none⟩) p.code.n p.code.n) rfl (by kernel_rfl) (by kernel_rfl) (by kernel_rfl) (fun _ _ _ h => h) (Or.inl ⟨by rfl, by intro wv hSv; go_simp⟩) hPd rfl ?_
                  try simp only [tk0, tk1, tk2, tk3, tk4]
                  refine take_dst 1 67 (.int .i64 (t : Int)) rfl (by kernel_rfl) (by kernel_rfl) (by kernel_rfl) (fun _ _ _ h => h) (Or.inl ⟨by rfl, by intro wv hSv; go_simp⟩) hPd rfl ?_
                  try simp only [tk0, tk1, tk2, tk3, tk4]
                  refine take_dst 2 68 (.slice (some ⟨w.heap.size, 0, none⟩) p.code.n p.code.n) rfl (by kernel_rfl) (by kernel_rfl) (by kernel_rfl) (fun _ _ _ h => h) (Or.inl ⟨by rfl, by intro wv hSv; go_simp⟩) hPd rfl ?_
                  try simp only [tk0, tk1, tk2, tk3, tk4]
                  refine take_dst 3 69 (.int .i64 (t : Int)) rfl (by kernel_rfl) (by kernel_rfl) (by kernel_rfl) (fun _ _ _ h => h) (Or.inl ⟨by rfl, by intro wv hSv; go_simp⟩) hPd rfl ?_
                  try simp only [tk0, tk1, tk2, tk3, tk4]
                  refine take_dst 4 70 (.pointer (some ⟨w.heap.size, t, none⟩)) rfl (by kernel_rfl) (by kernel_rfl) (by kernel_rfl) (fun _ _ _ h => h) (Or.inl ⟨by rfl, by intro wv hSv; go_simp⟩) hPd rfl ?_
                  try simp only [tk0, tk1, tk2, tk3, tk4]
                  refine take_dst 6 72 (.agg #[.pointer (some ⟨pb, po, none⟩), .pointer (some ⟨B, uo + (opW z).toNat * 10, none⟩), .int .i64 (q : Int), .int .i64 (opW z), .int .i64 (aW z), .int .i64 (bW z), .int .i64 (cW z), .int .i64 (sW z)]) rfl (by kernel_rfl) (by kernel_rfl) (by kernel_rfl) (fun _ _ _ h => h) (Or.inl ⟨by rfl, by intro wv hSv; unfold PSt at hSv; obtain ⟨h0, h1, h2, h3, h4, h5, h6, h7⟩ := hSv; go_simp⟩) hPd rfl ?_
                  try simp only [tk0, tk1, tk2, tk3, tk4]
                  refine wpAnyH_ready (rs := [5, 7]) (by kernel_rfl) (by simp) ?_
                  refine AllReadyH.cons rfl (fun KK hKK => ?_) (AllReadyH.cons rfl (fun KK hKK => ?_) AllReadyH.nil)
                  · go_simp
                    refine hKK.out _ _ hPd (fun _ => ?_)
                    clear hKK KK
                    try simp only [tk0, tk1, tk2, tk3, tk4]
                    refine wpAnyH_ready (rs := [7]) (by kernel_rfl) (by simp) ?_
                    refine AllReadyH.cons rfl (fun KK hKK => ?_) AllReadyH.nil
                    go_simp
                    refine (leaves_in _ pb po B uo (q : Int) z (hU.out.later hB hId.out.ks.bel) (by have := hId.out.ks.bel.size; omega) hz1 hz2).mono ?_
                    rintro e yL ⟨rfl, bL⟩
                    have hIL := hId.out.later bL
                    have hPL : PSt BP pb po B uo (q : Int) z yL := PSt.of hIL.box
                    have qL := hIL.ks.cell htn
                    have fL := hIL.ks.row.frozen t
                    have hI2 := hIL.set t (meet (tv t) (wayW z))
                    have hP2 : PSt BP pb po B uo (q : Int) z (yL.setCell ⟨w.heap.size, t, none⟩ (.int .i64 (meet (tv t) (wayW z)))) := PSt.of hI2.box
                    replace hIL : Hid _ := hIL
                    replace hI2 : Hid (IM w p.code.n (putT tv t (meet (tv t) (wayW z))) g' cp' (wk ++ [t]) L BP NN [.pointer (some ⟨pb, po, none⟩), .pointer (some ⟨B, uo + (opW z).toNat * 10, none⟩), .int .i64 (q : Int), .int .i64 (opW z), .int .i64 (aW z), .int .i64 (bW z), .int .i64 (cW z), .int .i64 (sW z)] (.slice (some ⟨bl, ol, none⟩) L.length cu) (yL.setCell ⟨w.heap.size, t, none⟩ (.int .i64 (meet (tv t) (wayW z))))) := hI2
                    go_wp2_with fail
                    refine hKK.out _ _ hPL (fun _ => ?_)
                    clear hKK KK
                    try simp only [tk0, tk1, tk2, tk3, tk4]
                    refine wpAnyH_ready (rs := [8]) (by kernel_rfl) (by simp) ?_
                    refine AllReadyH.cons rfl (fun KK hKK => ?_) AllReadyH.nil
                    go_simp
                    refine (topOfBoth_in (tv t) (wayW z) _ htv (wayW_low z)).mono ?_
                    rintro e y' ⟨rfl, rfl⟩
                    go_wp2_with fail
                    refine hKK.out _ _ hPL (fun _ => ?_)
                    clear hKK KK
                    try simp only [tk0, tk1, tk2, tk3, tk4]
                    refine take_dst 9 75 (.pointer (some ⟨w.heap.size, t, none⟩)) rfl (by kernel_rfl) (by kernel_rfl) (by kernel_rfl) (fun _ _ _ h => h) (Or.inl ⟨by rfl, by intro wv hSv; go_simp⟩) hPL rfl ?_
                    try simp only [tk0, tk1, tk2, tk3, tk4]
                    refine wpAnyH_ready (rs := [10]) (by kernel_rfl) (by simp) ?_
                    refine AllReadyH.cons rfl (fun KK hKK => ?_) AllReadyH.nil
                    go_simp
                    refine hKK.out _ _ hP2 (fun _ => ?_)
                    clear hKK KK
                    try simp only [tk0, tk1, tk2, tk3, tk4]
                    refine wpAnyH_done (by kernel_rfl) ?_ _
                    have T1 : Hid (IM w p.code.n (putT tv t (meet (tv t) (wayW z))) g' cp' (wk ++ [t]) L BP NN [.pointer (some ⟨pb, po, none⟩), .pointer (some ⟨B, uo + (opW z).toNat * 10, none⟩), .int .i64 (q : Int), .int .i64 (opW z), .int .i64 (aW z), .int .i64 (bW z), .int .i64 (cW z), .int .i64 (sW z)] (.slice (some ⟨bl, ol, none⟩) L.length cu) (yL.setCell ⟨w.heap.size, t, none⟩ (.int .i64 (meet (tv t) (wayW z)))) ∧ Wi p.code D (wk ++ [t]) (putT tv t (meet (tv t) (wayW z))) L q (k + 1) ∧ 2 * cnt2 (putT tv t (meet (tv t) (wayW z))) p.code.n + ((wk ++ [t])).length ≤ M) := ⟨hI2.out, hWn.out, hCn.out⟩
                    clear hI2 hIL hId hI hP2 hPL qL fL hPd qtd hH hWn hCn
                    go_wp2_with fail
                    go_roundw
                    case rel => exact ⟨g', cp', (wk ++ [t]), _, k + 1, by rw [hlen2.out], by go_num, by omega, T1.out⟩
                    case measure => simp [intOf]; omega
                  · go_simp
                    refine (leaves_in _ pb po B uo (q : Int) z (hU.out.later hB hId.out.ks.bel) (by have := hId.out.ks.bel.size; omega) hz1 hz2).mono ?_
                    rintro e yL ⟨rfl, bL⟩
                    have hIL := hId.out.later bL
                    have hPL : PSt BP pb po B uo (q : Int) z yL := PSt.of hIL.box
                    have qL := hIL.ks.cell htn
                    have fL := hIL.ks.row.frozen t
                    have hI2 := hIL.set t (meet (tv t) (wayW z))
                    have hP2 : PSt BP pb po B uo (q : Int) z (yL.setCell ⟨w.heap.size, t, none⟩ (.int .i64 (meet (tv t) (wayW z)))) := PSt.of hI2.box
                    replace hIL : Hid _ := hIL
                    replace hI2 : Hid (IM w p.code.n (putT tv t (meet (tv t) (wayW z))) g' cp' (wk ++ [t]) L BP NN [.pointer (some ⟨pb, po, none⟩), .pointer (some ⟨B, uo + (opW z).toNat * 10, none⟩), .int .i64 (q : Int), .int .i64 (opW z), .int .i64 (aW z), .int .i64 (bW z), .int .i64 (cW z), .int .i64 (sW z)] (.slice (some ⟨bl, ol, none⟩) L.length cu) (yL.setCell ⟨w.heap.size, t, none⟩ (.int .i64 (meet (tv t) (wayW z))))) := hI2
                    go_wp2_with fail
                    refine hKK.out _ _ hPL (fun _ => ?_)
                    clear hKK KK
                    try simp only [tk0, tk1, tk2, tk3, tk4]
                    refine wpAnyH_ready (rs := [5]) (by kernel_rfl) (by simp) ?_
                    refine AllReadyH.cons rfl (fun KK hKK => ?_) AllReadyH.nil
                    go_simp
                    refine hKK.out _ _ hPL (fun _ => ?_)
                    clear hKK KK
                    try simp only [tk0, tk1, tk2, tk3, tk4]
                    refine wpAnyH_ready (rs := [8]) (by kernel_rfl) (by simp) ?_
                    refine AllReadyH.cons rfl (fun KK hKK => ?_) AllReadyH.nil
                    go_simp
                    refine (topOfBoth_in (tv t) (wayW z) _ htv (wayW_low z)).mono ?_
                    rintro e y' ⟨rfl, rfl⟩
                    go_wp2_with fail
                    refine hKK.out _ _ hPL (fun _ => ?_)
                    clear hKK KK
                    try simp only [tk0, tk1, tk2, tk3, tk4]
                    refine take_dst 9 75 (.pointer (some ⟨w.heap.size, t, none⟩)) rfl (by kernel_rfl) (by kernel_rfl) (by kernel_rfl) (fun _ _ _ h => h) (Or.inl ⟨by rfl, by intro wv hSv; go_simp⟩) hPL rfl ?_
                    try simp only [tk0, tk1, tk2, tk3, tk4]
                    refine wpAnyH_ready (rs := [10]) (by kernel_rfl) (by simp) ?_
                    refine AllReadyH.cons rfl (fun KK hKK => ?_) AllReadyH.nil
                    go_simp
                    refine hKK.out _ _ hP2 (fun _ => ?_)
                    clear hKK KK
                    try simp only [tk0, tk1, tk2, tk3, tk4]
                    refine wpAnyH_done (by kernel_rfl) ?_ _
                    have T1 : Hid (IM w p.code.n (putT tv t (meet (tv t) (wayW z))) g' cp' (wk ++ [t]) L BP NN [.pointer (some ⟨pb, po, none⟩), .pointer (some ⟨B, uo + (opW z).toNat * 10, none⟩), .int .i64 (q : Int), .int .i64 (opW z), .int .i64 (aW z), .int .i64 (bW z), .int .i64 (cW z), .int .i64 (sW z)] (.slice (some ⟨bl, ol, none⟩) L.length cu) (yL.setCell ⟨w.heap.size, t, none⟩ (.int .i64 (meet (tv t) (wayW z)))) ∧ Wi p.code D (wk ++ [t]) (putT tv t (meet (tv t) (wayW z))) L q (k + 1) ∧ 2 * cnt2 (putT tv t (meet (tv t) (wayW z))) p.code.n + ((wk ++ [t])).length ≤ M) := ⟨hI2.out, hWn.out, hCn.out⟩
                    clear hI2 hIL hId hI hP2 hPL qL fL hPd qtd hH hWn hCn
                    go_wp2_with fail
                    go_roundw
                    case rel => exact ⟨g', cp', (wk ++ [t]), _, k + 1, by rw [hlen2.out], by go_num, by omega, T1.out⟩
                    case measure => simp [intOf]; omega
                · have hWn : Wi p.code D wk (putT tv t (meet (tv t) (wayW z))) L q (k + 1) := by have := hWi.out.old htn hx h2; rw [hz.out] at this; exact this
                  have hCn : 2 * cnt2 (putT tv t (meet (tv t) (wayW z))) p.code.n + wk.length ≤ M := by have h7 := cnt2_le tv t (meet (tv t) (wayW z)) hne2.out p.code.n; have h8 := hC.out; omega
                  replace hWn : Hid (Wi p.code D wk (putT tv t (meet (tv t) (wayW z))) L q (k + 1)) := hWn
                  replace hCn : Hid (2 * cnt2 (putT tv t (meet (tv t) (wayW z))) p.code.n + wk.length ≤ M) := hCn
                  have nt2 : (tv t == -2) = false := by simp; omega
                  replace h2 : Hid (tv t ≠ -2) := h2
                  go_wp2_with fail
                  clear qt
                  replace hI := hI.out
                  have hPd : PSt BP pb po B uo (q : Int) z yI.drew := PSt.of (hI.later (Below.refl _ _).drew).box
                  have qtd : yI.drew.cell? ⟨w.heap.size, t, none⟩ = some (.int .i64 (tv t)) := hI.ks.cell htn
                  have hId := hI.later (Below.refl _ _).drew
                  replace hI : Hid _ := hI
                  replace hId : Hid (IM w p.code.n tv g cp wk L BP NN [.pointer (some ⟨pb, po, none⟩), .pointer (some ⟨B, uo + (opW z).toNat * 10, none⟩), .int .i64 (q : Int), .int .i64 (opW z), .int .i64 (aW z), .int .i64 (bW z), .int .i64 (cW z), .int .i64 (sW z)] (.slice (some ⟨bl, ol, none⟩) L.length cu) yI.drew) := hId
                  refine wp_region_held_drew (S := PSt BP pb po B uo (q : Int) z) (by kernel_rfl) hPd (fun hH => ?_)
                  refine take_dst 0 66 (.slice (some ⟨w.heap.size, 0, none⟩) p.code.n p.code.n) rfl (by kernel_rfl) (by kernel_rfl) (by kernel_rfl) (fun _ _ _ h => h) (Or.inl ⟨by rfl, by intro wv hSv; go_simp⟩) hPd rfl ?_
                  try simp only [tk0, tk1, tk2, tk3, tk4]
                  refine take_dst 1 67 (.int .i64 (t : Int)) rfl (by kernel_rfl) (by kernel_rfl) (by kernel_rfl) (fun _ _ _ h => h) (Or.inl ⟨by rfl, by intro wv hSv; go_simp⟩) hPd rfl ?_
                  try simp only [tk0, tk1, tk2, tk3, tk4]
                  refine take_dst 2 68 (.slice (some ⟨w.heap.size, 0, none⟩) p.code.n p.code.n) rfl (by kernel_rfl) (by kernel_rfl) (by kernel_rfl) (fun _ _ _ h => h) (Or.inl ⟨by rfl, by intro wv hSv; go_simp⟩) hPd rfl ?_
                  try simp only [tk0, tk1, tk2, tk3, tk4]
                  refine take_dst 3 69 (.int .i64 (t : Int)) rfl (by kernel_rfl) (by kernel_rfl) (by kernel_rfl) (fun _ _ _ h => h) (Or.inl ⟨by rfl, by intro wv hSv; go_simp⟩) hPd rfl ?_
                  try simp only [tk0, tk1, tk2, tk3, tk4]
                  refine take_dst 4 70 (.pointer (some ⟨w.heap.size, t, none⟩)) rfl (by kernel_rfl) (by kernel_rfl) (by kernel_rfl) (fun _ _ _ h => h) (Or.inl ⟨by rfl, by intro wv hSv; go_simp⟩) hPd rfl ?_
                  try simp only [tk0, tk1, tk2, tk3, tk4]
                  refine take_dst 6 72 (.agg #[.pointer (some ⟨pb, po, none⟩), .pointer (some ⟨B, uo + (opW z).toNat * 10, none⟩), .int .i64 (q : Int), .int .i64 (opW z), .int .i64 (aW z), .int .i64 (bW z), .int .i64 (cW z), .int .i64 (sW z)]) rfl (by kernel_rfl) (by kernel_rfl) (by kernel_rfl) (fun _ _ _ h => h) (Or.inl ⟨by rfl, by intro wv hSv; unfold PSt at hSv; obtain ⟨h0, h1, h2, h3, h4, h5, h6, h7⟩ := hSv; go_simp⟩) hPd rfl ?_
                  try simp only [tk0, tk1, tk2, tk3, tk4]
                  refine wpAnyH_ready (rs := [5, 7]) (by kernel_rfl) (by simp) ?_
                  refine AllReadyH.cons rfl (fun KK hKK => ?_) (AllReadyH.cons rfl (fun KK hKK => ?_) AllReadyH.nil)
                  · go_simp
                    refine hKK.out _ _ hPd (fun _ => ?_)
                    clear hKK KK
                    try simp only [tk0, tk1, tk2, tk3, tk4]
                    refine wpAnyH_ready (rs := [7]) (by kernel_rfl) (by simp) ?_
                    refine AllReadyH.cons rfl (fun KK hKK => ?_) AllReadyH.nil
                    go_simp
                    refine (leaves_in _ pb po B uo (q : Int) z (hU.out.later hB hId.out.ks.bel) (by have := hId.out.ks.bel.size; omega) hz1 hz2).mono ?_
                    rintro e yL ⟨rfl, bL⟩
                    have hIL := hId.out.later bL
                    have hPL : PSt BP pb po B uo (q : Int) z yL := PSt.of hIL.box
                    have qL := hIL.ks.cell htn
                    have fL := hIL.ks.row.frozen t
                    have hI2 := hIL.set t (meet (tv t) (wayW z))
                    have hP2 : PSt BP pb po B uo (q : Int) z (yL.setCell ⟨w.heap.size, t, none⟩ (.int .i64 (meet (tv t) (wayW z)))) := PSt.of hI2.box
                    replace hIL : Hid _ := hIL
                    replace hI2 : Hid (IM w p.code.n (putT tv t (meet (tv t) (wayW z))) g cp wk L BP NN [.pointer (some ⟨pb, po, none⟩), .pointer (some ⟨B, uo + (opW z).toNat * 10, none⟩), .int .i64 (q : Int), .int .i64 (opW z), .int .i64 (aW z), .int .i64 (bW z), .int .i64 (cW z), .int .i64 (sW z)] (.slice (some ⟨bl, ol, none⟩) L.length cu) (yL.setCell ⟨w.heap.size, t, none⟩ (.int .i64 (meet (tv t) (wayW z))))) := hI2
                    go_wp2_with fail
                    refine hKK.out _ _ hPL (fun _ => ?_)
                    clear hKK KK
                    try simp only [tk0, tk1, tk2, tk3, tk4]
                    refine wpAnyH_ready (rs := [8]) (by kernel_rfl) (by simp) ?_
                    refine AllReadyH.cons rfl (fun KK hKK => ?_) AllReadyH.nil
                    go_simp
                    refine (topOfBoth_in (tv t) (wayW z) _ htv (wayW_low z)).mono ?_
                    rintro e y' ⟨rfl, rfl⟩
                    go_wp2_with fail
                    refine hKK.out _ _ hPL (fun _ => ?_)
                    clear hKK KK
                    try simp only [tk0, tk1, tk2, tk3, tk4]
                    refine take_dst 9 75 (.pointer (some ⟨w.heap.size, t, none⟩)) rfl (by kernel_rfl) (by kernel_rfl) (by kernel_rfl) (fun _ _ _ h => h) (Or.inl ⟨by rfl, by intro wv hSv; go_simp⟩) hPL rfl ?_
                    try simp only [tk0, tk1, tk2, tk3, tk4]
                    refine wpAnyH_ready (rs := [10]) (by kernel_rfl) (by simp) ?_
                    refine AllReadyH.cons rfl (fun KK hKK => ?_) AllReadyH.nil
                    go_simp
                    refine hKK.out _ _ hP2 (fun _ => ?_)
                    clear hKK KK
                    try simp only [tk0, tk1, tk2, tk3, tk4]
                    refine wpAnyH_done (by kernel_rfl) ?_ _
                    have T1 : Hid (IM w p.code.n (putT tv t (meet (tv t) (wayW z))) g cp wk L BP NN [.pointer (some ⟨pb, po, none⟩), .pointer (some ⟨B, uo + (opW z).toNat * 10, none⟩), .int .i64 (q : Int), .int .i64 (opW z), .int .i64 (aW z), .int .i64 (bW z), .int .i64 (cW z), .int .i64 (sW z)] (.slice (some ⟨bl, ol, none⟩) L.length cu) (yL.setCell ⟨w.heap.size, t, none⟩ (.int .i64 (meet (tv t) (wayW z)))) ∧ Wi p.code D wk (putT tv t (meet (tv t) (wayW z))) L q (k + 1) ∧ 2 * cnt2 (putT tv t (meet (tv t) (wayW z))) p.code.n + (wk).length ≤ M) := ⟨hI2.out, hWn.out, hCn.out⟩
                    clear hI2 hIL hId hI hP2 hPL qL fL hPd qtd hH hWn hCn
                    go_wp2_with fail
                    go_roundw
                    case rel => exact ⟨g, cp, wk, _, k + 1, rfl, by go_num, by omega, T1.out⟩
                    case measure => simp [intOf]; omega
                  · go_simp
                    refine (leaves_in _ pb po B uo (q : Int) z (hU.out.later hB hId.out.ks.bel) (by have := hId.out.ks.bel.size; omega) hz1 hz2).mono ?_
                    rintro e yL ⟨rfl, bL⟩
                    have hIL := hId.out.later bL
                    have hPL : PSt BP pb po B uo (q : Int) z yL := PSt.of hIL.box
                    have qL := hIL.ks.cell htn
                    have fL := hIL.ks.row.frozen t
                    have hI2 := hIL.set t (meet (tv t) (wayW z))
                    have hP2 : PSt BP pb po B uo (q : Int) z (yL.setCell ⟨w.heap.size, t, none⟩ (.int .i64 (meet (tv t) (wayW z)))) := PSt.of hI2.box
                    replace hIL : Hid _ := hIL
                    replace hI2 : Hid (IM w p.code.n (putT tv t (meet (tv t) (wayW z))) g cp wk L BP NN [.pointer (some ⟨pb, po, none⟩), .pointer (some ⟨B, uo + (opW z).toNat * 10, none⟩), .int .i64 (q : Int), .int .i64 (opW z), .int .i64 (aW z), .int .i64 (bW z), .int .i64 (cW z), .int .i64 (sW z)] (.slice (some ⟨bl, ol, none⟩) L.length cu) (yL.setCell ⟨w.heap.size, t, none⟩ (.int .i64 (meet (tv t) (wayW z))))) := hI2
                    go_wp2_with fail
                    refine hKK.out _ _ hPL (fun _ => ?_)
                    clear hKK KK
                    try simp only [tk0, tk1, tk2, tk3, tk4]
                    refine wpAnyH_ready (rs := [5]) (by kernel_rfl) (by simp) ?_
                    refine AllReadyH.cons rfl (fun KK hKK => ?_) AllReadyH.nil
                    go_simp
                    refine hKK.out _ _ hPL (fun _ => ?_)
                    clear hKK KK
                    try simp only [tk0, tk1, tk2, tk3, tk4]
                    refine wpAnyH_ready (rs := [8]) (by kernel_rfl) (by simp) ?_
                    refine AllReadyH.cons rfl (fun KK hKK => ?_) AllReadyH.nil
                    go_simp
                    refine (topOfBoth_in (tv t) (wayW z) _ htv (wayW_low z)).mono ?_
                    rintro e y' ⟨rfl, rfl⟩
                    go_wp2_with fail
                    refine hKK.out _ _ hPL (fun _ => ?_)
                    clear hKK KK
                    try simp only [tk0, tk1, tk2, tk3, tk4]
                    refine take_dst 9 75 (.pointer (some ⟨w.heap.size, t, none⟩)) rfl (by kernel_rfl) (by kernel_rfl) (by kernel_rfl) (fun _ _ _ h => h) (Or.inl ⟨by rfl, by intro wv hSv; go_simp⟩) hPL rfl ?_
                    try simp only [tk0, tk1, tk2, tk3, tk4]
                    refine wpAnyH_ready (rs := [10]) (by kernel_rfl) (by simp) ?_
                    refine AllReadyH.cons rfl (fun KK hKK => ?_) AllReadyH.nil
                    go_simp
                    refine hKK.out _ _ hP2 (fun _ => ?_)
                    clear hKK KK
                    try simp only [tk0, tk1, tk2, tk3, tk4]
                    refine wpAnyH_done (by kernel_rfl) ?_ _
                    have T1 : Hid (IM w p.code.n (putT tv t (meet (tv t) (wayW z))) g cp wk L BP NN [.pointer (some ⟨pb, po, none⟩), .pointer (some ⟨B, uo + (opW z).toNat * 10, none⟩), .int .i64 (q : Int), .int .i64 (opW z), .int .i64 (aW z), .int .i64 (bW z), .int .i64 (cW z), .int .i64 (sW z)] (.slice (some ⟨bl, ol, none⟩) L.length cu) (yL.setCell ⟨w.heap.size, t, none⟩ (.int .i64 (meet (tv t) (wayW z)))) ∧ Wi p.code D wk (putT tv t (meet (tv t) (wayW z))) L q (k + 1) ∧ 2 * cnt2 (putT tv t (meet (tv t) (wayW z))) p.code.n + (wk).length ≤ M) := ⟨hI2.out, hWn.out, hCn.out⟩
                    clear hI2 hIL hId hI hP2 hPL qL fL hPd qtd hH hWn hCn
                    go_wp2_with fail
                    go_roundw
                    case rel => exact ⟨g, cp, wk, _, k + 1, rfl, by go_num, by omega, T1.out⟩
                    case measure => simp [intOf]; omega
              · have hWn : Wi p.code D wk tv L q (k + 1) := hWi.out.skip fun t' ht' h' => hin (by rw [hx] at h'; simp at h'; omega)
                refine (inCode_in wC pb po B uo q z p _ a4 a5 hPC.out x hn h0 false (by simp; omega)).mono ?_
                rintro e yI ⟨rfl, bI⟩
                have T1 : Hid (IM w p.code.n tv g cp wk L BP NN [.pointer (some ⟨pb, po, none⟩), .pointer (some ⟨B, uo + (opW z).toNat * 10, none⟩), .int .i64 (q : Int), .int .i64 (opW z), .int .i64 (aW z), .int .i64 (bW z), .int .i64 (cW z), .int .i64 (sW z)] (.slice (some ⟨bl, ol, none⟩) L.length cu) yI ∧ Wi p.code D wk tv L q (k + 1) ∧ 2 * cnt2 tv p.code.n + wk.length ≤ M) := ⟨hI.out.later bI, hWn, hC.out⟩
                clear r0 r1 r2 r3 r4 r5 r6 r7 hcl hin hI bI hPC hWn hWi hC
                go_wp2_with fail
                go_roundw
                case rel => exact ⟨g, cp, wk, tv, k + 1, rfl, by go_num, by omega, T1.out⟩
                case measure => simp [intOf]; omega
            · have hkI : ¬ ((k : Int) < (L.length : Int)) := by omega
              have hWk := hWi.leave (by omega)
              have hcC := hI.ks.cnt p.code.n (Nat.le_refl _)
              have T1 : Hid (KS w p.code.n tv (.slice (some ⟨g, 0, none⟩) wk.length cp) wk wC ∧ Wk p.code (fun a => D a ∨ a = q) wk tv ∧ 2 * cnt2 tv p.code.n + wk.length ≤ 2 * p.code.n + 1) := ⟨hI.ks, hWk, by have := hM.out; have := hMM.out; omega⟩
              have hmeas : 2 * cntM wC w.heap.size p.code.n + wk.length < 2 * cntM wB w.heap.size p.code.n + (wk0.length + 1) := by rw [hcC, hcnt.out]; have := hMM.out; omega
              replace hmeas : Hid _ := hmeas
              clear hT hI hWi hC hWk hcC
              go_wp2_with fail
              go_roundw
              case rel => exact ⟨g, cp, fun a => D a ∨ a = q, wk, tv, rfl, T1.out⟩
              case measure => (have h9 := hmeas.out; rw [hwk0] at h9; exact h9)
        · have hwk0 : wk = [] := by cases wk; rfl; simp at hwk
          subst hwk0
          obtain ⟨hK, hW, -⟩ := hT.out
          have hfin : Hid (∀ t, t < p.code.n → TopAt p.code t (tv t)) := hW.topAt h0
          have hrow : Hid (wB.rowIs w.heap.size 3 p.code.n (fun i => .int .i64 (tv i))) := hK.row
          have hbel : Hid (Below w.heap.size w wB) := hK.bel
          clear hT hK hW
          go_wp2_with fail
          go_ret
          exact ⟨rfl, hbel.out, tv, hrow.out, hfin.out⟩
end Go.Proofs.YtckapapejfnojaaGreatDoor

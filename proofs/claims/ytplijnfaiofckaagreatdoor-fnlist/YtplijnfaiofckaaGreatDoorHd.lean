import Derived.Test.YtplijnfaiofckaaGreatDoorGz
namespace Go.Proofs.YtplijnfaiofckaaGreatDoor
open Go.RowKit Go.Shelf
set_option linter.unusedVariables false
set_option linter.unusedSimpArgs false
set_option maxRecDepth 100000
set_option maxHeartbeats 9000000
noncomputable def fits3 : List Fit := [fitH 1 255, fitH 2 511, fitH 3 511]
theorem partsIn_in (k : Nat) (hk : k < 34) (hw : ¬ WideOp k) (r : List ByteArray) (g o c : Nat) (w : World) (hcap : r.length ≤ c) (ho : o ≤ 1000) (hN : r.length ≤ 100000)
  (hc : ∀ (j : Nat) x, r[j]? = some x → w.cell? ⟨g, o + j, none⟩ = some (.string x)) (hg : g < w.heap.size) (hz : ∀ x ∈ r, x.size ≤ 100000) (hv : Env w) :
  Calls Tryz.prog 72 #[.int .i64 (k : Int), .slice (some ⟨g, o, none⟩) r.length c] w fun e w' => WordIn (wordK k r) e ∧ Below w.heap.size w w' := by
 obtain ⟨w1, hw1⟩ : ∃ w1, w.alloc (.cells #[.func (.func 121) #[.int .i64 1] #[], .func (.func 121) #[.int .i64 2] #[], .func (.func 121) #[.int .i64 3] #[]] 105) = w1 := ⟨_, rfl⟩;have bA : Below w.heap.size w w1 := by rw [← hw1]; exact (Below.refl _ _).alloc (Nat.le_refl _) _
 by_cases hl : r.length = 3
 ·match r, hl, hc, hz with
  | [p, q, t], _, hc, hz =>
   have RF : RowL w1 w.heap.size 105 [.func (.func 121) #[.int .i64 1] #[], .func (.func 121) #[.int .i64 2] #[], .func (.func 121) #[.int .i64 3] #[]] := by rw [← hw1]; exact RowL.new w _ 105
   have hwl := RF.lt;have hH := fitH_ok w1 (hv.spans.below bA);have hS1 := hv.spans.below bA
   have hcall := hidR (qe1 [p, q, t] fits3 g o c w.heap.size 3 w1 rfl (by simp) hcap ho (fun j x hx => (bA.cell (p := ⟨g, o + j, none⟩) hg).trans (hc j x hx)) (by omega) hz (fun j t' ht => by
    match j, ht with
    | 0, ht => simp [fits3] at ht; subst ht; exact RF.cell 0 rfl
    | 1, ht => simp [fits3] at ht; subst ht; exact RF.cell 1 rfl
    | 2, ht => simp [fits3] at ht; subst ht; exact RF.cell 2 rfl) hwl (by simp [fits3]) (fun t' ht => by
     simp only [fits3, List.mem_cons, List.not_mem_nil, or_false] at ht;rcases ht with rfl | rfl | rfl
     ·exact hH.1
     ·exact hH.2.1
     ·exact hH.2.2) (qa2 hv.pow bA) (hv.err.below bA))
   have hcall : Hid (Calls Tryz.prog 116 #[.slice (some ⟨g, o, none⟩) 3 c, .slice (some ⟨w.heap.size, 0, none⟩) 3 3] w1 fun e w' => qh3 [p, q, t] fits3 w1.heap.size e w' ∧ Below w1.heap.size w1 w') := hcall
   have hK : Hid (wordK k [p, q, t] = if 0 ≤ natOf p 255 ∧ 0 ≤ natOf q 511 ∧ 0 ≤ natOf t 511 then some (packed k (natOf p 255) (natOf q 511) (natOf t 511) (natOf q 511 + 512 * natOf t 511 - 131072)) else none) := by
    show wordK k _ = _;unfold wordK;rw [if_neg hw]
   have hyes : Hid (NumsOk [p, q, t] fits3 3 → ∃ a b d, numAt [p, q, t] 0 = some a ∧ numAt [p, q, t] 1 = some b ∧ numAt [p, q, t] 2 = some d ∧ (0 ≤ a ∧ a ≤ 255) ∧ (0 ≤ b ∧ b ≤ 511) ∧ (0 ≤ d ∧ d ≤ 511) ∧ wordK k [p, q, t] = some (packed k a b d (b + 512 * d + -131072))) := fun h => by
    obtain ⟨a, t0, a1, a2, a3⟩ := h 0 (by omega);obtain ⟨b, t1, b1, b2, b3⟩ := h 1 (by omega);obtain ⟨d, t2, d1, d2, d3⟩ := h 2 (by omega);simp only [fits3, List.getElem?_cons_zero, List.getElem?_cons_succ, Option.some.injEq] at a2 b2 d2;subst a2 b2 d2;have a4 : 0 ≤ a ∧ a ≤ 255 := of_decide_eq_true a3;have b4 : 0 ≤ b ∧ b ≤ 511 := of_decide_eq_true b3;have d4 : 0 ≤ d ∧ d ≤ 511 := of_decide_eq_true d3;refine ⟨a, b, d, a1, b1, d1, a4, b4, d4, ?_⟩;rw [hK.out, qf2 (hi := 255) (show decOf p = some a from a1) a4.1 a4.2, qf2 (hi := 511) (show decOf q = some b from b1) b4.1 b4.2, qf2 (hi := 511) (show decOf t = some d from d1) d4.1 d4.2, if_pos ⟨a4.1, b4.1, d4.1⟩];rfl
   have hnot : Hid (¬ NumsOk [p, q, t] fits3 3 → wordK k [p, q, t] = none) := fun h => by
    rw [hK.out];refine if_neg fun h2 => h fun j hj => ?_;obtain ⟨x1, x2⟩ := qd6 h2.1;obtain ⟨y1, y2⟩ := qd6 h2.2.1;obtain ⟨z1, z2⟩ := qd6 h2.2.2
    match j, hj with
    | 0, _ => exact ⟨_, fitH 1 255, x1, rfl, decide_eq_true ⟨h2.1, x2⟩⟩
    | 1, _ => exact ⟨_, fitH 2 511, y1, rfl, decide_eq_true ⟨h2.2.1, y2⟩⟩
    | 2, _ => exact ⟨_, fitH 3 511, z1, rfl, decide_eq_true ⟨h2.2.2, z2⟩⟩
   replace hw1 := hidR hw1;replace bA := hidR bA;replace hS1 := hidR hS1;clear hc hz hv hcap RF hH hK;go_enter Tryz.func72, Tryz.ntmps72;go_wp2_with fail;rw [hw1.out];refine Calls.mono hcall.out ?_;rintro e y ⟨hE, b1⟩;have bz := bA.out.trans (b1.mono bA.out.size);have hSy := hidR (hS1.out.below b1);clear hcall b1 hw1 bA hS1;rcases hE with ⟨hok, rfl, hrow⟩ | ⟨hno, rfl⟩
   ·obtain ⟨a, b, d, n1, n2, n3, ha, hb, hd, hres⟩ := hyes.out hok;have e0 := hrow.cell (i := 0) (by simp);have e1 := hrow.cell (i := 1) (by simp);have e2 := hrow.cell (i := 2) (by simp);rw [n1] at e0;rw [n2] at e1;rw [n3] at e2;replace e0 : y.cell? ⟨w1.heap.size, 0, none⟩ = some (.int .i64 a) := e0;replace e1 : y.cell? ⟨w1.heap.size, 1, none⟩ = some (.int .i64 b) := e1;replace e2 : y.cell? ⟨w1.heap.size, 2, none⟩ = some (.int .i64 d) := e2;have hlt := hrow.lt;replace hres := hidR hres;clear hyes hnot hok hrow n1 n2 n3;go_upto_region 4 with fail;have bY0 : Below y.heap.size y y.drew := (Below.refl _ _).drew;have hSd : y.drew.cell? ⟨w1.heap.size, 0, none⟩ = some (.int .i64 a) ∧ y.drew.cell? ⟨w1.heap.size, 1, none⟩ = some (.int .i64 b) ∧ y.drew.cell? ⟨w1.heap.size, 2, none⟩ = some (.int .i64 d) := ⟨e0, e1, e2⟩;have hwo := hidR (fun yy : World => wideOf_any b d yy hb.1 hb.2 hd.1 hd.2);have hpk := hidR (implPack_any (k : Int) a b d (b + 512 * d + -131072) y.drew (hSy.out.below bY0));refine wp_region_held_drew (S := fun z => z.cell? ⟨w1.heap.size, 0, none⟩ = some (.int .i64 a) ∧ z.cell? ⟨w1.heap.size, 1, none⟩ = some (.int .i64 b) ∧ z.cell? ⟨w1.heap.size, 2, none⟩ = some (.int .i64 d)) (by kernel_rfl) hSd (fun hH => ?_);clear hH;generalize y.drew = yd at bY0 hSd hpk ⊢;refine tkd 0 19 (.int .i64 (k : Int)) hSd ?_;refine tkd 1 20 (.slice (some ⟨w1.heap.size, 0, none⟩) 3 3) hSd ?_;refine tkd 2 21 (.pointer (some ⟨w1.heap.size, 0, none⟩)) hSd ?_;refine tkd 3 22 (.int .i64 a) hSd ?_;refine tkd 4 23 (.slice (some ⟨w1.heap.size, 0, none⟩) 3 3) hSd ?_;refine tkd 5 24 (.pointer (some ⟨w1.heap.size, 1, none⟩)) hSd ?_;refine tkd 6 25 (.int .i64 b) hSd ?_;refine tkd 7 26 (.slice (some ⟨w1.heap.size, 0, none⟩) 3 3) hSd ?_;refine tkd 8 27 (.pointer (some ⟨w1.heap.size, 2, none⟩)) hSd ?_;refine tkd 9 28 (.int .i64 d) hSd ?_;refine tkd 10 29 (.slice (some ⟨w1.heap.size, 0, none⟩) 3 3) hSd ?_;refine tkd 11 30 (.pointer (some ⟨w1.heap.size, 1, none⟩)) hSd ?_;refine tkd 12 31 (.int .i64 b) hSd ?_;refine tkd 13 32 (.slice (some ⟨w1.heap.size, 0, none⟩) 3 3) hSd ?_;refine tkd 14 33 (.pointer (some ⟨w1.heap.size, 2, none⟩)) hSd ?_;refine tkd 15 34 (.int .i64 d) hSd ?_;refine rdy1 16 (fun K hK => ?_);go_simp;refine Calls.mono (hwo.out yd) ?_;rintro e y1 ⟨rfl, rfl⟩;go_wp2_with fail;refine hK.out _ _ hSd (fun _ => ?_);clear hK K;try simp only [tK]
    refine tkd 17 36 (ins (k : Int) a b d (b + 512 * d + -131072)) hSd ?_;refine rdy1 18 (fun K hK => ?_);go_simp;refine Calls.mono hpk.out ?_;rintro e y2 ⟨rfl, b2⟩
    have hSe : y2.cell? ⟨w1.heap.size, 0, none⟩ = some (.int .i64 a) ∧ y2.cell? ⟨w1.heap.size, 1, none⟩ = some (.int .i64 b) ∧ y2.cell? ⟨w1.heap.size, 2, none⟩ = some (.int .i64 d) := by
     have hl9 : w1.heap.size < y1.heap.size := Nat.lt_of_lt_of_le hlt bY0.size;exact ⟨(b2.cell (p := ⟨w1.heap.size, 0, none⟩) hl9).trans hSd.1, (b2.cell (p := ⟨w1.heap.size, 1, none⟩) hl9).trans hSd.2.1, (b2.cell (p := ⟨w1.heap.size, 2, none⟩) hl9).trans hSd.2.2⟩
    have bf := (bz.trans (bY0.mono bz.size)).trans (b2.mono (bz.trans (bY0.mono bz.size)).size);clear hpk;generalize packed (k : Int) a b d (b + 512 * d + -131072) = x at hres ⊢;go_wp2_with fail;refine hK.out _ _ hSe (fun _ => ?_);clear hK K;try simp only [tK]
    refine tkd 19 4 (.int .u32 x) hSe ?_;refine tkd 20 5 (.bool true) hSe ?_;refine wpAnyH_done (by kernel_rfl) ?_ _;go_wp2_with fail;exact bodyPost_ret (v := .tuple #[.int .u32 x, .bool true]) (by simp [results, Tryz.results72, go_sem]) rfl ⟨.inl ⟨x, hres.out, rfl⟩, bf⟩
   ·have hn := hidR (hnot.out hno);clear hyes hnot hno;go_wp2_with fail;exact bodyPost_ret (v := .tuple #[.int .u32 0, .bool false]) (by simp [results, Tryz.results72, go_sem]) rfl ⟨.inr ⟨hn.out, rfl⟩, bz⟩
 ·have hcall := hidR (qb7 r fits3 (some ⟨g, o, none⟩) (some ⟨w.heap.size, 0, none⟩) c 3 w1 hl hN (by simp [fits3]))
  have hn : Hid (wordK k r = none) := by
   show wordK k r = none;unfold wordK;rw [if_neg hw];split
   ·exact absurd rfl hl
   ·rfl
  replace hcall : Hid (Calls Tryz.prog 116 #[.slice (some ⟨g, o, none⟩) r.length c, .slice (some ⟨w.heap.size, 0, none⟩) 3 3] w1 fun e w' => e = .returned (.tuple #[.slice none 0 0, .bool false]) ∧ Below w1.heap.size w1 w') := hcall;replace hw1 := hidR hw1;clear hc hz hv;generalize r.length = m at *;go_enter Tryz.func72, Tryz.ntmps72;go_wp2_with fail;rw [hw1.out];refine Calls.mono hcall.out ?_;rintro e y ⟨rfl, b1⟩;have bz := bA.trans (b1.mono bA.size);clear hcall;go_wp2_with fail;exact bodyPost_ret (v := .tuple #[.int .u32 0, .bool false]) (by simp [results, Tryz.results72, go_sem]) rfl ⟨.inr ⟨hn.out, rfl⟩, bz⟩
theorem implWide_yes (op a s : Int) (w : World) (hS : Spans w) (h1 : 0 ≤ op) (h2 : op ≤ 63) (h3 : 0 ≤ a) (h4 : a ≤ 255) (h5 : -131072 ≤ s) (h6 : s ≤ 131071) :
  Calls Tryz.prog 125 #[.int .i64 op, .int .i64 a, .int .i64 s] w fun e w' => e = .returned (ins op a ((s + 131072) % 512) ((s + 131072) / 512) s) ∧ Below w.heap.size w w' := by
 have hsub : s - -131072 = s + 131072 := by omega
 have hm : (s + 131072).tmod 512 = (s + 131072) % 512 := Int.tmod_eq_emod_of_nonneg (by omega);have hd : (s + 131072).tdiv 512 = (s + 131072) / 512 := Int.tdiv_eq_ediv_of_nonneg (by omega);have hw3 := hidR ((fitW_ok w).2);have hfw : decide (-131072 ≤ s ∧ s ≤ 131071) = true := decide_eq_true ⟨h5, h6⟩;go_enter Tryz.func125, Tryz.ntmps125;go_upto_region 1 with fail;have RB := RowL.new w [.int .i64 0, .int .i64 0, .int .i64 0, .int .i64 0, .int .i64 0] 88;have bw : Below w.heap.size w (w.alloc (.cells #[.int .i64 0, .int .i64 0, .int .i64 0, .int .i64 0, .int .i64 0] 88)) := (Below.refl _ _).alloc (Nat.le_refl _) _;generalize w.alloc (.cells #[.int .i64 0, .int .i64 0, .int .i64 0, .int .i64 0, .int .i64 0] 88) = w2 at RB bw ⊢;have hS2 := hS.below bw;have k0 := hidR (qg2 op w2 hS2.c1 h1 h2);have k1 := hidR (qg1 a w2 hS2.c3 h3 h4)
 have k2 : Hid (Calls Tryz.prog 124 #[.int .i64 s] w2 fun e w' => e = .returned (.bool true) ∧ Below w2.heap.size w2 w') := by
  have := hw3.out w2 bw s ⟨by omega, by omega⟩;have e9 : fitW.q s = true := hfw;rw [e9] at this;exact this
 clear hw3 hfw hS hS2;go_wp2_with fail;refine Calls.mono k0.out ?_;rintro e y ⟨rfl, rfl⟩;go_wp2_with fail;refine Calls.mono k1.out ?_;rintro e y ⟨rfl, rfl⟩;go_wp2_with fail;refine Calls.mono k2.out ?_;rintro e y3 ⟨rfl, b3⟩;clear k0 k1 k2;replace RB := RB.call b3;have bz := bw.trans (b3.mono bw.size);have e0 := RB.cell 0 rfl;have e1 := RB.cell 1 rfl;have e2 := RB.cell 2 rfl;have e3 := RB.cell 3 rfl;have e4 := RB.cell 4 rfl;have ef := RB.frozen;have el := RB.lt;have L := rowSet5 RB (.int .i64 op) (.int .i64 a) (.int .i64 ((s + 131072) % 512)) (.int .i64 ((s + 131072) / 512)) (.int .i64 s);have l0 := L.cell 0 rfl;have l1 := L.cell 1 rfl;have l2 := L.cell 2 rfl;have l3 := L.cell 3 rfl;have l4 := L.cell 4 rfl;have bf := Below.setCell (Below.setCell (Below.setCell (Below.setCell (Below.setCell bz (p := ⟨w.heap.size, 0, none⟩) (Nat.le_refl _) (.int .i64 op)) (p := ⟨w.heap.size, 1, none⟩) (Nat.le_refl _) (.int .i64 a)) (p := ⟨w.heap.size, 2, none⟩) (Nat.le_refl _) (.int .i64 ((s + 131072) % 512))) (p := ⟨w.heap.size, 3, none⟩) (Nat.le_refl _) (.int .i64 ((s + 131072) / 512))) (p := ⟨w.heap.size, 4, none⟩) (Nat.le_refl _) (.int .i64 s);replace L := hidR L;replace RB := hidR RB;go_wp2_with fail;exact bodyPost_ret (v := ins op a ((s + 131072) % 512) ((s + 131072) / 512) s) (by simp [results, Tryz.results125, go_sem, l0, l1, l2, l3, l4]) rfl ⟨rfl, bf⟩
noncomputable def fits2 : List Fit := [fitH 1 255, fitW]
theorem wideIn_in (k : Nat) (hk : k < 34) (hw : WideOp k) (r : List ByteArray) (g o c : Nat) (w : World) (hcap : r.length ≤ c) (ho : o ≤ 1000) (hN : r.length ≤ 100000)
  (hc : ∀ (j : Nat) x, r[j]? = some x → w.cell? ⟨g, o + j, none⟩ = some (.string x)) (hg : g < w.heap.size) (hz : ∀ x ∈ r, x.size ≤ 100000) (hv : Env w) :
  Calls Tryz.prog 73 #[.int .i64 (k : Int), .slice (some ⟨g, o, none⟩) r.length c] w fun e w' => WordIn (wordK k r) e ∧ Below w.heap.size w w' := by
 obtain ⟨w1, hw1⟩ : ∃ w1, w.alloc (.cells #[.func (.func 121) #[.int .i64 1] #[], .func (.func 124) #[] #[]] 105) = w1 := ⟨_, rfl⟩;have bA : Below w.heap.size w w1 := by rw [← hw1]; exact (Below.refl _ _).alloc (Nat.le_refl _) _
 by_cases hl : r.length = 2
 ·match r, hl, hc, hz with
  | [p, q], _, hc, hz =>
   have RF : RowL w1 w.heap.size 105 [.func (.func 121) #[.int .i64 1] #[], .func (.func 124) #[] #[]] := by rw [← hw1]; exact RowL.new w _ 105
   have hwl := RF.lt;have hH := fitH_ok w1 (hv.spans.below bA);have hS1 := hv.spans.below bA
   have hcall := hidR (qe1 [p, q] fits2 g o c w.heap.size 2 w1 rfl (by simp) hcap ho (fun j x hx => (bA.cell (p := ⟨g, o + j, none⟩) hg).trans (hc j x hx)) (by omega) hz (fun j t' ht => by
    match j, ht with
    | 0, ht => simp [fits2] at ht; subst ht; exact RF.cell 0 rfl
    | 1, ht => simp [fits2] at ht; subst ht; exact RF.cell 1 rfl) hwl (by simp [fits2]) (fun t' ht => by
     simp only [fits2, List.mem_cons, List.not_mem_nil, or_false] at ht;rcases ht with rfl | rfl
     ·exact hH.1
     ·exact fitW_ok w1) (qa2 hv.pow bA) (hv.err.below bA))
   have hcall : Hid (Calls Tryz.prog 116 #[.slice (some ⟨g, o, none⟩) 2 c, .slice (some ⟨w.heap.size, 0, none⟩) 2 2] w1 fun e w' => qh3 [p, q] fits2 w1.heap.size e w' ∧ Below w1.heap.size w1 w') := hcall
   have hK : Hid (wordK k [p, q] = match decOf q with | some s => if 0 ≤ natOf p 255 ∧ -131072 ≤ s ∧ s ≤ 131071 then some (packed k (natOf p 255) ((s + 131072) % 512) ((s + 131072) / 512) s) else none | none => none) := by
    show wordK k _ = _;unfold wordK;rw [if_pos hw];rfl
   have hyes : Hid (NumsOk [p, q] fits2 2 → ∃ a s, numAt [p, q] 0 = some a ∧ numAt [p, q] 1 = some s ∧ (0 ≤ a ∧ a ≤ 255) ∧ (-131072 ≤ s ∧ s ≤ 131071) ∧ wordK k [p, q] = some (packed k a ((s + 131072) % 512) ((s + 131072) / 512) s)) := fun h => by
    obtain ⟨a, t0, a1, a2, a3⟩ := h 0 (by omega);obtain ⟨s, t1, b1, b2, b3⟩ := h 1 (by omega);simp only [fits2, List.getElem?_cons_zero, List.getElem?_cons_succ, Option.some.injEq] at a2 b2;subst a2 b2;have a4 : 0 ≤ a ∧ a ≤ 255 := of_decide_eq_true a3;have b4 : -131072 ≤ s ∧ s ≤ 131071 := of_decide_eq_true b3;refine ⟨a, s, a1, b1, a4, b4, ?_⟩;rw [hK.out, show decOf q = some s from b1, qf2 (hi := 255) (show decOf p = some a from a1) a4.1 a4.2];exact if_pos ⟨a4.1, b4.1, b4.2⟩
   have hnot : Hid (¬ NumsOk [p, q] fits2 2 → wordK k [p, q] = none) := fun h => by
    rw [hK.out]
    cases hq : decOf q with
    | none => rfl
    | some s =>
     refine if_neg fun h2 => h fun j hj => ?_;obtain ⟨x1, x2⟩ := qd6 h2.1
     match j, hj with
     | 0, _ => exact ⟨_, fitH 1 255, x1, rfl, decide_eq_true ⟨h2.1, x2⟩⟩
     | 1, _ => exact ⟨s, fitW, hq, rfl, decide_eq_true h2.2⟩
   replace hw1 := hidR hw1;replace bA := hidR bA;replace hS1 := hidR hS1;clear hc hz hv hcap RF hH hK;go_enter Tryz.func73, Tryz.ntmps73;go_wp2_with fail;rw [hw1.out];refine Calls.mono hcall.out ?_;rintro e y ⟨hE, b1⟩;have bz := bA.out.trans (b1.mono bA.out.size);have hSy := hidR (hS1.out.below b1);clear hcall b1 hw1 bA hS1;rcases hE with ⟨hok, rfl, hrow⟩ | ⟨hno, rfl⟩
   ·obtain ⟨a, s, n1, n2, ha, hs, hres⟩ := hyes.out hok;have e0 := hrow.cell (i := 0) (by simp);have e1 := hrow.cell (i := 1) (by simp);rw [n1] at e0;rw [n2] at e1;replace e0 : y.cell? ⟨w1.heap.size, 0, none⟩ = some (.int .i64 a) := e0;replace e1 : y.cell? ⟨w1.heap.size, 1, none⟩ = some (.int .i64 s) := e1;have hlt := hrow.lt;replace hres := hidR hres;clear hyes hnot hok hrow n1 n2;go_upto_region 4 with fail;have bY0 : Below y.heap.size y y.drew := (Below.refl _ _).drew;have hSd : y.drew.cell? ⟨w1.heap.size, 0, none⟩ = some (.int .i64 a) ∧ y.drew.cell? ⟨w1.heap.size, 1, none⟩ = some (.int .i64 s) := ⟨e0, e1⟩;have hSD := hidR (hSy.out.below bY0);have hwo := hidR (implWide_yes (k : Int) a s y.drew hSD.out (by omega) (by omega) ha.1 ha.2 hs.1 hs.2);have hpk := hidR (fun (z : World) (hz : Spans z) => implPack_any (k : Int) a ((s + 131072) % 512) ((s + 131072) / 512) s z hz);refine wp_region_held_drew (S := fun z => z.cell? ⟨w1.heap.size, 0, none⟩ = some (.int .i64 a) ∧ z.cell? ⟨w1.heap.size, 1, none⟩ = some (.int .i64 s)) (by kernel_rfl) hSd (fun hH => ?_);clear hH;generalize y.drew = yd at bY0 hSd hwo hSD ⊢;refine tkd 0 17 (.int .i64 (k : Int)) hSd ?_;refine tkd 1 18 (.slice (some ⟨w1.heap.size, 0, none⟩) 2 2) hSd ?_;refine tkd 2 19 (.pointer (some ⟨w1.heap.size, 0, none⟩)) hSd ?_;refine tkd 3 20 (.int .i64 a) hSd ?_;refine tkd 4 21 (.slice (some ⟨w1.heap.size, 0, none⟩) 2 2) hSd ?_;refine tkd 5 22 (.pointer (some ⟨w1.heap.size, 1, none⟩)) hSd ?_;refine tkd 6 23 (.int .i64 s) hSd ?_;refine rdy1 7 (fun K hK => ?_);go_simp;refine Calls.mono hwo.out ?_;rintro e y1 ⟨rfl, b1⟩;have hl9 : w1.heap.size < yd.heap.size := Nat.lt_of_lt_of_le hlt bY0.size;have hSf : y1.cell? ⟨w1.heap.size, 0, none⟩ = some (.int .i64 a) ∧ y1.cell? ⟨w1.heap.size, 1, none⟩ = some (.int .i64 s) := ⟨(b1.cell (p := ⟨w1.heap.size, 0, none⟩) hl9).trans hSd.1, (b1.cell (p := ⟨w1.heap.size, 1, none⟩) hl9).trans hSd.2⟩;replace hpk := hidR (hpk.out y1 (hSD.out.below b1));go_wp2_with fail;refine hK.out _ _ hSf (fun _ => ?_);clear hK K hwo;try simp only [tK]
    refine rdy1 8 (fun K hK => ?_);go_simp;refine Calls.mono hpk.out ?_;rintro e y2 ⟨rfl, b2⟩;have hl8 : w1.heap.size < y1.heap.size := Nat.lt_of_lt_of_le hl9 b1.size;have hSe : y2.cell? ⟨w1.heap.size, 0, none⟩ = some (.int .i64 a) ∧ y2.cell? ⟨w1.heap.size, 1, none⟩ = some (.int .i64 s) := ⟨(b2.cell (p := ⟨w1.heap.size, 0, none⟩) hl8).trans hSf.1, (b2.cell (p := ⟨w1.heap.size, 1, none⟩) hl8).trans hSf.2⟩;have c1 := bz.trans (bY0.mono bz.size);have c2 := c1.trans (b1.mono c1.size);have bf := c2.trans (b2.mono c2.size);clear hpk;generalize packed (k : Int) a ((s + 131072) % 512) ((s + 131072) / 512) s = x at hres ⊢;go_wp2_with fail;refine hK.out _ _ hSe (fun _ => ?_);clear hK K;try simp only [tK]
    refine tkd 9 4 (.int .u32 x) hSe ?_;refine tkd 10 5 (.bool true) hSe ?_;refine wpAnyH_done (by kernel_rfl) ?_ _;go_wp2_with fail;exact bodyPost_ret (v := .tuple #[.int .u32 x, .bool true]) (by simp [results, Tryz.results73, go_sem]) rfl ⟨.inl ⟨x, hres.out, rfl⟩, bf⟩
   ·have hn := hidR (hnot.out hno);clear hyes hnot hno;go_wp2_with fail;exact bodyPost_ret (v := .tuple #[.int .u32 0, .bool false]) (by simp [results, Tryz.results73, go_sem]) rfl ⟨.inr ⟨hn.out, rfl⟩, bz⟩
 ·have hcall := hidR (qb7 r fits2 (some ⟨g, o, none⟩) (some ⟨w.heap.size, 0, none⟩) c 2 w1 hl hN (by simp [fits2]))
  have hn : Hid (wordK k r = none) := by
   show wordK k r = none;unfold wordK;rw [if_pos hw];split
   ·exact absurd rfl hl
   ·rfl
  replace hcall : Hid (Calls Tryz.prog 116 #[.slice (some ⟨g, o, none⟩) r.length c, .slice (some ⟨w.heap.size, 0, none⟩) 2 2] w1 fun e w' => e = .returned (.tuple #[.slice none 0 0, .bool false]) ∧ Below w1.heap.size w1 w') := hcall;replace hw1 := hidR hw1;clear hc hz hv;generalize r.length = m at *;go_enter Tryz.func73, Tryz.ntmps73;go_wp2_with fail;rw [hw1.out];refine Calls.mono hcall.out ?_;rintro e y ⟨rfl, b1⟩;have bz := bA.trans (b1.mono bA.size);clear hcall;go_wp2_with fail;exact bodyPost_ret (v := .tuple #[.int .u32 0, .bool false]) (by simp [results, Tryz.results73, go_sem]) rfl ⟨.inr ⟨hn.out, rfl⟩, bz⟩
end Go.Proofs.YtplijnfaiofckaaGreatDoor

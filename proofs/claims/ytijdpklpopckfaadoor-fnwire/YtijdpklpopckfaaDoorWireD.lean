import Derived.Test.YtijdpklpopckfaaDoorWireC
import Derived.Test.YtijdpklpopckfaaDoorDrawC
import Derived.Deep.RegionHeld3
namespace Go.Proofs.YtijdpklpopckfaaDoor.WWire
open Go.RowKit WPack WPut WDraw
set_option linter.unusedVariables false
theorem hid {p : Prop} (h : p) : Hid p := h
theorem take_dst {P : Program} {ops : Array Oper} {Q : Exit → Act → World → Prop} {md : Region.Mode} {S : World → Prop} (i d : Nat) (v : Value) {oi : Oper} {fuel : Nat} {listed : Array Bool} {a : Act} {w : World} (hi : ops[i]? = some oi)
    (hs : Region.noSelect ops = true) (hf : Region.free md ops listed i = true) (hr : (Region.ready md ops listed).contains i = true)
    (hQ : ∀ c a w, Q (.panic c) (a.put oi.dst v) w → Q (.panic c) a w) (hy : YieldsIf P ops S oi v a) (hS : S w) (hd : oi.dst = some d)
    (h : wpAnyH P md ops Q S fuel (listed.setIfInBounds i true) (a.put (some d) v) w) : wpAnyH P md ops Q S (fuel + 1) listed a w :=
  wpAnyH_take hi hs hf hr hQ hy hS (by rw [hd]; exact h)
theorem conv_two (w : World) (m n : Int) : (convert 22 9 (.slice (some ⟨w.heap.size, 0, none⟩) 2 2)).run Tryd.prog (w.alloc (.cells #[.int .u8 m, .int .u8 n] 5)) = .ok (.string (strOfNums [m, n])) (w.alloc (.cells #[.int .u8 m, .int .u8 n] 5)) := by
  refine run_convert_bytes_arg _ 22 5 Tryd.underlying22 Tryd.underlying5 _ 0 2 2 [m, n] rfl (fun i hi => ?_) 9 Tryd.underlying9
  match i, hi with
  | 0, _ => simp [go_sem]
  | 1, _ => simp [go_sem]
theorem pv_small (n : Int) : (pv n).size ≤ 5 := by
  unfold pv; split
  · simp
  · rw [strOfNums_size]; exact pvL_len 5 n
theorem pv_range (n : Int) (h : 0 < (pv n).size) : 0 ≤ n ∧ n ≤ 16777215 := by
  by_cases c : n < 0 ∨ 16777215 < n
  · rw [pv_out c] at h; simp at h
  · omega
theorem specPutInt' (z : Int) (w : World) (h0 : -9223372036854775808 ≤ z) (h1 : z ≤ 9223372036854775807) :
    Calls Tryd.prog 12 #[.int .i64 z] w fun e w' => e = .returned (.string (strOfNums (leL 8 (z % 18446744073709551616)))) ∧ Below w.heap.size w w' := by
  rw [← IntKind.wrap_u64]; exact specPutInt z w h0 h1
theorem pre_small (x : Int) (h0 : 0 ≤ x) (h1 : x < 4) (wx : World) : ∃ p : ByteArray, p.size ≤ 3 ∧ (Instr.slice 9 (.string ⟨#[112, 114, 101]⟩) none (some (.int .i64 x)) none).run Tryd.prog wx = .ok (.string p) wx := by
  obtain ⟨n, rfl⟩ := Int.eq_ofNat_of_zero_le h0
  have hsz : ((⟨#[112, 114, 101]⟩ : ByteArray).size : Int) = 3 := rfl
  have h := run_slice_string_h (P := Tryd.prog) (t := 9) wx ⟨#[112, 114, 101]⟩ Tryd.underlying9 .i64 (n : Int) (by omega) (by omega)
  refine ⟨_, ?_, h⟩
  simp [ByteArray.size_extract]
  omega
set_option maxRecDepth 100000 in
set_option maxHeartbeats 4000000 in
theorem wire_law (a1 : Option Addr) (len1 cap1 : Nat) (z1 : List Int) (a2 : Option Addr) (len2 cap2 : Nat) (z2 : List Int) (w : World) (hR1 : IsRow w a1 len1 cap1 z1) (hR2 : IsRow w a2 len2 cap2 z2) (hS : Spans w)
    (hl1 : len1 ≤ 1048576) (hl2 : len2 ≤ 1048576) :
    Calls Tryd.prog 3 #[.slice a1 len1 cap1, .slice a2 len2 cap2] w fun e w' => e = .returned (.bool true) ∧ Below w.heap.size w w' := by
  go_enter Tryd.func3, Tryd.ntmps3
  go_wp2_with fail
  refine (drawPutVarint a1 len1 cap1 z1 _ hR1 hl1).mono ?_
  rintro e w' ⟨⟨n, rfl⟩, rfl⟩
  go_wp2_with fail
  refine (drawPutInt a1 len1 cap1 z1 _ hR1 hl1).mono ?_
  rintro e w' ⟨⟨z, hz0, hz1, rfl⟩, rfl⟩
  go_wp2_with fail
  refine (wPick_any a2 len2 cap2 z2 0 _ hR2 (by omega) hl2).mono ?_
  rintro e w' ⟨⟨x0, h00, h01, rfl⟩, rfl⟩
  obtain ⟨p, hp, hpr⟩ := pre_small (x0 % 4) (by omega) (by omega) w'
  go_wp2_with fail
  refine (wPick_any a2 len2 cap2 z2 1 _ hR2 (by omega) hl2).mono ?_
  rintro e w' ⟨⟨x1, h10, h11, rfl⟩, rfl⟩
  go_wp2_with fail
  refine (wPick_any a2 len2 cap2 z2 2 _ hR2 (by omega) hl2).mono ?_
  rintro e w' ⟨⟨x2, h20, h21, rfl⟩, rfl⟩
  clear hpr
  have hcv := conv_two w' x1 x2
  have ht : (strOfNums [x1, x2]).size = 2 := strOfNums_size _
  have B0 : Below w'.heap.size w' (w'.alloc (.cells #[.int .u8 x1, .int .u8 x2] 5)) := (Below.refl _ _).alloc (Nat.le_refl _) _
  go_wp2_with fail
  clear hcv
  generalize strOfNums [x1, x2] = t at *
  refine (implPutVarint n _).mono ?_
  rintro e wa ⟨rfl, ba⟩
  have Ba := B0.trans (ba.mono B0.size)
  go_wp2_with fail
  refine (specPutVarint n _).mono ?_
  rintro e wb ⟨rfl, bb⟩
  have Bb := Ba.trans (bb.mono Ba.size)
  clear ba bb B0 Ba
  have hpv : (pv n).size ≤ 5 := pv_small n
  obtain ⟨T, HT⟩ : ∃ T, Hid (strOfNums (leL 8 (z % 18446744073709551616)) = T) := ⟨_, rfl⟩
  have hT : T.size = 8 := by rw [← HT.out, strOfNums_size]; rfl
  by_cases hn : 0 < (pv n).size
  · have hn2 := pv_range n hn
    go_wp2_with fail
    refine (getV p t n _ hp ht hn2.1 hn2.2).mono ?_
    rintro e wc ⟨rfl, bc⟩
    replace Bb := Bb.trans (bc.mono Bb.size)
    clear bc hn2
    go_wp2_with fail
    refine (HT.out ▸ implPutInt z _ hz0 hz1).mono ?_
    rintro e wd ⟨rfl, bd⟩
    replace Bb := Bb.trans (bd.mono Bb.size)
    clear bd
    go_wp2_with fail
    refine (HT.out ▸ specPutInt' z _ hz0 hz1).mono ?_
    rintro e we ⟨rfl, bd⟩
    replace Bb := Bb.trans (bd.mono Bb.size)
    clear bd
    go_wp2_with fail
    refine (HT.out ▸ getI p t z _ hp ht hz0 hz1).mono ?_
    rintro e wf ⟨rfl, rfl⟩
    go_wp2_with fail
    refine (drawUnpack a1 len1 cap1 z1 _ (hR1.below Bb) hl1).mono ?_
    rintro e wg ⟨⟨X, hX0, hX1, rfl⟩, rfl⟩
    obtain ⟨o, q, b, c, ho, hq, hb, hc, hx, hU⟩ := unpack_vars X hX0 hX1
    have HU := hid hU
    have HX := hid hx
    clear hU hx
    go_wp2_with fail
    refine (HU.out _ (spans_below hS Bb)).mono ?_
    rintro e wh ⟨rfl, bd⟩
    replace Bb := Bb.trans (bd.mono Bb.size)
    clear bd HU
    obtain ⟨s, hs⟩ : ∃ s, s = b + 512 * c + -131072 := ⟨_, rfl⟩
    rw [← hs]
    have hpk : Hid (packed o q b c s = X) := by rw [hs, packed_of ho hq hb hc]; exact HX.out
    have HS := hid hs
    have hsu := Su.mk' (o := o) (q := q) (b := b) (c := c) (s := s) (spans_below hS Bb) Bb
    clear hs HX
    have hsud := hsu.step ((Below.refl _ _).drew)
    clear hsu
    go_wp2_with fail
    go_region_held3 (fun v => v.cell? ⟨wh.heap.size, 0, none⟩ = some (.int .i64 o) ∧ v.cell? ⟨wh.heap.size, 1, none⟩ = some (.int .i64 q) ∧ v.cell? ⟨wh.heap.size, 2, none⟩ = some (.int .i64 b) ∧ v.cell? ⟨wh.heap.size, 3, none⟩ = some (.int .i64 c) ∧ v.cell? ⟨wh.heap.size, 4, none⟩ = some (.int .i64 s) ∧ SuR w' wh.heap.size v) (first | exact hsud | assumption) (first | (go_at_call 16; refine (pk_su (w0 := w') (k := wh.heap.size) X hpk.out ?_).mono ?_; (first | exact hsud | assumption); rintro e w1 ⟨rfl, h1⟩) | (go_at_call 17; refine (wd_su (w0 := w') (k := wh.heap.size) HS.out ho hq hb hc ?_).mono ?_; (first | exact hsud | assumption); rintro e w1 ⟨rfl, h1⟩))
    have hlast : Su w' wh.heap.size o q b c s w1 := by assumption
    obtain ⟨_, _, _, _, _, hSc, Bc, _, _⟩ := hlast
    clear hsud hpk HS ho hq hb hc hX0 hX1 Bb
    go_wp2_with fail
    refine (drawPack a1 len1 cap1 z1 _ (hR1.below Bc) hl1).mono ?_
    rintro e wj ⟨⟨O, Q, B, C, S, rfl⟩, bd⟩
    replace hSc := spans_below hSc bd
    replace Bc := Bc.trans (bd.mono Bc.size)
    have hsu := Su.mk' (o := O) (q := Q) (b := B) (c := C) (s := S) hSc Bc
    clear bd hSc hR1 hR2 hS HT
    obtain ⟨P, hP⟩ : ∃ P, packed O Q B C S = P := ⟨_, rfl⟩
    have HP := hid hP
    clear hP
    go_wp2_with fail
    refine (pk_su P HP.out hsu).mono ?_
    rintro e wk ⟨rfl, hk⟩
    clear hsu
    have HK := hid hk
    obtain ⟨k0, k1, k2, k3, k4, _⟩ := hk
    go_wp2_with fail
    refine (spk_su P HP.out HK.out).mono ?_
    rintro e wl ⟨rfl, hl⟩
    clear k0 k1 k2 k3 k4 HK
    have hld := hl.step ((Below.refl _ _).drew)
    have HLL := hid hl
    clear hl
    by_cases hfit : fit O Q B C S
    · have HF := hid hfit
      clear hfit
      go_wp2_with fail
      go_region_held3 (fun v => v.cell? ⟨wj.heap.size, 0, none⟩ = some (.int .i64 O) ∧ v.cell? ⟨wj.heap.size, 1, none⟩ = some (.int .i64 Q) ∧ v.cell? ⟨wj.heap.size, 2, none⟩ = some (.int .i64 B) ∧ v.cell? ⟨wj.heap.size, 3, none⟩ = some (.int .i64 C) ∧ v.cell? ⟨wj.heap.size, 4, none⟩ = some (.int .i64 S) ∧ SuR w' wj.heap.size v) (first | exact hld | assumption) (first | (go_at_call 19; refine (spk_su (w0 := w') (k := wj.heap.size) P HP.out ?_).mono ?_; (first | exact hld | assumption); rintro e w1 ⟨rfl, h1⟩) | (go_at_call 20; refine (su19 (w0 := w') (k := wj.heap.size) HF.out P HP.out ?_).mono ?_; (first | exact hld | assumption); rintro e w1 ⟨rfl, h1⟩) | (go_at_call 15; refine (su14 (w0 := w') (k := wj.heap.size) HF.out P HP.out ?_).mono ?_; (first | exact hld | assumption); rintro e w1 ⟨rfl, h1⟩))
      go_wp2_with fail
      go_ret
      have hlast : Su w' wj.heap.size O Q B C S w1 := by assumption
      exact ⟨rfl, hlast.2.2.2.2.2.2.1⟩
    · have hP0 : P = 0 := HP.out.symm.trans (packed_not hfit)
      subst hP0
      have hno := not_fit hfit
      obtain ⟨l0, l1, l2, l3, l4, _⟩ := HLL.out
      clear hfit
      have HNO := hid hno
      clear hno
      go_wp2_with fail
      refine wp_region_held_drew (S := (fun v => v.cell? ⟨wj.heap.size, 0, none⟩ = some (.int .i64 O) ∧ v.cell? ⟨wj.heap.size, 1, none⟩ = some (.int .i64 Q) ∧ v.cell? ⟨wj.heap.size, 2, none⟩ = some (.int .i64 B) ∧ v.cell? ⟨wj.heap.size, 3, none⟩ = some (.int .i64 C) ∧ v.cell? ⟨wj.heap.size, 4, none⟩ = some (.int .i64 S) ∧ SuR w' wj.heap.size v)) (by kernel_rfl) hld (fun hHeld => ?_)
      refine take_dst 0 146 (.agg #[.int .i64 O, .int .i64 Q, .int .i64 B, .int .i64 C, .int .i64 S]) rfl (by kernel_rfl) (by kernel_rfl) (by kernel_rfl) (fun _ _ _ h => h) (Or.inl ⟨by rfl, by intro wv hSv; (try dsimp only at hSv); go_simp⟩) hHeld rfl ?_
      try simp only [Act.put, List.setIfInBounds_toArray, List.set_cons_zero, List.set_cons_succ]
      refine take_dst 3 149 (.agg #[.int .i64 O, .int .i64 Q, .int .i64 B, .int .i64 C, .int .i64 S]) rfl (by kernel_rfl) (by kernel_rfl) (by kernel_rfl) (fun _ _ _ h => h) (Or.inl ⟨by rfl, by intro wv hSv; (try dsimp only at hSv); go_simp⟩) hHeld rfl ?_
      try simp only [Act.put, List.setIfInBounds_toArray, List.set_cons_zero, List.set_cons_succ]
      refine wpAnyH_ready (rs := [1]) (by kernel_rfl) (by simp) ?_
      refine AllReadyH.cons rfl (fun K hK => ?_) AllReadyH.nil
      go_simp
      refine (spk_su (w0 := w') (k := wj.heap.size) 0 HP.out hld).mono ?_
      rintro e wm ⟨rfl, hm⟩
      go_wp2_with fail
      refine hK.out _ _ hm (fun _ => ?_)
      clear hK K
      try simp only [Act.put, List.setIfInBounds_toArray, List.set_cons_zero, List.set_cons_succ]
      refine wpAnyH_ready (rs := [2]) (by kernel_rfl) (by simp) ?_
      refine AllReadyH.cons rfl (fun K hK => ?_) AllReadyH.nil
      go_simp
      refine (su19z (w0 := w') (k := wj.heap.size) (o := O) (q := Q) (b := B) (c := C) (s := S) hm).mono ?_
      rintro e wn ⟨rfl, hn2⟩
      go_wp2_with fail
      refine hK.out _ _ hn2 (fun _ => ?_)
      clear hK K
      try simp only [Act.put, List.setIfInBounds_toArray, List.set_cons_zero, List.set_cons_succ]
      refine take_dst 4 150 (.bool true) rfl (by kernel_rfl) (by kernel_rfl) (by kernel_rfl) (fun _ _ _ h => h) (Or.inl ⟨by rfl, by intro wv hSv; (try dsimp only at hSv); go_simp; intro y0 y1 y2 y3 y4; exact HNO.out ⟨y0.symm, y1.symm, y2.symm, y3.symm, y4.symm⟩⟩) hn2 rfl ?_
      try simp only [Act.put, List.setIfInBounds_toArray, List.set_cons_zero, List.set_cons_succ]
      refine take_dst 5 151 (.bool true) rfl (by kernel_rfl) (by kernel_rfl) (by kernel_rfl) (fun _ _ _ h => h) (Or.inl ⟨by rfl, by intro wv hSv; (try dsimp only at hSv); go_simp⟩) hn2 rfl ?_
      try simp only [Act.put, List.setIfInBounds_toArray, List.set_cons_zero, List.set_cons_succ]
      refine take_dst 6 152 (undef) rfl (by kernel_rfl) (by kernel_rfl) (by kernel_rfl) (fun _ _ _ h => h) (Or.inr ⟨by rfl, rfl⟩) hn2 rfl ?_
      try simp only [Act.put, List.setIfInBounds_toArray, List.set_cons_zero, List.set_cons_succ]
      refine take_dst 8 154 (undef) rfl (by kernel_rfl) (by kernel_rfl) (by kernel_rfl) (fun _ _ _ h => h) (Or.inr ⟨by rfl, rfl⟩) hn2 rfl ?_
      try simp only [Act.put, List.setIfInBounds_toArray, List.set_cons_zero, List.set_cons_succ]
      refine take_dst 7 153 (undef) rfl (by kernel_rfl) (by kernel_rfl) (by kernel_rfl) (fun _ _ _ h => h) (Or.inr ⟨by rfl, rfl⟩) hn2 rfl ?_
      try simp only [Act.put, List.setIfInBounds_toArray, List.set_cons_zero, List.set_cons_succ]
      refine take_dst 9 155 (undef) rfl (by kernel_rfl) (by kernel_rfl) (by kernel_rfl) (fun _ _ _ h => h) (Or.inr ⟨by rfl, rfl⟩) hn2 rfl ?_
      try simp only [Act.put, List.setIfInBounds_toArray, List.set_cons_zero, List.set_cons_succ]
      refine take_dst 10 156 (.bool true) rfl (by kernel_rfl) (by kernel_rfl) (by kernel_rfl) (fun _ _ _ h => h) (Or.inl ⟨by rfl, by intro wv hSv; (try dsimp only at hSv); go_simp⟩) hn2 rfl ?_
      try simp only [Act.put, List.setIfInBounds_toArray, List.set_cons_zero, List.set_cons_succ]
      refine take_dst 11 4 (.bool true) rfl (by kernel_rfl) (by kernel_rfl) (by kernel_rfl) (fun _ _ _ h => h) (Or.inl ⟨by rfl, by intro wv hSv; (try dsimp only at hSv); go_simp⟩) hn2 rfl ?_
      try simp only [Act.put, List.setIfInBounds_toArray, List.set_cons_zero, List.set_cons_succ]
      refine wpAnyH_done (by kernel_rfl) ?_ _
      go_wp2_with fail
      go_ret
      exact ⟨rfl, hn2.2.2.2.2.2.2.1⟩
  · go_wp2_with fail
    refine (HT.out ▸ implPutInt z _ hz0 hz1).mono ?_
    rintro e wd ⟨rfl, bd⟩
    replace Bb := Bb.trans (bd.mono Bb.size)
    clear bd
    go_wp2_with fail
    refine (HT.out ▸ specPutInt' z _ hz0 hz1).mono ?_
    rintro e we ⟨rfl, bd⟩
    replace Bb := Bb.trans (bd.mono Bb.size)
    clear bd
    go_wp2_with fail
    refine (HT.out ▸ getI p t z _ hp ht hz0 hz1).mono ?_
    rintro e wf ⟨rfl, rfl⟩
    go_wp2_with fail
    refine (drawUnpack a1 len1 cap1 z1 _ (hR1.below Bb) hl1).mono ?_
    rintro e wg ⟨⟨X, hX0, hX1, rfl⟩, rfl⟩
    obtain ⟨o, q, b, c, ho, hq, hb, hc, hx, hU⟩ := unpack_vars X hX0 hX1
    have HU := hid hU
    have HX := hid hx
    clear hU hx
    go_wp2_with fail
    refine (HU.out _ (spans_below hS Bb)).mono ?_
    rintro e wh ⟨rfl, bd⟩
    replace Bb := Bb.trans (bd.mono Bb.size)
    clear bd HU
    obtain ⟨s, hs⟩ : ∃ s, s = b + 512 * c + -131072 := ⟨_, rfl⟩
    rw [← hs]
    have hpk : Hid (packed o q b c s = X) := by rw [hs, packed_of ho hq hb hc]; exact HX.out
    have HS := hid hs
    have hsu := Su.mk' (o := o) (q := q) (b := b) (c := c) (s := s) (spans_below hS Bb) Bb
    clear hs HX
    have hsud := hsu.step ((Below.refl _ _).drew)
    clear hsu
    go_wp2_with fail
    go_region_held3 (fun v => v.cell? ⟨wh.heap.size, 0, none⟩ = some (.int .i64 o) ∧ v.cell? ⟨wh.heap.size, 1, none⟩ = some (.int .i64 q) ∧ v.cell? ⟨wh.heap.size, 2, none⟩ = some (.int .i64 b) ∧ v.cell? ⟨wh.heap.size, 3, none⟩ = some (.int .i64 c) ∧ v.cell? ⟨wh.heap.size, 4, none⟩ = some (.int .i64 s) ∧ SuR w' wh.heap.size v) (first | exact hsud | assumption) (first | (go_at_call 16; refine (pk_su (w0 := w') (k := wh.heap.size) X hpk.out ?_).mono ?_; (first | exact hsud | assumption); rintro e w1 ⟨rfl, h1⟩) | (go_at_call 17; refine (wd_su (w0 := w') (k := wh.heap.size) HS.out ho hq hb hc ?_).mono ?_; (first | exact hsud | assumption); rintro e w1 ⟨rfl, h1⟩))
    have hlast : Su w' wh.heap.size o q b c s w1 := by assumption
    obtain ⟨_, _, _, _, _, hSc, Bc, _, _⟩ := hlast
    clear hsud hpk HS ho hq hb hc hX0 hX1 Bb
    go_wp2_with fail
    refine (drawPack a1 len1 cap1 z1 _ (hR1.below Bc) hl1).mono ?_
    rintro e wj ⟨⟨O, Q, B, C, S, rfl⟩, bd⟩
    replace hSc := spans_below hSc bd
    replace Bc := Bc.trans (bd.mono Bc.size)
    have hsu := Su.mk' (o := O) (q := Q) (b := B) (c := C) (s := S) hSc Bc
    clear bd hSc hR1 hR2 hS HT
    obtain ⟨P, hP⟩ : ∃ P, packed O Q B C S = P := ⟨_, rfl⟩
    have HP := hid hP
    clear hP
    go_wp2_with fail
    refine (pk_su P HP.out hsu).mono ?_
    rintro e wk ⟨rfl, hk⟩
    clear hsu
    have HK := hid hk
    obtain ⟨k0, k1, k2, k3, k4, _⟩ := hk
    go_wp2_with fail
    refine (spk_su P HP.out HK.out).mono ?_
    rintro e wl ⟨rfl, hl⟩
    clear k0 k1 k2 k3 k4 HK
    have hld := hl.step ((Below.refl _ _).drew)
    have HLL := hid hl
    clear hl
    by_cases hfit : fit O Q B C S
    · have HF := hid hfit
      clear hfit
      go_wp2_with fail
      go_region_held3 (fun v => v.cell? ⟨wj.heap.size, 0, none⟩ = some (.int .i64 O) ∧ v.cell? ⟨wj.heap.size, 1, none⟩ = some (.int .i64 Q) ∧ v.cell? ⟨wj.heap.size, 2, none⟩ = some (.int .i64 B) ∧ v.cell? ⟨wj.heap.size, 3, none⟩ = some (.int .i64 C) ∧ v.cell? ⟨wj.heap.size, 4, none⟩ = some (.int .i64 S) ∧ SuR w' wj.heap.size v) (first | exact hld | assumption) (first | (go_at_call 19; refine (spk_su (w0 := w') (k := wj.heap.size) P HP.out ?_).mono ?_; (first | exact hld | assumption); rintro e w1 ⟨rfl, h1⟩) | (go_at_call 20; refine (su19 (w0 := w') (k := wj.heap.size) HF.out P HP.out ?_).mono ?_; (first | exact hld | assumption); rintro e w1 ⟨rfl, h1⟩) | (go_at_call 15; refine (su14 (w0 := w') (k := wj.heap.size) HF.out P HP.out ?_).mono ?_; (first | exact hld | assumption); rintro e w1 ⟨rfl, h1⟩))
      go_wp2_with fail
      go_ret
      have hlast : Su w' wj.heap.size O Q B C S w1 := by assumption
      exact ⟨rfl, hlast.2.2.2.2.2.2.1⟩
    · have hP0 : P = 0 := HP.out.symm.trans (packed_not hfit)
      subst hP0
      have hno := not_fit hfit
      obtain ⟨l0, l1, l2, l3, l4, _⟩ := HLL.out
      clear hfit
      have HNO := hid hno
      clear hno
      go_wp2_with fail
      refine wp_region_held_drew (S := (fun v => v.cell? ⟨wj.heap.size, 0, none⟩ = some (.int .i64 O) ∧ v.cell? ⟨wj.heap.size, 1, none⟩ = some (.int .i64 Q) ∧ v.cell? ⟨wj.heap.size, 2, none⟩ = some (.int .i64 B) ∧ v.cell? ⟨wj.heap.size, 3, none⟩ = some (.int .i64 C) ∧ v.cell? ⟨wj.heap.size, 4, none⟩ = some (.int .i64 S) ∧ SuR w' wj.heap.size v)) (by kernel_rfl) hld (fun hHeld => ?_)
      refine take_dst 0 146 (.agg #[.int .i64 O, .int .i64 Q, .int .i64 B, .int .i64 C, .int .i64 S]) rfl (by kernel_rfl) (by kernel_rfl) (by kernel_rfl) (fun _ _ _ h => h) (Or.inl ⟨by rfl, by intro wv hSv; (try dsimp only at hSv); go_simp⟩) hHeld rfl ?_
      try simp only [Act.put, List.setIfInBounds_toArray, List.set_cons_zero, List.set_cons_succ]
      refine take_dst 3 149 (.agg #[.int .i64 O, .int .i64 Q, .int .i64 B, .int .i64 C, .int .i64 S]) rfl (by kernel_rfl) (by kernel_rfl) (by kernel_rfl) (fun _ _ _ h => h) (Or.inl ⟨by rfl, by intro wv hSv; (try dsimp only at hSv); go_simp⟩) hHeld rfl ?_
      try simp only [Act.put, List.setIfInBounds_toArray, List.set_cons_zero, List.set_cons_succ]
      refine wpAnyH_ready (rs := [1]) (by kernel_rfl) (by simp) ?_
      refine AllReadyH.cons rfl (fun K hK => ?_) AllReadyH.nil
      go_simp
      refine (spk_su (w0 := w') (k := wj.heap.size) 0 HP.out hld).mono ?_
      rintro e wm ⟨rfl, hm⟩
      go_wp2_with fail
      refine hK.out _ _ hm (fun _ => ?_)
      clear hK K
      try simp only [Act.put, List.setIfInBounds_toArray, List.set_cons_zero, List.set_cons_succ]
      refine wpAnyH_ready (rs := [2]) (by kernel_rfl) (by simp) ?_
      refine AllReadyH.cons rfl (fun K hK => ?_) AllReadyH.nil
      go_simp
      refine (su19z (w0 := w') (k := wj.heap.size) (o := O) (q := Q) (b := B) (c := C) (s := S) hm).mono ?_
      rintro e wn ⟨rfl, hn2⟩
      go_wp2_with fail
      refine hK.out _ _ hn2 (fun _ => ?_)
      clear hK K
      try simp only [Act.put, List.setIfInBounds_toArray, List.set_cons_zero, List.set_cons_succ]
      refine take_dst 4 150 (.bool true) rfl (by kernel_rfl) (by kernel_rfl) (by kernel_rfl) (fun _ _ _ h => h) (Or.inl ⟨by rfl, by intro wv hSv; (try dsimp only at hSv); go_simp; intro y0 y1 y2 y3 y4; exact HNO.out ⟨y0.symm, y1.symm, y2.symm, y3.symm, y4.symm⟩⟩) hn2 rfl ?_
      try simp only [Act.put, List.setIfInBounds_toArray, List.set_cons_zero, List.set_cons_succ]
      refine take_dst 5 151 (.bool true) rfl (by kernel_rfl) (by kernel_rfl) (by kernel_rfl) (fun _ _ _ h => h) (Or.inl ⟨by rfl, by intro wv hSv; (try dsimp only at hSv); go_simp⟩) hn2 rfl ?_
      try simp only [Act.put, List.setIfInBounds_toArray, List.set_cons_zero, List.set_cons_succ]
      refine take_dst 6 152 (undef) rfl (by kernel_rfl) (by kernel_rfl) (by kernel_rfl) (fun _ _ _ h => h) (Or.inr ⟨by rfl, rfl⟩) hn2 rfl ?_
      try simp only [Act.put, List.setIfInBounds_toArray, List.set_cons_zero, List.set_cons_succ]
      refine take_dst 8 154 (undef) rfl (by kernel_rfl) (by kernel_rfl) (by kernel_rfl) (fun _ _ _ h => h) (Or.inr ⟨by rfl, rfl⟩) hn2 rfl ?_
      try simp only [Act.put, List.setIfInBounds_toArray, List.set_cons_zero, List.set_cons_succ]
      refine take_dst 7 153 (undef) rfl (by kernel_rfl) (by kernel_rfl) (by kernel_rfl) (fun _ _ _ h => h) (Or.inr ⟨by rfl, rfl⟩) hn2 rfl ?_
      try simp only [Act.put, List.setIfInBounds_toArray, List.set_cons_zero, List.set_cons_succ]
      refine take_dst 9 155 (undef) rfl (by kernel_rfl) (by kernel_rfl) (by kernel_rfl) (fun _ _ _ h => h) (Or.inr ⟨by rfl, rfl⟩) hn2 rfl ?_
      try simp only [Act.put, List.setIfInBounds_toArray, List.set_cons_zero, List.set_cons_succ]
      refine take_dst 10 156 (.bool true) rfl (by kernel_rfl) (by kernel_rfl) (by kernel_rfl) (fun _ _ _ h => h) (Or.inl ⟨by rfl, by intro wv hSv; (try dsimp only at hSv); go_simp⟩) hn2 rfl ?_
      try simp only [Act.put, List.setIfInBounds_toArray, List.set_cons_zero, List.set_cons_succ]
      refine take_dst 11 4 (.bool true) rfl (by kernel_rfl) (by kernel_rfl) (by kernel_rfl) (fun _ _ _ h => h) (Or.inl ⟨by rfl, by intro wv hSv; (try dsimp only at hSv); go_simp⟩) hn2 rfl ?_
      try simp only [Act.put, List.setIfInBounds_toArray, List.set_cons_zero, List.set_cons_succ]
      refine wpAnyH_done (by kernel_rfl) ?_ _
      go_wp2_with fail
      go_ret
      exact ⟨rfl, hn2.2.2.2.2.2.2.1⟩
set_option maxRecDepth 100000 in
set_option maxHeartbeats 1000000 in
theorem wire_any (a1 : Option Addr) (len1 cap1 : Nat) (z1 : List Int) (a2 : Option Addr) (len2 cap2 : Nat) (z2 : List Int) (w : World) (hR1 : IsRow w a1 len1 cap1 z1) (hR2 : IsRow w a2 len2 cap2 z2) (hS : Spans w) :
    Calls Tryd.prog 3 #[.slice a1 len1 cap1, .slice a2 len2 cap2] w fun e w' => e = .returned (.bool true) ∧ Below w.heap.size w w' := by
  by_cases h1 : (1048576 : Int) < (len1 : Int)
  · go_enter Tryd.func3, Tryd.ntmps3
    go_wp2_with fail
    go_ret
    exact ⟨rfl, Below.refl _ _⟩
  · by_cases h2 : (1048576 : Int) < (len2 : Int)
    · go_enter Tryd.func3, Tryd.ntmps3
      go_wp2_with fail
      go_ret
      exact ⟨rfl, Below.refl _ _⟩
    · exact wire_law a1 len1 cap1 z1 a2 len2 cap2 z2 w hR1 hR2 hS (by omega) (by omega)
end Go.Proofs.YtijdpklpopckfaaDoor.WWire

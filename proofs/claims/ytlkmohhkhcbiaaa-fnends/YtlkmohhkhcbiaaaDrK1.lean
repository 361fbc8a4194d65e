import Derived.Test.YtlkmohhkhcbiaaaDrK
namespace Go.Proofs.Ytlkmohhkhcbiaaa
open Go.RowKit Go.Shelf
set_option linter.unusedVariables false
set_option linter.unusedSimpArgs false
attribute [local go_sem] Oper.semAt_some
set_option maxRecDepth 100000 in
set_option maxHeartbeats 12000000 in
theorem l4Kids_1 (c : Sl Int) (level : Int) (hl1 : 0 ≤ level) (hl2 : level ≤ 2) (p : Nat) (hp : p ≤ 100000) (T : Nat → Int → List PD × Nat) (kids : Nat) (hk3 : kids ≤ 3) (hT : 0 < kids → ∀ p' ups, p' ≤ p + 10000 → 0 ≤ ups → ups ≤ 2 → TreeA c (level + 1) p' ups (T p' ups))
    (pa : Int) (va : Bool) (LC : List Int) (KD : List VD) (U : List UD) (hLC : LC.length ≤ 1000) (hUl : U.length ≤ 10) (hKD : KD.length ≤ 1000)
    (lo : Nat) (w : World) (ao : Option Addr) (cap : Nat) (hC : IsCode w (.slice ao c.n cap) c) (vc vk vu : Value) (hin : KIn lo w vc vk vu LC KD U) (hlo : lo ≤ w.heap.size) (a : Int) (ha : tk c p 8 = a) (hca : a < 2) :
    Calls Try.prog 27 #[.slice ao c.n cap, .int .i64 p, .int .i64 level, .agg #[.int .i64 pa, .bool va, .int .i64 12, vc, vk, vu, .int .i64 (kids : Int), .string ⟨#[]⟩, .slice none 0 0, .slice none 0 0]] w fun e w' => ∃ u, e = .returned (.tuple #[u, .int .i64 ((kSeq c T (qD pa va kids LC KD U a) U.length (p + 1) kids).2 : Nat)]) ∧ Below w.heap.size w w' ∧ ∃ x0 L, TreeS lo w' u x0 U L ∧ (x0 :: L).map PV.p = (kSeq c T (qD pa va kids LC KD U a) U.length (p + 1) kids).1 := by
  obtain ⟨ac, cc, rfl⟩ : ∃ a b, vc = .slice a LC.length b := IsArr.slice hin.code
  obtain ⟨ak, ck, rfl⟩ : ∃ a b, vk = .slice a KD.length b := IsArr.slice hin.consts.1
  obtain ⟨au, cu, rfl⟩ := own_slice hin.ups
  obtain ⟨q, hq⟩ : ∃ q, q = qD pa va kids LC KD U a := ⟨_, rfl⟩
  rw [← hq]
  obtain ⟨K, hK0, hKstep, hKbd, hKend⟩ : ∃ K : Nat → List PD × Nat, K 0 = ([q], p + 1) ∧ (∀ i, K (i + 1) = ((K i).1 ++ (if 0 < U.length ∧ 0 < tk c (K i).2 3 ∧ i = 0 then fixU (T ((K i).2 + 1) (tk c (K i).2 3)).1 ((U.length : Int) - 1) else (T ((K i).2 + 1) (tk c (K i).2 3)).1), (T ((K i).2 + 1) (tk c (K i).2 3)).2)) ∧ (∀ i, i ≤ kids → (K i).2 ≤ p + 1 + 2001 * i ∧ (K i).1.length ≤ 1 + 100 * i) ∧ K = kSeq c T q U.length (p + 1) := ⟨kSeq c T q U.length (p + 1), rfl, fun _ => rfl, kSeq_bd c (level + 1) T q U.length p kids hp hk3 hT, rfl⟩
  have hba := tk_bd c p 8
  rw [ha] at hba
  have ha1 := hba.1
  have ha2 := hba.2 (by omega)
  clear hba
  have hsm := hC.small
  have hwl : IntKind.i64.wrap (level + 1) = level + 1 := by simp [IntKind.wrap, IntKind.bits, IntKind.signed]; omega
  replace hC : Hid (IsCode w (.slice ao c.n cap) c) := hC
  replace hin : Hid (KIn lo w (.slice ac LC.length cc) (.slice ak KD.length ck) (.slice au U.length cu) LC KD U) := hin
  replace ha : Hid (tk c p 8 = a) := ha
  replace hq : Hid (q = qD pa va kids LC KD U a) := hq
  replace hKstep : Hid _ := hKstep
  replace hKbd : Hid _ := hKbd
  replace hT : Hid _ := hT
  have K0 : Hid (KSt w pa va (.slice ac LC.length cc) (.slice ak KD.length ck) (.slice au U.length cu) (kids : Int) ⟨#[]⟩ (w.alloc (.cells #[.int .i64 pa, .bool va, .int .i64 12, .slice ac LC.length cc, .slice ak KD.length ck, .slice au U.length cu, .int .i64 (kids : Int), .string ⟨#[]⟩, .slice none 0 0, .slice none 0 0] 35)) (.slice none 0 0) [] (.slice none 0 0) []) :=
    ⟨RowL.new w [.int .i64 pa, .bool va, .int .i64 12, .slice ac LC.length cc, .slice ak KD.length ck, .slice au U.length cu, .int .i64 (kids : Int), .string ⟨#[]⟩, .slice none 0 0, .slice none 0 0] 35, World.ownsRow_nil _ _ _ _, World.ownsRow_nil _ _ _ _, (Below.refl _ _).alloc (Nat.le_refl _) _⟩
  go_enter Try.func27, Try.ntmps27
  go_wp2_with fail
  refine (l1Take_to c _ p p 8 _ rfl (hC.out.later K0.out.bel) (by omega) (by omega) ha.out).mono ?_
  rintro e w' ⟨rfl, rfl⟩
  have hca2 : (a == 2) = false := by simp; omega
  have hca3 : decide (a < 3) = true := by simp; omega
  generalize (w.alloc (.cells #[.int .i64 pa, .bool va, .int .i64 12, .slice ac LC.length cc, .slice ak KD.length ck, .slice au U.length cu, .int .i64 (kids : Int), .string ⟨#[]⟩, .slice none 0 0, .slice none 0 0] 35)) = y0 at K0 ⊢
  have hwa : IntKind.i64.wrap (97 + a) = 97 + a := by simp [IntKind.wrap, IntKind.bits, IntKind.signed]; omega
  go_wp2_with fail
  refine (l1Byte_any (97 + a) _ (by omega) (by omega)).mono ?_
  rintro e yb ⟨rfl, bb⟩
  have q7 := (K0.out.later bb).box.cell 7 rfl
  have f7 := (K0.out.later bb).box.frozen 7
  have hcat : (⟨#[102]⟩ : ByteArray) ++ strOfNums [97 + a] = (strOfNums [102, 97 + a]) := fCat a
  have K1 : Hid (KSt w pa va (.slice ac LC.length cc) (.slice ak KD.length ck) (.slice au U.length cu) (kids : Int) (strOfNums [102, 97 + a]) (yb.setCell ⟨w.heap.size, 7, none⟩ (.string (strOfNums [102, 97 + a]))) (.slice none 0 0) [] (.slice none 0 0) []) := (K0.out.later bb).named _
  have q7k := q7
  have hS0 := K1.out.tree hin.out hlo q (by rw [hq.out]; unfold qD; rw [if_pos (by omega), if_neg (by omega), if_neg (by omega)]) (by rw [strOfNums_size]; show 2 ≤ 100; omega) (by simp)
  rw [World.size_setCell] at hS0
  have hO0 : Hid (∃ L, OutI w lo ⟨q, .slice ac LC.length cc, .slice ak KD.length ck, .slice au U.length cu, .slice none 0 0, .slice none 0 0⟩ U [.int .i64 pa, .bool va, .int .i64 12, .slice ac LC.length cc, .slice ak KD.length ck, .slice au U.length cu, .int .i64 (kids : Int), .string (strOfNums [102, 97 + a]), .slice none 0 0, .slice none 0 0] (K 0).1 L (.slice (some ⟨yb.heap.size, 0, none⟩) 1 1) ((yb.setCell ⟨w.heap.size, 7, none⟩ (.string (strOfNums [102, 97 + a]))).alloc (.cells #[.int .i64 pa, .bool va, .int .i64 12, .slice ac LC.length cc, .slice ak KD.length ck, .slice au U.length cu, .int .i64 (kids : Int), .string (strOfNums [102, 97 + a]), .slice none 0 0, .slice none 0 0] 35))) :=
    ⟨[], hS0, by rw [hK0]; rfl, K1.out.box.alloc _, K1.out.bel.alloc K1.out.bel.size _, fun k hk => by have := K1.out.box.lt; simp [Value.ownBlock] at hk; (try rw [World.size_setCell] at this); omega⟩
  obtain ⟨e0, e1, e2, e3, e4, e5, e6, e7, e8, e9⟩ := (show _ ∧ _ ∧ _ ∧ _ ∧ _ ∧ _ ∧ _ ∧ _ ∧ _ ∧ _ from ⟨K1.out.box.cell 0 rfl, K1.out.box.cell 1 rfl, K1.out.box.cell 2 rfl, K1.out.box.cell 3 rfl, K1.out.box.cell 4 rfl, K1.out.box.cell 5 rfl, K1.out.box.cell 6 rfl, K1.out.box.cell 7 rfl, K1.out.box.cell 8 rfl, K1.out.box.cell 9 rfl⟩)
  go_wp2_with fail
  clear e0 e1 e2 e3 e4 e5 e6 e7 e8 e9 hS0 K1
  try simp only [hca2, hca3]
  generalize (yb.setCell ⟨w.heap.size, 7, none⟩ (.string (strOfNums [102, 97 + a]))).alloc (.cells #[.int .i64 pa, .bool va, .int .i64 12, .slice ac LC.length cc, .slice ak KD.length ck, .slice au U.length cu, .int .i64 (kids : Int), .string (strOfNums [102, 97 + a]), .slice none 0 0, .slice none 0 0] 35) = yy at hO0 ⊢
  obtain ⟨x0, hx0⟩ : ∃ x : PV, x = ⟨q, .slice ac LC.length cc, .slice ak KD.length ck, .slice au U.length cu, .slice none 0 0, .slice none 0 0⟩ := ⟨_, rfl⟩
  obtain ⟨bx, hbx⟩ : ∃ b : List Value, b = [.int .i64 pa, .bool va, .int .i64 12, .slice ac LC.length cc, .slice ak KD.length ck, .slice au U.length cu, .int .i64 (kids : Int), .string (strOfNums [102, 97 + a]), .slice none 0 0, .slice none 0 0] := ⟨_, rfl⟩
  rw [← hx0, ← hbx] at hO0
  have b5 : bx[5]? = some (.slice au U.length cu) := by rw [hbx]; rfl
  have b6 : bx[6]? = some (.int .i64 (kids : Int)) := by rw [hbx]; rfl
  have hx0u : Hid (∀ b, x0.a5.ownBlock = some b → b < w.heap.size) := fun b hb => by rw [hx0] at hb; exact (hin.out.ups.lt b hb).2
  clear hx0 hbx
  go_loopw [1, 11, 14, 15, 16, 17] (fun pv uv ov iv sv nv wr => ∃ i' : Nat, iv = .int .i64 (i' : Int) ∧ i' ≤ kids ∧ pv = .int .i64 (((K i').2 : Nat) : Int) ∧ Hid (∃ L, OutI w lo x0 U bx (K i').1 L ov wr))
    (fun _ _ _ iv _ _ _ => kids - (intOf iv).toNat)
  case atStart => exact ⟨0, rfl, by omega, by rw [hK0]; rfl, hO0.out⟩
  case round =>
    obtain ⟨i', rfl, hik, rfl, hTo⟩ := hrel
    obtain ⟨y1, hy1⟩ : ∃ x, x = wr := ⟨_, rfl⟩
    subst hy1
    obtain ⟨L, hO⟩ := hTo.out
    obtain ⟨ao', co', rfl⟩ := own_slice hO.tree.row
    have q6 := hO.box.cell 6 b6
    have hLp : Hid ((x0 :: L).map PV.p = (K i').1) := hO.data
    obtain ⟨kb1, kb2⟩ := hKbd.out i' hik
    have hL1 : L.length ≤ 400 := by have := congrArg List.length hO.data; simp at this; omega
    replace hO : Hid (OutI w lo x0 U bx (K i').1 L (.slice ao' (L.length + 1) co') y1) := hO
    by_cases hlt : i' < kids
    · have hii : (i' : Int) < (kids : Int) := by omega
      obtain ⟨P, hP⟩ : ∃ P : Nat, (K i').2 = P := ⟨_, rfl⟩
      obtain ⟨ups, hups⟩ : ∃ t, tk c P 3 = t := ⟨_, rfl⟩
      have hub := tk_bd c P 3
      rw [hups] at hub
      have hu1 := hub.1
      have hu2 : ups ≤ 2 := by have := hub.2 (by omega); omega
      have hKs := hKstep.out i'
      rw [hP, hups] at hKs
      have hKs2 : Hid ((K (i' + 1)).2 = (T (P + 1) ups).2) := by show _ = _; rw [hKs]
      replace hKs : Hid (K (i' + 1) = ((K i').1 ++ (if 0 < U.length ∧ 0 < ups ∧ i' = 0 then fixU (T (P + 1) ups).1 ((U.length : Int) - 1) else (T (P + 1) ups).1), (T (P + 1) ups).2)) := hKs
      rw [hP] at kb1 ⊢
      have hCy := hC.out.later hO.out.bel
      obtain ⟨tb1, tb2, hTree⟩ := hT.out (by omega) (P + 1) ups (by omega) hu1 hu2
      replace hTree := hTree y1 _ hCy
      rw [show ((P + 1 : Nat) : Int) = (P : Int) + 1 by simp] at hTree
      replace hTree : Hid _ := hTree
      replace hCy : Hid _ := hCy
      replace hups : Hid (tk c P 3 = ups) := hups
      clear hTo hub hP
      go_wp2_with fail
      refine (l1Take_to c _ P (P : Int) 3 _ rfl hCy.out (by omega) (by omega) hups.out).mono ?_
      rintro e w' ⟨rfl, rfl⟩
      have hx0l : Hid (∀ b, x0.a5.ownBlock = some b → b < y1.heap.size) := fun b hb => Nat.lt_of_lt_of_le (hx0u.out b hb) hO.out.bel.size
      go_wp2_with fail
      refine Calls.mono hTree.out ?_
      rintro e y2 ⟨u, rfl, b2, xs, Us, Ls, S2, hUl, hmap⟩
      obtain ⟨gs, cs, rfl, -, -⟩ := S2.row.form (by omega)
      have q5 := (hO.out.box.call b2).cell 5 b5
      have hlo2 : lo ≤ y1.heap.size := by have := hO.out.bel.size; omega
      have hLs : Ls.length ≤ 100 := by have := congrArg List.length hmap; simp at this; omega
      replace S2 : Hid (TreeS y1.heap.size y2 (.slice (some ⟨gs, 0, none⟩) (Ls.length + 1) cs) xs Us Ls) := S2
      replace hmap : Hid ((xs :: Ls).map PV.p = (T (P + 1) ups).1) := hmap
      clear hTree q6 hups hCy
      by_cases hU0 : 0 < U.length
      · by_cases hu0 : 0 < ups
        · by_cases hi0 : i' = 0
          · replace hi0 : i' ≤ 0 := by omega
            have hi0' : ((i' : Int) == 0) = true := by simp; omega
            have hwu : IntKind.i64.wrap ((U.length : Int) - 1) = (U.length : Int) - 1 := by simp [IntKind.wrap, IntKind.bits, IntKind.signed]; omega
            obtain ⟨gu, cu2, hxu, -, -⟩ := S2.out.ups.form (by omega)
            have cA : y2.drew.cell? ⟨gs, 5, none⟩ = some (.slice (some ⟨gu, 0, none⟩) Us.length cu2) := by
              show y2.cell? _ = _
              rw [S2.out.row.cellAt 5 (by omega)]
              show some xs.a5 = _
              rw [hxu]
            have cB : y2.drew.cell? ⟨w.heap.size, 5, none⟩ = some (.slice au U.length cu) := q5
            have hups2 := S2.out.ups
            rw [hxu] at hups2
            have f0 : y2.drew.frozen? ⟨gu, 0, none⟩ = false := hups2.frozenAt 0
            have f1 : y2.drew.frozen? ⟨gu, 1, none⟩ = false := hups2.frozenAt 1
            have f0' : y2.frozen? ⟨gu, 0, none⟩ = false := hups2.frozenAt 0
            have f1' : y2.frozen? ⟨gu, 1, none⟩ = false := hups2.frozenAt 1
            have g0 : ∃ z, y2.drew.cell? ⟨gu, 0, none⟩ = some z := by
              have := hups2.cellAt 0 (by omega)
              rw [List.getElem?_eq_getElem (by rw [upCells_len]; omega)] at this
              exact ⟨_, this⟩
            have g1 : ∃ z, y2.drew.cell? ⟨gu, 1, none⟩ = some z := by
              have := hups2.cellAt 1 (by omega)
              rw [List.getElem?_eq_getElem (by rw [upCells_len]; omega)] at this
              exact ⟨_, this⟩
            obtain ⟨z0, g0⟩ := g0
            obtain ⟨z1, g1⟩ := g1
            have g0' : y2.cell? ⟨gu, 0, none⟩ = some z0 := g0
            have g1' : y2.cell? ⟨gu, 1, none⟩ = some z1 := g1
            clear hups2
            go_wp2_with fail
            refine wp_region_held_drew (S := fun _ => True) (by kernel_rfl) trivial (fun hH => ?_)
            refine take_dst 0 96 (.slice (some ⟨gs, 0, none⟩) (Ls.length + 1) cs) rfl (by kernel_rfl) (by kernel_rfl) (by kernel_rfl) (fun _ _ _ h => h) (Or.inl ⟨by rfl, by intro wv hSv; (try dsimp only at hSv); go_simp⟩) trivial rfl ?_
            try simp only [Act.put, List.setIfInBounds_toArray, List.set_cons_zero, List.set_cons_succ]
            refine take_dst 1 97 (.pointer (some ⟨gs, 0, none⟩)) rfl (by kernel_rfl) (by kernel_rfl) (by kernel_rfl) (fun _ _ _ h => h) (Or.inl ⟨by rfl, by intro wv hSv; (try dsimp only at hSv); go_simp⟩) trivial rfl ?_
            try simp only [Act.put, List.setIfInBounds_toArray, List.set_cons_zero, List.set_cons_succ]
            refine take_dst 2 98 (.pointer (some ⟨gs, 5, none⟩)) rfl (by kernel_rfl) (by kernel_rfl) (by kernel_rfl) (fun _ _ _ h => h) (Or.inl ⟨by rfl, by intro wv hSv; (try dsimp only at hSv); go_simp⟩) trivial rfl ?_
            try simp only [Act.put, List.setIfInBounds_toArray, List.set_cons_zero, List.set_cons_succ]
            refine take_dst 4 100 (.pointer (some ⟨w.heap.size, 5, none⟩)) rfl (by kernel_rfl) (by kernel_rfl) (by kernel_rfl) (fun _ _ _ h => h) (Or.inl ⟨by rfl, by intro wv hSv; (try dsimp only at hSv); go_simp⟩) trivial rfl ?_
            try simp only [Act.put, List.setIfInBounds_toArray, List.set_cons_zero, List.set_cons_succ]
            refine wpAnyH_ready (rs := [3, 5]) (by kernel_rfl) (by simp) ?_
            refine AllReadyH.cons rfl (fun KK hKK => ?_) (AllReadyH.cons rfl (fun KK hKK => ?_) AllReadyH.nil)
            · go_simp
              refine hKK.out _ _ trivial (fun _ => ?_)
              clear hKK KK
              try simp only [Act.put, List.setIfInBounds_toArray, List.set_cons_zero, List.set_cons_succ]
              refine wpAnyH_ready (rs := [5]) (by kernel_rfl) (by simp) ?_
              refine AllReadyH.cons rfl (fun KK hKK => ?_) AllReadyH.nil
              go_simp
              refine hKK.out _ _ trivial (fun _ => ?_)
              clear hKK KK
              try simp only [Act.put, List.setIfInBounds_toArray, List.set_cons_zero, List.set_cons_succ]
              refine take_dst 6 102 (.int .i64 (U.length : Int)) rfl (by kernel_rfl) (by kernel_rfl) (by kernel_rfl) (fun _ _ _ h => h) (Or.inl ⟨by rfl, by intro wv hSv; (try dsimp only at hSv); go_simp⟩) trivial rfl ?_
              try simp only [Act.put, List.setIfInBounds_toArray, List.set_cons_zero, List.set_cons_succ]
              refine take_dst 7 103 (.int .i64 ((U.length : Int) - 1)) rfl (by kernel_rfl) (by kernel_rfl) (by kernel_rfl) (fun _ _ _ h => h) (Or.inl ⟨by rfl, by intro wv hSv; (try dsimp only at hSv); go_simp⟩) trivial rfl ?_
              try simp only [Act.put, List.setIfInBounds_toArray, List.set_cons_zero, List.set_cons_succ]
              refine take_dst 8 104 (.agg #[.bool false, .int .i64 ((U.length : Int) - 1)]) rfl (by kernel_rfl) (by kernel_rfl) (by kernel_rfl) (fun _ _ _ h => h) (Or.inl ⟨by rfl, by intro wv hSv; (try dsimp only at hSv); go_simp⟩) trivial rfl ?_
              try simp only [Act.put, List.setIfInBounds_toArray, List.set_cons_zero, List.set_cons_succ]
              refine take_dst 9 105 (.pointer (some ⟨gu, 0, none⟩)) rfl (by kernel_rfl) (by kernel_rfl) (by kernel_rfl) (fun _ _ _ h => h) (Or.inl ⟨by rfl, by intro wv hSv; (try dsimp only at hSv); go_simp⟩) trivial rfl ?_
              try simp only [Act.put, List.setIfInBounds_toArray, List.set_cons_zero, List.set_cons_succ]
              refine wpAnyH_ready (rs := [10]) (by kernel_rfl) (by simp) ?_
              refine AllReadyH.cons rfl (fun KK hKK => ?_) AllReadyH.nil
              go_simp
              refine hKK.out _ _ trivial (fun _ => ?_)
              clear hKK KK
              try simp only [Act.put, List.setIfInBounds_toArray, List.set_cons_zero, List.set_cons_succ]
              refine wpAnyH_done (by kernel_rfl) ?_ _
              have hgu := S2.out.ups.lt gu (by rw [hxu]; rfl)
              have S3 : Hid (TreeS y1.heap.size ((y2.setCell ⟨gu, 0, none⟩ (.bool false)).setCell ⟨gu, 1, none⟩ (.int .i64 ((U.length : Int) - 1))).drew (.slice (some ⟨gs, 0, none⟩) (Ls.length + 1) cs) { xs with p := { xs.p with ups := slSet xs.p.ups 0 ⟨false, (U.length : Int) - 1⟩ } } (Us.set 0 ⟨false, (U.length : Int) - 1⟩) Ls) := (S2.out.setU hxu (by omega) _).later (Below.refl _ _).drew
              have hI : Hid (InI w lo x0 U bx y1.heap.size ((y2.setCell ⟨gu, 0, none⟩ (.bool false)).setCell ⟨gu, 1, none⟩ (.int .i64 ((U.length : Int) - 1))).drew L (.slice ao' (L.length + 1) co') ((y2.setCell ⟨gu, 0, none⟩ (.bool false)).setCell ⟨gu, 1, none⟩ (.int .i64 ((U.length : Int) - 1))).drew) := by
                refine hO.out.start b2 (fun b hb => ?_) ?_ ?_
                · show ((y2.setCell ⟨gu, 0, none⟩ (.bool false)).setCell ⟨gu, 1, none⟩ (.int .i64 ((U.length : Int) - 1))).heap[b]? = _
                  rw [Below.heap_setCell _ _ _ _ (by show b ≠ gu; omega), Below.heap_setCell _ _ _ _ (by show b ≠ gu; omega)]
                · have hws := hO.out.bel.size
                  exact (((hO.out.bel.trans (b2.mono hws)).setCell (p := ⟨gu, 0, none⟩) (by show w.heap.size ≤ gu; omega) _).setCell (p := ⟨gu, 1, none⟩) (by show w.heap.size ≤ gu; omega) _).drew
                · show y2.heap.size ≤ ((y2.setCell ⟨gu, 0, none⟩ (.bool false)).setCell ⟨gu, 1, none⟩ (.int .i64 ((U.length : Int) - 1))).heap.size
                  rw [World.size_setCell, World.size_setCell]
                  exact Nat.le_refl _
              generalize ((y2.setCell ⟨gu, 0, none⟩ (.bool false)).setCell ⟨gu, 1, none⟩ (.int .i64 ((U.length : Int) - 1))).drew = y3 at S3 hI ⊢
              obtain ⟨X, hX⟩ : ∃ X : List PV, X = { xs with p := { xs.p with ups := slSet xs.p.ups 0 ⟨false, (U.length : Int) - 1⟩ } } :: Ls := ⟨_, rfl⟩
              have hXl : X.length = Ls.length + 1 := by rw [hX]; rfl
              have hKs1 : Hid ((K (i' + 1)).1 = (K i').1 ++ fixU (T (P + 1) ups).1 ((U.length : Int) - 1)) := by
                show (K (i' + 1)).1 = _
                rw [hKs.out, if_pos ⟨hU0, hu0, by omega⟩]
              have hXp : Hid (X.map PV.p = fixU (T (P + 1) ups).1 ((U.length : Int) - 1)) := by show X.map PV.p = _; rw [hX, ← hmap.out]; rfl
              have row3 : Hid (y3.ownsRow y1.heap.size 35 10 (.slice (some ⟨gs, 0, none⟩) (Ls.length + 1) cs) (Ls.length + 1) (pvCells X)) := by show World.ownsRow _ _ _ _ _ _ _; rw [hX]; exact S3.out.row
              have all3 : Hid (∀ x ∈ X, IsProto (fun b => y1.heap.size ≤ b ∧ b < y3.heap.size) y3 x.a3 x.a4 x.a5 x.a8 x.a9 x.p) := by show ∀ x ∈ X, _; rw [hX]; exact S3.out.all
              clear hX S2 S3 hKs hmap cA cB f0 f1 f0' f1' g0 g1 g0' g1' hgu hH q5
              go_wp2_with fail
              have hI0 : Hid (InI w lo x0 U bx y1.heap.size y3 (L ++ X.take 0) (.slice ao' (L.length + 1) co') y3) := by
                show InI w lo x0 U bx y1.heap.size y3 (L ++ X.take 0) _ y3
                rw [List.take_zero, List.append_nil]
                exact hI.out
              clear hI
              go_loopw [14, 18] (fun ov jv wr => ∃ j' : Nat, jv = .int .i64 (j' : Int) ∧ j' ≤ Ls.length + 1 ∧ Hid (InI w lo x0 U bx y1.heap.size y3 (L ++ X.take j') ov wr))
                (fun _ jv _ => Ls.length + 1 - (intOf jv).toNat)
              case atStart => exact ⟨0, rfl, by omega, hI0.out⟩
              case round =>
                obtain ⟨j', rfl, hjn, hU⟩ := hrel
                obtain ⟨wz, hwz⟩ : ∃ x, x = wr := ⟨_, rfl⟩
                subst hwz
                obtain ⟨ao2, co2, rfl⟩ := own_slice hU.out.tree.row
                by_cases hj : j' < Ls.length + 1
                · have hjX : j' < X.length := by omega
                  have hjj : (j' : Int) < ((Ls.length : Int) + 1) := by omega
                  obtain ⟨x, hx⟩ : ∃ x, X[j']'hjX = x := ⟨_, rfl⟩
                  have hxm : x ∈ X := hx ▸ List.getElem_mem hjX
                  have htk : X.take (j' + 1) = X.take j' ++ [x] := by rw [List.take_add_one]; simp [hjX, hx]
                  have hpx := all3.out x hxm
                  have hcx : ∀ k, k < 10 → wz.cell? ⟨gs, j' * 10 + k, none⟩ = x.cells[k]? := fun k hk => by
                    have hgs := row3.out.lt gs rfl
                    rw [World.cell?_of_block (w := y3) (hU.out.keep gs hgs.1 hgs.2).1, row3.out.cellAt _ (by omega)]
                    exact pvCells_get X j' x (by rw [List.getElem?_eq_getElem hjX, hx]) k hk
                  have hpH : Hid (IsProto (fun b => y1.heap.size ≤ b ∧ b < y3.heap.size) y3 x.a3 x.a4 x.a5 x.a8 x.a9 x.p) := hpx
                  obtain ⟨⟨params, vararg, regs, code, consts, ups', kids', name, lines, upNames⟩, a3, a4, a5, a8, a9⟩ := x
                  obtain ⟨o3, c3, rfl⟩ : ∃ o c, a3 = .slice o code.n c := IsArr.slice hpx.code
                  obtain ⟨o4, c4, rfl⟩ : ∃ o c, a4 = .slice o consts.n c := IsArr.slice hpx.consts.1
                  obtain ⟨o5, c5, rfl⟩ : ∃ o c, a5 = .slice o ups'.n c := IsArr.slice hpx.ups
                  obtain ⟨o8, c8, rfl⟩ : ∃ o c, a8 = .slice o lines.n c := IsArr.slice hpx.lines
                  obtain ⟨o9, c9, rfl⟩ : ∃ o c, a9 = .slice o upNames.n c := IsArr.slice hpx.upNames.1
                  have e0 := hcx 0 (by omega)
                  have e1 := hcx 1 (by omega)
                  have e2 := hcx 2 (by omega)
                  have e3 := hcx 3 (by omega)
                  have e4 := hcx 4 (by omega)
                  have e5 := hcx 5 (by omega)
                  have e6 := hcx 6 (by omega)
                  have e7 := hcx 7 (by omega)
                  have e8 := hcx 8 (by omega)
                  have e9 := hcx 9 (by omega)
                  simp only [PV.cells, List.getElem?_cons_zero, List.getElem?_cons_succ, Nat.add_zero] at e0 e1 e2 e3 e4 e5 e6 e7 e8 e9
                  replace htk : Hid _ := htk
                  clear hcx hpx hxm hx
                  obtain ⟨i0, hi, hz0, hz1, hz2⟩ := info_parts infoPro
                  have hlen : (L ++ X.take j').length ≤ 1200 := by rw [List.length_append, List.length_take]; omega
                  obtain ⟨L1, hL1⟩ : ∃ L1, L1 = L ++ X.take j' := ⟨_, rfl⟩
                  rw [← hL1] at hU hlen ⊢
                  replace hL1 : Hid _ := hL1
                  go_wp2_with (at_builtin; refine wpList_append_own_at _ rfl (.tmp 112) (.tmp 117) 23 rfl lo 35 i0 (.agg #[.int .i64 0, .bool false, .int .i64 0, .slice none 0 0, .slice none 0 0, .slice none 0 0, .int .i64 0, .string ⟨#[]⟩, .slice none 0 0, .slice none 0 0]) 10 168 Try.underlying23 hi hz0 hz1 hz2 rfl (by decide) (.slice ao2 (L1.length + 1) co2) (L1.length + 1) _ rfl (hU.out.tree.row.alloc _) ⟨wz.heap.size, 0, none⟩ 1 1 [.int .i64 params, .bool vararg, .int .i64 regs, .slice o3 code.n c3, .slice o4 consts.n c4, .slice o5 ups'.n c5, .int .i64 kids', .string name, .slice o8 lines.n c8, .slice o9 upNames.n c9] rfl rfl ?s1x1 ?s2x1 ?s3x1 ?s4x1 ?s5x1 ?_)
                  case s2x1 => exact ⟨rfl, rfl, rfl, rfl, rfl, rfl, rfl, rfl, rfl, rfl⟩
                  case s3x1 => simp only [maxLen]; omega
                  case s4x1 => omega
                  case s5x1 => have := hU.out.bel.size; omega
                  intro v' w' hown hg _ hat
                  have T1 : Hid (InI w lo x0 U bx y1.heap.size y3 (L ++ X.take (j' + 1)) v' w') := by
                    have := hU.out.step (x := ⟨⟨params, vararg, regs, code, consts, ups', kids', name, lines, upNames⟩, .slice o3 code.n c3, .slice o4 consts.n c4, .slice o5 ups'.n c5, .slice o8 lines.n c8, .slice o9 upNames.n c9⟩) (v' := v') (w' := w') (by omega) hx0l.out hpH.out hown hg (by rw [World.size_alloc]; exact hat)
                    rw [hL1.out, List.append_assoc, ← htk.out] at this
                    exact this
                  clear hown hg hat hi hz0 hz1 hz2 hpH e0 e1 e2 e3 e4 e5 e6 e7 e8 e9
                  go_wp2_with fail
                  go_roundw
                  case rel => exact ⟨j' + 1, by go_num, by omega, T1.out⟩
                  case measure => simp [intOf]; omega
                · obtain rfl : j' = Ls.length + 1 := by omega
                  have hU2 := hU.out
                  have htl : X.take (Ls.length + 1) = X := List.take_of_length_le (by omega)
                  have T1 : Hid (∃ L', OutI w lo x0 U bx (K (i' + 1)).1 L' (.slice ao2 ((L ++ X.take (Ls.length + 1)).length + 1) co2) wz) := by
                    show ∃ L', OutI w lo x0 U bx (K (i' + 1)).1 L' (.slice ao2 ((L ++ X.take (Ls.length + 1)).length + 1) co2) wz
                    rw [htl] at hU2 ⊢
                    exact ⟨L ++ X, hU2.tree, by rw [← List.cons_append, List.map_append, hLp.out, hXp.out]; exact hKs1.out.symm, hU2.box, hU2.bel, hU2.ne⟩
                  clear hU hU2 htl
                  go_wp2_with fail
                  go_roundw
                  case rel => exact ⟨i' + 1, by go_num, by omega, by rw [hKs2.out], T1.out⟩
                  case measure => simp [intOf]; omega
            · go_simp
              refine hKK.out _ _ trivial (fun _ => ?_)
              clear hKK KK
              try simp only [Act.put, List.setIfInBounds_toArray, List.set_cons_zero, List.set_cons_succ]
              refine take_dst 6 102 (.int .i64 (U.length : Int)) rfl (by kernel_rfl) (by kernel_rfl) (by kernel_rfl) (fun _ _ _ h => h) (Or.inl ⟨by rfl, by intro wv hSv; (try dsimp only at hSv); go_simp⟩) trivial rfl ?_
              try simp only [Act.put, List.setIfInBounds_toArray, List.set_cons_zero, List.set_cons_succ]
              refine take_dst 7 103 (.int .i64 ((U.length : Int) - 1)) rfl (by kernel_rfl) (by kernel_rfl) (by kernel_rfl) (fun _ _ _ h => h) (Or.inl ⟨by rfl, by intro wv hSv; (try dsimp only at hSv); go_simp⟩) trivial rfl ?_
              try simp only [Act.put, List.setIfInBounds_toArray, List.set_cons_zero, List.set_cons_succ]
              refine take_dst 8 104 (.agg #[.bool false, .int .i64 ((U.length : Int) - 1)]) rfl (by kernel_rfl) (by kernel_rfl) (by kernel_rfl) (fun _ _ _ h => h) (Or.inl ⟨by rfl, by intro wv hSv; (try dsimp only at hSv); go_simp⟩) trivial rfl ?_
              try simp only [Act.put, List.setIfInBounds_toArray, List.set_cons_zero, List.set_cons_succ]
              refine wpAnyH_ready (rs := [3]) (by kernel_rfl) (by simp) ?_
              refine AllReadyH.cons rfl (fun KK hKK => ?_) AllReadyH.nil
              go_simp
              refine hKK.out _ _ trivial (fun _ => ?_)
              clear hKK KK
              try simp only [Act.put, List.setIfInBounds_toArray, List.set_cons_zero, List.set_cons_succ]
              refine take_dst 9 105 (.pointer (some ⟨gu, 0, none⟩)) rfl (by kernel_rfl) (by kernel_rfl) (by kernel_rfl) (fun _ _ _ h => h) (Or.inl ⟨by rfl, by intro wv hSv; (try dsimp only at hSv); go_simp⟩) trivial rfl ?_
              try simp only [Act.put, List.setIfInBounds_toArray, List.set_cons_zero, List.set_cons_succ]
              refine wpAnyH_ready (rs := [10]) (by kernel_rfl) (by simp) ?_
              refine AllReadyH.cons rfl (fun KK hKK => ?_) AllReadyH.nil
              go_simp
              refine hKK.out _ _ trivial (fun _ => ?_)
              clear hKK KK
              try simp only [Act.put, List.setIfInBounds_toArray, List.set_cons_zero, List.set_cons_succ]
              refine wpAnyH_done (by kernel_rfl) ?_ _
              have hgu := S2.out.ups.lt gu (by rw [hxu]; rfl)
              have S3 : Hid (TreeS y1.heap.size ((y2.setCell ⟨gu, 0, none⟩ (.bool false)).setCell ⟨gu, 1, none⟩ (.int .i64 ((U.length : Int) - 1))).drew (.slice (some ⟨gs, 0, none⟩) (Ls.length + 1) cs) { xs with p := { xs.p with ups := slSet xs.p.ups 0 ⟨false, (U.length : Int) - 1⟩ } } (Us.set 0 ⟨false, (U.length : Int) - 1⟩) Ls) := (S2.out.setU hxu (by omega) _).later (Below.refl _ _).drew
              have hI : Hid (InI w lo x0 U bx y1.heap.size ((y2.setCell ⟨gu, 0, none⟩ (.bool false)).setCell ⟨gu, 1, none⟩ (.int .i64 ((U.length : Int) - 1))).drew L (.slice ao' (L.length + 1) co') ((y2.setCell ⟨gu, 0, none⟩ (.bool false)).setCell ⟨gu, 1, none⟩ (.int .i64 ((U.length : Int) - 1))).drew) := by
                refine hO.out.start b2 (fun b hb => ?_) ?_ ?_
                · show ((y2.setCell ⟨gu, 0, none⟩ (.bool false)).setCell ⟨gu, 1, none⟩ (.int .i64 ((U.length : Int) - 1))).heap[b]? = _
                  rw [Below.heap_setCell _ _ _ _ (by show b ≠ gu; omega), Below.heap_setCell _ _ _ _ (by show b ≠ gu; omega)]
                · have hws := hO.out.bel.size
                  exact (((hO.out.bel.trans (b2.mono hws)).setCell (p := ⟨gu, 0, none⟩) (by show w.heap.size ≤ gu; omega) _).setCell (p := ⟨gu, 1, none⟩) (by show w.heap.size ≤ gu; omega) _).drew
                · show y2.heap.size ≤ ((y2.setCell ⟨gu, 0, none⟩ (.bool false)).setCell ⟨gu, 1, none⟩ (.int .i64 ((U.length : Int) - 1))).heap.size
                  rw [World.size_setCell, World.size_setCell]
                  exact Nat.le_refl _
              generalize ((y2.setCell ⟨gu, 0, none⟩ (.bool false)).setCell ⟨gu, 1, none⟩ (.int .i64 ((U.length : Int) - 1))).drew = y3 at S3 hI ⊢
              obtain ⟨X, hX⟩ : ∃ X : List PV, X = { xs with p := { xs.p with ups := slSet xs.p.ups 0 ⟨false, (U.length : Int) - 1⟩ } } :: Ls := ⟨_, rfl⟩
              have hXl : X.length = Ls.length + 1 := by rw [hX]; rfl
              have hKs1 : Hid ((K (i' + 1)).1 = (K i').1 ++ fixU (T (P + 1) ups).1 ((U.length : Int) - 1)) := by
                show (K (i' + 1)).1 = _
                rw [hKs.out, if_pos ⟨hU0, hu0, by omega⟩]
              have hXp : Hid (X.map PV.p = fixU (T (P + 1) ups).1 ((U.length : Int) - 1)) := by show X.map PV.p = _; rw [hX, ← hmap.out]; rfl
              have row3 : Hid (y3.ownsRow y1.heap.size 35 10 (.slice (some ⟨gs, 0, none⟩) (Ls.length + 1) cs) (Ls.length + 1) (pvCells X)) := by show World.ownsRow _ _ _ _ _ _ _; rw [hX]; exact S3.out.row
              have all3 : Hid (∀ x ∈ X, IsProto (fun b => y1.heap.size ≤ b ∧ b < y3.heap.size) y3 x.a3 x.a4 x.a5 x.a8 x.a9 x.p) := by show ∀ x ∈ X, _; rw [hX]; exact S3.out.all
              clear hX S2 S3 hKs hmap cA cB f0 f1 f0' f1' g0 g1 g0' g1' hgu hH q5
              go_wp2_with fail
              have hI0 : Hid (InI w lo x0 U bx y1.heap.size y3 (L ++ X.take 0) (.slice ao' (L.length + 1) co') y3) := by
                show InI w lo x0 U bx y1.heap.size y3 (L ++ X.take 0) _ y3
                rw [List.take_zero, List.append_nil]
                exact hI.out
              clear hI
              go_loopw [14, 18] (fun ov jv wr => ∃ j' : Nat, jv = .int .i64 (j' : Int) ∧ j' ≤ Ls.length + 1 ∧ Hid (InI w lo x0 U bx y1.heap.size y3 (L ++ X.take j') ov wr))
                (fun _ jv _ => Ls.length + 1 - (intOf jv).toNat)
              case atStart => exact ⟨0, rfl, by omega, hI0.out⟩
              case round =>
                obtain ⟨j', rfl, hjn, hU⟩ := hrel
                obtain ⟨wz, hwz⟩ : ∃ x, x = wr := ⟨_, rfl⟩
                subst hwz
                obtain ⟨ao2, co2, rfl⟩ := own_slice hU.out.tree.row
                by_cases hj : j' < Ls.length + 1
                · have hjX : j' < X.length := by omega
                  have hjj : (j' : Int) < ((Ls.length : Int) + 1) := by omega
                  obtain ⟨x, hx⟩ : ∃ x, X[j']'hjX = x := ⟨_, rfl⟩
                  have hxm : x ∈ X := hx ▸ List.getElem_mem hjX
                  have htk : X.take (j' + 1) = X.take j' ++ [x] := by rw [List.take_add_one]; simp [hjX, hx]
                  have hpx := all3.out x hxm
                  have hcx : ∀ k, k < 10 → wz.cell? ⟨gs, j' * 10 + k, none⟩ = x.cells[k]? := fun k hk => by
                    have hgs := row3.out.lt gs rfl
                    rw [World.cell?_of_block (w := y3) (hU.out.keep gs hgs.1 hgs.2).1, row3.out.cellAt _ (by omega)]
                    exact pvCells_get X j' x (by rw [List.getElem?_eq_getElem hjX, hx]) k hk
                  have hpH : Hid (IsProto (fun b => y1.heap.size ≤ b ∧ b < y3.heap.size) y3 x.a3 x.a4 x.a5 x.a8 x.a9 x.p) := hpx
                  obtain ⟨⟨params, vararg, regs, code, consts, ups', kids', name, lines, upNames⟩, a3, a4, a5, a8, a9⟩ := x
                  obtain ⟨o3, c3, rfl⟩ : ∃ o c, a3 = .slice o code.n c := IsArr.slice hpx.code
                  obtain ⟨o4, c4, rfl⟩ : ∃ o c, a4 = .slice o consts.n c := IsArr.slice hpx.consts.1
                  obtain ⟨o5, c5, rfl⟩ : ∃ o c, a5 = .slice o ups'.n c := IsArr.slice hpx.ups
                  obtain ⟨o8, c8, rfl⟩ : ∃ o c, a8 = .slice o lines.n c := IsArr.slice hpx.lines
                  obtain ⟨o9, c9, rfl⟩ : ∃ o c, a9 = .slice o upNames.n c := IsArr.slice hpx.upNames.1
                  have e0 := hcx 0 (by omega)
                  have e1 := hcx 1 (by omega)
                  have e2 := hcx 2 (by omega)
                  have e3 := hcx 3 (by omega)
                  have e4 := hcx 4 (by omega)
                  have e5 := hcx 5 (by omega)
                  have e6 := hcx 6 (by omega)
                  have e7 := hcx 7 (by omega)
                  have e8 := hcx 8 (by omega)
                  have e9 := hcx 9 (by omega)
                  simp only [PV.cells, List.getElem?_cons_zero, List.getElem?_cons_succ, Nat.add_zero] at e0 e1 e2 e3 e4 e5 e6 e7 e8 e9
                  replace htk : Hid _ := htk
                  clear hcx hpx hxm hx
                  obtain ⟨i0, hi, hz0, hz1, hz2⟩ := info_parts infoPro
                  have hlen : (L ++ X.take j').length ≤ 1200 := by rw [List.length_append, List.length_take]; omega
                  obtain ⟨L1, hL1⟩ : ∃ L1, L1 = L ++ X.take j' := ⟨_, rfl⟩
                  rw [← hL1] at hU hlen ⊢
                  replace hL1 : Hid _ := hL1
                  go_wp2_with (at_builtin; refine wpList_append_own_at _ rfl (.tmp 112) (.tmp 117) 23 rfl lo 35 i0 (.agg #[.int .i64 0, .bool false, .int .i64 0, .slice none 0 0, .slice none 0 0, .slice none 0 0, .int .i64 0, .string ⟨#[]⟩, .slice none 0 0, .slice none 0 0]) 10 168 Try.underlying23 hi hz0 hz1 hz2 rfl (by decide) (.slice ao2 (L1.length + 1) co2) (L1.length + 1) _ rfl (hU.out.tree.row.alloc _) ⟨wz.heap.size, 0, none⟩ 1 1 [.int .i64 params, .bool vararg, .int .i64 regs, .slice o3 code.n c3, .slice o4 consts.n c4, .slice o5 ups'.n c5, .int .i64 kids', .string name, .slice o8 lines.n c8, .slice o9 upNames.n c9] rfl rfl ?s1x2 ?s2x2 ?s3x2 ?s4x2 ?s5x2 ?_)
                  case s2x2 => exact ⟨rfl, rfl, rfl, rfl, rfl, rfl, rfl, rfl, rfl, rfl⟩
                  case s3x2 => simp only [maxLen]; omega
                  case s4x2 => omega
                  case s5x2 => have := hU.out.bel.size; omega
                  intro v' w' hown hg _ hat
                  have T1 : Hid (InI w lo x0 U bx y1.heap.size y3 (L ++ X.take (j' + 1)) v' w') := by
                    have := hU.out.step (x := ⟨⟨params, vararg, regs, code, consts, ups', kids', name, lines, upNames⟩, .slice o3 code.n c3, .slice o4 consts.n c4, .slice o5 ups'.n c5, .slice o8 lines.n c8, .slice o9 upNames.n c9⟩) (v' := v') (w' := w') (by omega) hx0l.out hpH.out hown hg (by rw [World.size_alloc]; exact hat)
                    rw [hL1.out, List.append_assoc, ← htk.out] at this
                    exact this
                  clear hown hg hat hi hz0 hz1 hz2 hpH e0 e1 e2 e3 e4 e5 e6 e7 e8 e9
                  go_wp2_with fail
                  go_roundw
                  case rel => exact ⟨j' + 1, by go_num, by omega, T1.out⟩
                  case measure => simp [intOf]; omega
                · obtain rfl : j' = Ls.length + 1 := by omega
                  have hU2 := hU.out
                  have htl : X.take (Ls.length + 1) = X := List.take_of_length_le (by omega)
                  have T1 : Hid (∃ L', OutI w lo x0 U bx (K (i' + 1)).1 L' (.slice ao2 ((L ++ X.take (Ls.length + 1)).length + 1) co2) wz) := by
                    show ∃ L', OutI w lo x0 U bx (K (i' + 1)).1 L' (.slice ao2 ((L ++ X.take (Ls.length + 1)).length + 1) co2) wz
                    rw [htl] at hU2 ⊢
                    exact ⟨L ++ X, hU2.tree, by rw [← List.cons_append, List.map_append, hLp.out, hXp.out]; exact hKs1.out.symm, hU2.box, hU2.bel, hU2.ne⟩
                  clear hU hU2 htl
                  go_wp2_with fail
                  go_roundw
                  case rel => exact ⟨i' + 1, by go_num, by omega, by rw [hKs2.out], T1.out⟩
                  case measure => simp [intOf]; omega
          · have hi0' : ((i' : Int) == 0) = false := by simp; omega
            have hI : Hid (InI w lo x0 U bx y1.heap.size y2 L (.slice ao' (L.length + 1) co') y2) := hO.out.start b2 (fun _ _ => rfl) (hO.out.bel.trans (b2.mono hO.out.bel.size)) (Nat.le_refl _)
            obtain ⟨X, hX⟩ : ∃ X : List PV, X = xs :: Ls := ⟨_, rfl⟩
            have hXl : X.length = Ls.length + 1 := by rw [hX]; rfl
            have hKs1 : Hid ((K (i' + 1)).1 = (K i').1 ++ (T (P + 1) ups).1) := by
              show (K (i' + 1)).1 = _
              rw [hKs.out, if_neg (by omega)]
            have hXp : Hid (X.map PV.p = (T (P + 1) ups).1) := by show X.map PV.p = _; rw [hX]; exact hmap.out
            have row3 : Hid (y2.ownsRow y1.heap.size 35 10 (.slice (some ⟨gs, 0, none⟩) (Ls.length + 1) cs) (Ls.length + 1) (pvCells X)) := by show World.ownsRow _ _ _ _ _ _ _; rw [hX]; exact S2.out.row
            have all3 : Hid (∀ x ∈ X, IsProto (fun b => y1.heap.size ≤ b ∧ b < y2.heap.size) y2 x.a3 x.a4 x.a5 x.a8 x.a9 x.p) := by show ∀ x ∈ X, _; rw [hX]; exact S2.out.all
            clear hX S2 hKs hmap
            obtain ⟨y3, hy3⟩ : ∃ y, y = y2 := ⟨_, rfl⟩
            subst hy3
            go_wp2_with fail
            have hI0 : Hid (InI w lo x0 U bx y1.heap.size y3 (L ++ X.take 0) (.slice ao' (L.length + 1) co') y3) := by
              show InI w lo x0 U bx y1.heap.size y3 (L ++ X.take 0) _ y3
              rw [List.take_zero, List.append_nil]
              exact hI.out
            clear hI
            go_loopw [14, 18] (fun ov jv wr => ∃ j' : Nat, jv = .int .i64 (j' : Int) ∧ j' ≤ Ls.length + 1 ∧ Hid (InI w lo x0 U bx y1.heap.size y3 (L ++ X.take j') ov wr))
              (fun _ jv _ => Ls.length + 1 - (intOf jv).toNat)
            case atStart => exact ⟨0, rfl, by omega, hI0.out⟩
            case round =>
              obtain ⟨j', rfl, hjn, hU⟩ := hrel
              obtain ⟨wz, hwz⟩ : ∃ x, x = wr := ⟨_, rfl⟩
              subst hwz
              obtain ⟨ao2, co2, rfl⟩ := own_slice hU.out.tree.row
              by_cases hj : j' < Ls.length + 1
              · have hjX : j' < X.length := by omega
                have hjj : (j' : Int) < ((Ls.length : Int) + 1) := by omega
                obtain ⟨x, hx⟩ : ∃ x, X[j']'hjX = x := ⟨_, rfl⟩
                have hxm : x ∈ X := hx ▸ List.getElem_mem hjX
                have htk : X.take (j' + 1) = X.take j' ++ [x] := by rw [List.take_add_one]; simp [hjX, hx]
                have hpx := all3.out x hxm
                have hcx : ∀ k, k < 10 → wz.cell? ⟨gs, j' * 10 + k, none⟩ = x.cells[k]? := fun k hk => by
                  have hgs := row3.out.lt gs rfl
                  rw [World.cell?_of_block (w := y3) (hU.out.keep gs hgs.1 hgs.2).1, row3.out.cellAt _ (by omega)]
                  exact pvCells_get X j' x (by rw [List.getElem?_eq_getElem hjX, hx]) k hk
                have hpH : Hid (IsProto (fun b => y1.heap.size ≤ b ∧ b < y3.heap.size) y3 x.a3 x.a4 x.a5 x.a8 x.a9 x.p) := hpx
                obtain ⟨⟨params, vararg, regs, code, consts, ups', kids', name, lines, upNames⟩, a3, a4, a5, a8, a9⟩ := x
                obtain ⟨o3, c3, rfl⟩ : ∃ o c, a3 = .slice o code.n c := IsArr.slice hpx.code
                obtain ⟨o4, c4, rfl⟩ : ∃ o c, a4 = .slice o consts.n c := IsArr.slice hpx.consts.1
                obtain ⟨o5, c5, rfl⟩ : ∃ o c, a5 = .slice o ups'.n c := IsArr.slice hpx.ups
                obtain ⟨o8, c8, rfl⟩ : ∃ o c, a8 = .slice o lines.n c := IsArr.slice hpx.lines
                obtain ⟨o9, c9, rfl⟩ : ∃ o c, a9 = .slice o upNames.n c := IsArr.slice hpx.upNames.1
                have e0 := hcx 0 (by omega)
                have e1 := hcx 1 (by omega)
                have e2 := hcx 2 (by omega)
                have e3 := hcx 3 (by omega)
                have e4 := hcx 4 (by omega)
                have e5 := hcx 5 (by omega)
                have e6 := hcx 6 (by omega)
                have e7 := hcx 7 (by omega)
                have e8 := hcx 8 (by omega)
                have e9 := hcx 9 (by omega)
                simp only [PV.cells, List.getElem?_cons_zero, List.getElem?_cons_succ, Nat.add_zero] at e0 e1 e2 e3 e4 e5 e6 e7 e8 e9
                replace htk : Hid _ := htk
                clear hcx hpx hxm hx
                obtain ⟨i0, hi, hz0, hz1, hz2⟩ := info_parts infoPro
                have hlen : (L ++ X.take j').length ≤ 1200 := by rw [List.length_append, List.length_take]; omega
                obtain ⟨L1, hL1⟩ : ∃ L1, L1 = L ++ X.take j' := ⟨_, rfl⟩
                rw [← hL1] at hU hlen ⊢
                replace hL1 : Hid _ := hL1
                go_wp2_with (at_builtin; refine wpList_append_own_at _ rfl (.tmp 112) (.tmp 117) 23 rfl lo 35 i0 (.agg #[.int .i64 0, .bool false, .int .i64 0, .slice none 0 0, .slice none 0 0, .slice none 0 0, .int .i64 0, .string ⟨#[]⟩, .slice none 0 0, .slice none 0 0]) 10 168 Try.underlying23 hi hz0 hz1 hz2 rfl (by decide) (.slice ao2 (L1.length + 1) co2) (L1.length + 1) _ rfl (hU.out.tree.row.alloc _) ⟨wz.heap.size, 0, none⟩ 1 1 [.int .i64 params, .bool vararg, .int .i64 regs, .slice o3 code.n c3, .slice o4 consts.n c4, .slice o5 ups'.n c5, .int .i64 kids', .string name, .slice o8 lines.n c8, .slice o9 upNames.n c9] rfl rfl ?s1x3 ?s2x3 ?s3x3 ?s4x3 ?s5x3 ?_)
                case s2x3 => exact ⟨rfl, rfl, rfl, rfl, rfl, rfl, rfl, rfl, rfl, rfl⟩
                case s3x3 => simp only [maxLen]; omega
                case s4x3 => omega
                case s5x3 => have := hU.out.bel.size; omega
                intro v' w' hown hg _ hat
                have T1 : Hid (InI w lo x0 U bx y1.heap.size y3 (L ++ X.take (j' + 1)) v' w') := by
                  have := hU.out.step (x := ⟨⟨params, vararg, regs, code, consts, ups', kids', name, lines, upNames⟩, .slice o3 code.n c3, .slice o4 consts.n c4, .slice o5 ups'.n c5, .slice o8 lines.n c8, .slice o9 upNames.n c9⟩) (v' := v') (w' := w') (by omega) hx0l.out hpH.out hown hg (by rw [World.size_alloc]; exact hat)
                  rw [hL1.out, List.append_assoc, ← htk.out] at this
                  exact this
                clear hown hg hat hi hz0 hz1 hz2 hpH e0 e1 e2 e3 e4 e5 e6 e7 e8 e9
                go_wp2_with fail
                go_roundw
                case rel => exact ⟨j' + 1, by go_num, by omega, T1.out⟩
                case measure => simp [intOf]; omega
              · obtain rfl : j' = Ls.length + 1 := by omega
                have hU2 := hU.out
                have htl : X.take (Ls.length + 1) = X := List.take_of_length_le (by omega)
                have T1 : Hid (∃ L', OutI w lo x0 U bx (K (i' + 1)).1 L' (.slice ao2 ((L ++ X.take (Ls.length + 1)).length + 1) co2) wz) := by
                  show ∃ L', OutI w lo x0 U bx (K (i' + 1)).1 L' (.slice ao2 ((L ++ X.take (Ls.length + 1)).length + 1) co2) wz
                  rw [htl] at hU2 ⊢
                  exact ⟨L ++ X, hU2.tree, by rw [← List.cons_append, List.map_append, hLp.out, hXp.out]; exact hKs1.out.symm, hU2.box, hU2.bel, hU2.ne⟩
                clear hU hU2 htl
                go_wp2_with fail
                go_roundw
                case rel => exact ⟨i' + 1, by go_num, by omega, by rw [hKs2.out], T1.out⟩
                case measure => simp [intOf]; omega
        · replace hu0 : ups ≤ 0 := by omega
          have hI : Hid (InI w lo x0 U bx y1.heap.size y2 L (.slice ao' (L.length + 1) co') y2) := hO.out.start b2 (fun _ _ => rfl) (hO.out.bel.trans (b2.mono hO.out.bel.size)) (Nat.le_refl _)
          obtain ⟨X, hX⟩ : ∃ X : List PV, X = xs :: Ls := ⟨_, rfl⟩
          have hXl : X.length = Ls.length + 1 := by rw [hX]; rfl
          have hKs1 : Hid ((K (i' + 1)).1 = (K i').1 ++ (T (P + 1) ups).1) := by
            show (K (i' + 1)).1 = _
            rw [hKs.out, if_neg (by omega)]
          have hXp : Hid (X.map PV.p = (T (P + 1) ups).1) := by show X.map PV.p = _; rw [hX]; exact hmap.out
          have row3 : Hid (y2.ownsRow y1.heap.size 35 10 (.slice (some ⟨gs, 0, none⟩) (Ls.length + 1) cs) (Ls.length + 1) (pvCells X)) := by show World.ownsRow _ _ _ _ _ _ _; rw [hX]; exact S2.out.row
          have all3 : Hid (∀ x ∈ X, IsProto (fun b => y1.heap.size ≤ b ∧ b < y2.heap.size) y2 x.a3 x.a4 x.a5 x.a8 x.a9 x.p) := by show ∀ x ∈ X, _; rw [hX]; exact S2.out.all
          clear hX S2 hKs hmap
          obtain ⟨y3, hy3⟩ : ∃ y, y = y2 := ⟨_, rfl⟩
          subst hy3
          go_wp2_with fail
          have hI0 : Hid (InI w lo x0 U bx y1.heap.size y3 (L ++ X.take 0) (.slice ao' (L.length + 1) co') y3) := by
            show InI w lo x0 U bx y1.heap.size y3 (L ++ X.take 0) _ y3
            rw [List.take_zero, List.append_nil]
            exact hI.out
          clear hI
          go_loopw [14, 18] (fun ov jv wr => ∃ j' : Nat, jv = .int .i64 (j' : Int) ∧ j' ≤ Ls.length + 1 ∧ Hid (InI w lo x0 U bx y1.heap.size y3 (L ++ X.take j') ov wr))
            (fun _ jv _ => Ls.length + 1 - (intOf jv).toNat)
          case atStart => exact ⟨0, rfl, by omega, hI0.out⟩
          case round =>
            obtain ⟨j', rfl, hjn, hU⟩ := hrel
            obtain ⟨wz, hwz⟩ : ∃ x, x = wr := ⟨_, rfl⟩
            subst hwz
            obtain ⟨ao2, co2, rfl⟩ := own_slice hU.out.tree.row
            by_cases hj : j' < Ls.length + 1
            · have hjX : j' < X.length := by omega
              have hjj : (j' : Int) < ((Ls.length : Int) + 1) := by omega
              obtain ⟨x, hx⟩ : ∃ x, X[j']'hjX = x := ⟨_, rfl⟩
              have hxm : x ∈ X := hx ▸ List.getElem_mem hjX
              have htk : X.take (j' + 1) = X.take j' ++ [x] := by rw [List.take_add_one]; simp [hjX, hx]
              have hpx := all3.out x hxm
              have hcx : ∀ k, k < 10 → wz.cell? ⟨gs, j' * 10 + k, none⟩ = x.cells[k]? := fun k hk => by
                have hgs := row3.out.lt gs rfl
                rw [World.cell?_of_block (w := y3) (hU.out.keep gs hgs.1 hgs.2).1, row3.out.cellAt _ (by omega)]
                exact pvCells_get X j' x (by rw [List.getElem?_eq_getElem hjX, hx]) k hk
              have hpH : Hid (IsProto (fun b => y1.heap.size ≤ b ∧ b < y3.heap.size) y3 x.a3 x.a4 x.a5 x.a8 x.a9 x.p) := hpx
              obtain ⟨⟨params, vararg, regs, code, consts, ups', kids', name, lines, upNames⟩, a3, a4, a5, a8, a9⟩ := x
              obtain ⟨o3, c3, rfl⟩ : ∃ o c, a3 = .slice o code.n c := IsArr.slice hpx.code
              obtain ⟨o4, c4, rfl⟩ : ∃ o c, a4 = .slice o consts.n c := IsArr.slice hpx.consts.1
              obtain ⟨o5, c5, rfl⟩ : ∃ o c, a5 = .slice o ups'.n c := IsArr.slice hpx.ups
              obtain ⟨o8, c8, rfl⟩ : ∃ o c, a8 = .slice o lines.n c := IsArr.slice hpx.lines
              obtain ⟨o9, c9, rfl⟩ : ∃ o c, a9 = .slice o upNames.n c := IsArr.slice hpx.upNames.1
              have e0 := hcx 0 (by omega)
              have e1 := hcx 1 (by omega)
              have e2 := hcx 2 (by omega)
              have e3 := hcx 3 (by omega)
              have e4 := hcx 4 (by omega)
              have e5 := hcx 5 (by omega)
              have e6 := hcx 6 (by omega)
              have e7 := hcx 7 (by omega)
              have e8 := hcx 8 (by omega)
              have e9 := hcx 9 (by omega)
              simp only [PV.cells, List.getElem?_cons_zero, List.getElem?_cons_succ, Nat.add_zero] at e0 e1 e2 e3 e4 e5 e6 e7 e8 e9
              replace htk : Hid _ := htk
              clear hcx hpx hxm hx
              obtain ⟨i0, hi, hz0, hz1, hz2⟩ := info_parts infoPro
              have hlen : (L ++ X.take j').length ≤ 1200 := by rw [List.length_append, List.length_take]; omega
              obtain ⟨L1, hL1⟩ : ∃ L1, L1 = L ++ X.take j' := ⟨_, rfl⟩
              rw [← hL1] at hU hlen ⊢
              replace hL1 : Hid _ := hL1
              go_wp2_with (at_builtin; refine wpList_append_own_at _ rfl (.tmp 112) (.tmp 117) 23 rfl lo 35 i0 (.agg #[.int .i64 0, .bool false, .int .i64 0, .slice none 0 0, .slice none 0 0, .slice none 0 0, .int .i64 0, .string ⟨#[]⟩, .slice none 0 0, .slice none 0 0]) 10 168 Try.underlying23 hi hz0 hz1 hz2 rfl (by decide) (.slice ao2 (L1.length + 1) co2) (L1.length + 1) _ rfl (hU.out.tree.row.alloc _) ⟨wz.heap.size, 0, none⟩ 1 1 [.int .i64 params, .bool vararg, .int .i64 regs, .slice o3 code.n c3, .slice o4 consts.n c4, .slice o5 ups'.n c5, .int .i64 kids', .string name, .slice o8 lines.n c8, .slice o9 upNames.n c9] rfl rfl ?s1x4 ?s2x4 ?s3x4 ?s4x4 ?s5x4 ?_)
              case s2x4 => exact ⟨rfl, rfl, rfl, rfl, rfl, rfl, rfl, rfl, rfl, rfl⟩
              case s3x4 => simp only [maxLen]; omega
              case s4x4 => omega
              case s5x4 => have := hU.out.bel.size; omega
              intro v' w' hown hg _ hat
              have T1 : Hid (InI w lo x0 U bx y1.heap.size y3 (L ++ X.take (j' + 1)) v' w') := by
                have := hU.out.step (x := ⟨⟨params, vararg, regs, code, consts, ups', kids', name, lines, upNames⟩, .slice o3 code.n c3, .slice o4 consts.n c4, .slice o5 ups'.n c5, .slice o8 lines.n c8, .slice o9 upNames.n c9⟩) (v' := v') (w' := w') (by omega) hx0l.out hpH.out hown hg (by rw [World.size_alloc]; exact hat)
                rw [hL1.out, List.append_assoc, ← htk.out] at this
                exact this
              clear hown hg hat hi hz0 hz1 hz2 hpH e0 e1 e2 e3 e4 e5 e6 e7 e8 e9
              go_wp2_with fail
              go_roundw
              case rel => exact ⟨j' + 1, by go_num, by omega, T1.out⟩
              case measure => simp [intOf]; omega
            · obtain rfl : j' = Ls.length + 1 := by omega
              have hU2 := hU.out
              have htl : X.take (Ls.length + 1) = X := List.take_of_length_le (by omega)
              have T1 : Hid (∃ L', OutI w lo x0 U bx (K (i' + 1)).1 L' (.slice ao2 ((L ++ X.take (Ls.length + 1)).length + 1) co2) wz) := by
                show ∃ L', OutI w lo x0 U bx (K (i' + 1)).1 L' (.slice ao2 ((L ++ X.take (Ls.length + 1)).length + 1) co2) wz
                rw [htl] at hU2 ⊢
                exact ⟨L ++ X, hU2.tree, by rw [← List.cons_append, List.map_append, hLp.out, hXp.out]; exact hKs1.out.symm, hU2.box, hU2.bel, hU2.ne⟩
              clear hU hU2 htl
              go_wp2_with fail
              go_roundw
              case rel => exact ⟨i' + 1, by go_num, by omega, by rw [hKs2.out], T1.out⟩
              case measure => simp [intOf]; omega
      · replace hU0 : U.length ≤ 0 := by omega
        have hI : Hid (InI w lo x0 U bx y1.heap.size y2 L (.slice ao' (L.length + 1) co') y2) := hO.out.start b2 (fun _ _ => rfl) (hO.out.bel.trans (b2.mono hO.out.bel.size)) (Nat.le_refl _)
        obtain ⟨X, hX⟩ : ∃ X : List PV, X = xs :: Ls := ⟨_, rfl⟩
        have hXl : X.length = Ls.length + 1 := by rw [hX]; rfl
        have hKs1 : Hid ((K (i' + 1)).1 = (K i').1 ++ (T (P + 1) ups).1) := by
          show (K (i' + 1)).1 = _
          rw [hKs.out, if_neg (by omega)]
        have hXp : Hid (X.map PV.p = (T (P + 1) ups).1) := by show X.map PV.p = _; rw [hX]; exact hmap.out
        have row3 : Hid (y2.ownsRow y1.heap.size 35 10 (.slice (some ⟨gs, 0, none⟩) (Ls.length + 1) cs) (Ls.length + 1) (pvCells X)) := by show World.ownsRow _ _ _ _ _ _ _; rw [hX]; exact S2.out.row
        have all3 : Hid (∀ x ∈ X, IsProto (fun b => y1.heap.size ≤ b ∧ b < y2.heap.size) y2 x.a3 x.a4 x.a5 x.a8 x.a9 x.p) := by show ∀ x ∈ X, _; rw [hX]; exact S2.out.all
        clear hX S2 hKs hmap
        obtain ⟨y3, hy3⟩ : ∃ y, y = y2 := ⟨_, rfl⟩
        subst hy3
        go_wp2_with fail
        have hI0 : Hid (InI w lo x0 U bx y1.heap.size y3 (L ++ X.take 0) (.slice ao' (L.length + 1) co') y3) := by
          show InI w lo x0 U bx y1.heap.size y3 (L ++ X.take 0) _ y3
          rw [List.take_zero, List.append_nil]
          exact hI.out
        clear hI
        go_loopw [14, 18] (fun ov jv wr => ∃ j' : Nat, jv = .int .i64 (j' : Int) ∧ j' ≤ Ls.length + 1 ∧ Hid (InI w lo x0 U bx y1.heap.size y3 (L ++ X.take j') ov wr))
          (fun _ jv _ => Ls.length + 1 - (intOf jv).toNat)
        case atStart => exact ⟨0, rfl, by omega, hI0.out⟩
        case round =>
          obtain ⟨j', rfl, hjn, hU⟩ := hrel
          obtain ⟨wz, hwz⟩ : ∃ x, x = wr := ⟨_, rfl⟩
          subst hwz
          obtain ⟨ao2, co2, rfl⟩ := own_slice hU.out.tree.row
          by_cases hj : j' < Ls.length + 1
          · have hjX : j' < X.length := by omega
            have hjj : (j' : Int) < ((Ls.length : Int) + 1) := by omega
            obtain ⟨x, hx⟩ : ∃ x, X[j']'hjX = x := ⟨_, rfl⟩
            have hxm : x ∈ X := hx ▸ List.getElem_mem hjX
            have htk : X.take (j' + 1) = X.take j' ++ [x] := by rw [List.take_add_one]; simp [hjX, hx]
            have hpx := all3.out x hxm
            have hcx : ∀ k, k < 10 → wz.cell? ⟨gs, j' * 10 + k, none⟩ = x.cells[k]? := fun k hk => by
              have hgs := row3.out.lt gs rfl
              rw [World.cell?_of_block (w := y3) (hU.out.keep gs hgs.1 hgs.2).1, row3.out.cellAt _ (by omega)]
              exact pvCells_get X j' x (by rw [List.getElem?_eq_getElem hjX, hx]) k hk
            have hpH : Hid (IsProto (fun b => y1.heap.size ≤ b ∧ b < y3.heap.size) y3 x.a3 x.a4 x.a5 x.a8 x.a9 x.p) := hpx
            obtain ⟨⟨params, vararg, regs, code, consts, ups', kids', name, lines, upNames⟩, a3, a4, a5, a8, a9⟩ := x
            obtain ⟨o3, c3, rfl⟩ : ∃ o c, a3 = .slice o code.n c := IsArr.slice hpx.code
            obtain ⟨o4, c4, rfl⟩ : ∃ o c, a4 = .slice o consts.n c := IsArr.slice hpx.consts.1
            obtain ⟨o5, c5, rfl⟩ : ∃ o c, a5 = .slice o ups'.n c := IsArr.slice hpx.ups
            obtain ⟨o8, c8, rfl⟩ : ∃ o c, a8 = .slice o lines.n c := IsArr.slice hpx.lines
            obtain ⟨o9, c9, rfl⟩ : ∃ o c, a9 = .slice o upNames.n c := IsArr.slice hpx.upNames.1
            have e0 := hcx 0 (by omega)
            have e1 := hcx 1 (by omega)
            have e2 := hcx 2 (by omega)
            have e3 := hcx 3 (by omega)
            have e4 := hcx 4 (by omega)
            have e5 := hcx 5 (by omega)
            have e6 := hcx 6 (by omega)
            have e7 := hcx 7 (by omega)
            have e8 := hcx 8 (by omega)
            have e9 := hcx 9 (by omega)
            simp only [PV.cells, List.getElem?_cons_zero, List.getElem?_cons_succ, Nat.add_zero] at e0 e1 e2 e3 e4 e5 e6 e7 e8 e9
            replace htk : Hid _ := htk
            clear hcx hpx hxm hx
            obtain ⟨i0, hi, hz0, hz1, hz2⟩ := info_parts infoPro
            have hlen : (L ++ X.take j').length ≤ 1200 := by rw [List.length_append, List.length_take]; omega
            obtain ⟨L1, hL1⟩ : ∃ L1, L1 = L ++ X.take j' := ⟨_, rfl⟩
            rw [← hL1] at hU hlen ⊢
            replace hL1 : Hid _ := hL1
            go_wp2_with (at_builtin; refine wpList_append_own_at _ rfl (.tmp 112) (.tmp 117) 23 rfl lo 35 i0 (.agg #[.int .i64 0, .bool false, .int .i64 0, .slice none 0 0, .slice none 0 0, .slice none 0 0, .int .i64 0, .string ⟨#[]⟩, .slice none 0 0, .slice none 0 0]) 10 168 Try.underlying23 hi hz0 hz1 hz2 rfl (by decide) (.slice ao2 (L1.length + 1) co2) (L1.length + 1) _ rfl (hU.out.tree.row.alloc _) ⟨wz.heap.size, 0, none⟩ 1 1 [.int .i64 params, .bool vararg, .int .i64 regs, .slice o3 code.n c3, .slice o4 consts.n c4, .slice o5 ups'.n c5, .int .i64 kids', .string name, .slice o8 lines.n c8, .slice o9 upNames.n c9] rfl rfl ?s1x5 ?s2x5 ?s3x5 ?s4x5 ?s5x5 ?_)
            case s2x5 => exact ⟨rfl, rfl, rfl, rfl, rfl, rfl, rfl, rfl, rfl, rfl⟩
            case s3x5 => simp only [maxLen]; omega
            case s4x5 => omega
            case s5x5 => have := hU.out.bel.size; omega
            intro v' w' hown hg _ hat
            have T1 : Hid (InI w lo x0 U bx y1.heap.size y3 (L ++ X.take (j' + 1)) v' w') := by
              have := hU.out.step (x := ⟨⟨params, vararg, regs, code, consts, ups', kids', name, lines, upNames⟩, .slice o3 code.n c3, .slice o4 consts.n c4, .slice o5 ups'.n c5, .slice o8 lines.n c8, .slice o9 upNames.n c9⟩) (v' := v') (w' := w') (by omega) hx0l.out hpH.out hown hg (by rw [World.size_alloc]; exact hat)
              rw [hL1.out, List.append_assoc, ← htk.out] at this
              exact this
            clear hown hg hat hi hz0 hz1 hz2 hpH e0 e1 e2 e3 e4 e5 e6 e7 e8 e9
            go_wp2_with fail
            go_roundw
            case rel => exact ⟨j' + 1, by go_num, by omega, T1.out⟩
            case measure => simp [intOf]; omega
          · obtain rfl : j' = Ls.length + 1 := by omega
            have hU2 := hU.out
            have htl : X.take (Ls.length + 1) = X := List.take_of_length_le (by omega)
            have T1 : Hid (∃ L', OutI w lo x0 U bx (K (i' + 1)).1 L' (.slice ao2 ((L ++ X.take (Ls.length + 1)).length + 1) co2) wz) := by
              show ∃ L', OutI w lo x0 U bx (K (i' + 1)).1 L' (.slice ao2 ((L ++ X.take (Ls.length + 1)).length + 1) co2) wz
              rw [htl] at hU2 ⊢
              exact ⟨L ++ X, hU2.tree, by rw [← List.cons_append, List.map_append, hLp.out, hXp.out]; exact hKs1.out.symm, hU2.box, hU2.bel, hU2.ne⟩
            clear hU hU2 htl
            go_wp2_with fail
            go_roundw
            case rel => exact ⟨i' + 1, by go_num, by omega, by rw [hKs2.out], T1.out⟩
            case measure => simp [intOf]; omega
    · obtain rfl : i' = kids := by omega
      clear hTo
      go_wp2_with fail
      go_ret2
      exact ⟨.slice ao' (L.length + 1) co', by rw [← hKend]; rfl, hO.out.bel, x0, L, hO.out.tree, by rw [← hKend]; exact hO.out.data⟩
end Go.Proofs.Ytlkmohhkhcbiaaa

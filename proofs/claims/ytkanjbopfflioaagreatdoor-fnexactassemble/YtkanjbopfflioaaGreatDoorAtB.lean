import Derived.Test.YtkanjbopfflioaaGreatDoorAsY
import Derived.Test.YtkanjbopfflioaaGreatDoorAsZ
import Derived.Test.YtkanjbopfflioaaGreatDoorG41
import Derived.Test.YtkanjbopfflioaaGreatDoorG20
import Derived.Test.YtkanjbopfflioaaGreatDoorG34
import Derived.Deep.CutRange
namespace Go.Proofs.YtkanjbopfflioaaGreatDoor
open Go.RowKit Go.Shelf
set_option linter.unusedVariables false
set_option linter.unusedSimpArgs false
set_option maxRecDepth 100000
set_option maxHeartbeats 4000000
theorem l6Line_in (s : ByteArray) (hs : s.size ≤ 100000) (sv : Value) (Q : List PV) (B : Nat) (w : World) (hM : Mk w B sv Q) (hB : B ≤ w.heap.size) (hf : Few 100000 (Q.map (·.p))) :
    Calls Tryz.prog 10 #[.agg #[sv], .string s] w fun e w' => LineEnds (Q.map (·.p)) s B e w' ∧ Fram B w w' sv Q ∧ OneV e := by
  obtain ⟨p0, r, hcut⟩ : ∃ p0 r, cutB 32 s = p0 :: r := by
    cases h : cutB 32 s with
    | nil =>
      unfold cutB at h
      exact absurd (List.map_eq_nil_iff.1 h) (cutL_ne _ _)
    | cons a b => exact ⟨a, b, rfl⟩
  have hl := hf.1
  rw [List.length_map] at hl
  by_cases h1 : p0 = protoB'
  · subst h1
    exact lineProto s hs r hcut sv Q B w hM hB hl
  rcases List.eq_nil_or_concat Q with rfl | ⟨K, q, hQ⟩
  · obtain ⟨so, sc, rfl⟩ := own_slice9 hM.row
    exact lineNil s hs p0 r hcut h1 B w hB so sc
  · rw [List.concat_eq_append] at hQ
    subst hQ
    have hq := hf.2 q.p (by simp)
    have hK : K.length ≤ 100000 := by simp at hl; omega
    by_cases h2 : p0 = constB'
    · exact lineConst s hs p0 r hcut h2 sv K q B w hM hB hK hq
    by_cases h3 : p0 = upB'
    · exact lineUp s hs p0 r hcut h3 sv K q B w hM hB hK hq
    · exact lineWord s hs p0 r hcut h1 h2 h3 sv K q B w hM hB hK hq
theorem own_type {w : World} {B z n nb : Nat} {e t : TypeId} {v : Value} {xs L : List Value} (h : w.ownsRow B e z v n xs) (hr : RowL w nb t L) (ht : e ≠ t) : v.ownBlock ≠ some nb := fun e9 => by
  rcases h.2 with ⟨hv, _⟩ | ⟨g, cap, cur, hv, _, hg, _⟩
  · rw [hv] at e9; cases e9
  · rw [hv] at e9
    have e8 : g = nb := Option.some.inj e9
    subst e8
    obtain ⟨c, hc, _⟩ := hr
    rw [hg] at hc
    simp only [Option.some.injEq, Obj.cells.injEq] at hc
    exact ht hc.2.1
theorem Mk.notBox {w : World} {B nb : Nat} {sv : Value} {Q : List PV} {L : List Value} (h : Mk w B sv Q) (hr : RowL w nb 24 L) : ∀ k, some k ∈ sv.ownBlock :: Q.flatMap PV.blks → k ≠ nb := fun k hk e => by
  subst e
  rcases List.mem_cons.1 hk with e | hk
  · exact own_type h.row hr (by decide) e.symm
  · obtain ⟨q, hq, hk⟩ := List.mem_flatMap.1 hk
    have h9 := h.each q hq
    simp only [PV.blks, List.mem_cons, List.not_mem_nil, or_false] at hk
    rcases hk with e | e | e
    · exact own_type h9.code hr (by decide) e.symm
    · exact own_type h9.consts hr (by decide) e.symm
    · exact own_type h9.ups hr (by decide) e.symm
/-- what the model's Assemble gives back. -/
def SpecOut (s : ByteArray) (w : World) (e : Ending) (w' : World) : Prop := Below w.heap.size w w' ∧ ∃ R i, AsmR (linesOf s) R i ∧ (R = none → e = .returned (.tuple #[.agg #[.slice none 0 0], .int .i64 ((i : Int) + 2)])) ∧
  (∀ L, R = some L → (¬ Wf (chunkOf L) → e = .returned (.tuple #[.agg #[.slice none 0 0], .int .i64 (-1)])) ∧ (Wf (chunkOf L) → ∃ v, e = .returned (.tuple #[.agg #[v], .int .i64 0]) ∧ IsProtos (· < w'.heap.size) w' v (chunkOf L)))
theorem specAsm_long (s : ByteArray) (h : (60000 : Int) < (s.size : Int)) (w : World) : Calls Tryz.prog 4 #[.string s] w fun e w' => e = .returned (.tuple #[.agg #[.slice none 0 0], .int .i64 1]) ∧ Below w.heap.size w w' := by
  go_enter Tryz.func4, Tryz.ntmps4
  go_wp2_with fail
  exact bodyPost_ret (v := .tuple #[.agg #[.slice none 0 0], .int .i64 1]) (by simp [results, Tryz.results4, go_sem]) rfl ⟨rfl, by go_grown⟩
/-- between two lines. -/
def SI (s : ByteArray) (w : World) (A0 cB gl B k : Nat) (wr : World) : Prop := ∃ sv Q, RowL wr A0 24 [.slice none 0 0] ∧ RowL wr cB 24 [sv] ∧ (∀ (j : Nat) x, (linesOf s)[j]? = some x → wr.cell? ⟨gl, j, none⟩ = some (.string x)) ∧ Mk wr B sv Q ∧ Steps [] ((linesOf s).take k) (Q.map (·.p)) ∧ Below w.heap.size w wr ∧ B ≤ wr.heap.size
theorem specAsm_in (s : ByteArray) (hs : s.size ≤ 60000) (w : World) : Calls Tryz.prog 4 #[.string s] w fun e w' => SpecOut s w e w' := by
  have hsI : ¬ (60000 : Int) < (s.size : Int) := by omega
  have hll := cutB_len 10 s
  have hcu : Hid (∀ y : World, Calls Tryz.prog 9 #[.string s, .int .u8 10] y fun e w' => (∃ gp c, e = .returned (.slice (some ⟨gp, 0, none⟩) (cutB 10 s).length c) ∧ y.heap.size ≤ gp ∧ gp < w'.heap.size ∧ (∀ (j : Nat) x, (cutB 10 s)[j]? = some x → w'.cell? ⟨gp, j, none⟩ = some (.string x)) ∧ (cutB 10 s).length ≤ c) ∧ Below y.heap.size y w') := fun y => l6Cut_cap s (by omega) 10 y
  go_enter Tryz.func4, Tryz.ntmps4
  go_upto_region 1 with fail
  have RA := RowL.new w [.slice none 0 0] 24
  have bw : Below w.heap.size w (w.alloc (.cells #[.slice none 0 0] 24)) := by go_grown
  generalize w.alloc (.cells #[.slice none 0 0] 24) = w2 at RA bw ⊢
  obtain ⟨A0, hA0⟩ : ∃ A0, w.heap.size = A0 := ⟨_, rfl⟩
  rw [hA0] at RA bw ⊢
  replace hA0 := hidR hA0
  have hz2 := RA.lt
  replace RA := hidR RA
  obtain ⟨LS, hLS⟩ : ∃ LS, cutB 10 s = LS := ⟨_, rfl⟩
  rw [hLS] at hcu hll
  have hlsO : Hid (linesOf s = if LS.getLast? = some ⟨#[]⟩ then LS.dropLast else LS) := by rw [← hLS]; rfl
  have hne : LS ≠ [] := by
    rw [← hLS]
    intro h
    unfold cutB at h
    exact cutL_ne _ _ (List.map_eq_nil_iff.1 h)
  obtain ⟨M, lz, hMz⟩ : ∃ M lz, LS = M ++ [lz] := by
    rcases List.eq_nil_or_concat LS with h | ⟨M, lz, h⟩
    · exact absurd h hne
    · exact ⟨M, lz, by rw [h, List.concat_eq_append]⟩
  subst hMz
  clear hne hLS
  simp only [List.length_append, List.length_cons, List.length_nil] at hll hcu
  obtain ⟨N, hN⟩ : ∃ N, M.length = N := ⟨_, rfl⟩
  rw [hN] at hcu hll
  have hMw : IntKind.i64.wrap (((N + 1 : Nat) : Int) - 1) = (N : Int) := by rw [show (((N + 1 : Nat) : Int) - 1) = (N : Int) by omega, IntKind.wrap_i64]; omega
  go_wp2_with fail
  refine Calls.mono (hcu.out _) ?_
  rintro e y1 ⟨⟨gl, cl, rfl, hgp, hgl, hcell, hcapN⟩, b1⟩
  clear hcu
  have cl0 := hcell N lz (by rw [← hN]; simp)
  have bw1 := bw.trans (b1.mono (by omega))
  replace RA := hidR (RA.out.call b1)
  clear b1 bw
  replace hcell := hidR hcell
  obtain ⟨K9, hK9⟩ : ∃ K9, (linesOf s).length = K9 := ⟨_, rfl⟩
  have hKs : K9 ≤ 60001 := by
    rw [← hK9, hlsO.out]
    split
    · simp; omega
    · simp; omega
  have hlines : Hid (∀ (j : Nat) x, (linesOf s)[j]? = some x → y1.cell? ⟨gl, j, none⟩ = some (.string x)) := fun j x hj => hcell.out j x (by
    rw [hlsO.out] at hj
    split at hj
    · rw [List.dropLast_concat] at hj
      rw [List.getElem?_append_left (List.getElem?_eq_some_iff.1 hj).1]
      exact hj
    · exact hj)
  by_cases hz : lz.size = 0
  · have hK0 : K9 = N := by
      rw [← hK9, hlsO.out, if_pos (by rw [List.getLast?_append]; simp; apply ByteArray.ext; apply Array.eq_empty_of_size_eq_zero; exact hz), List.dropLast_concat, hN]
    subst hK0
    have hzI : ((lz.size : Int) == 0) = true := by simp [hz]
    have hNc : (K9 : Int) ≤ (cl : Int) := by omega
    replace hK9 := hidR hK9
    replace hN := hidR hN
    have hKl : K9 ≤ 60001 := by omega
    clear hcell hlsO
    go_upto_region 6 with fail
    clear cl0
    replace RA := RA.out
    have RA2 := RA.alloc (.cells #[.slice none 0 0] 24)
    have RC2 := RowL.new y1 [.slice none 0 0] 24
    have b2 : Below y1.heap.size y1 (y1.alloc (.cells #[.slice none 0 0] 24)) := by go_grown
    have hinv : Hid (SI s w A0 y1.heap.size gl (y1.heap.size + 1) 0 (y1.alloc (.cells #[.slice none 0 0] 24))) := ⟨_, [], RA2, RC2, fun j x hj => (b2.cell (p := ⟨gl, j, none⟩) hgl).trans (hlines.out j x hj), Mk.nil _ _, .nil, by rw [hA0.out]; exact bw1.trans (b2.mono (by omega)), by simp⟩
    have hz3 : A0 < y1.heap.size := RA.lt
    clear RA RA2 RC2 b2 hlines bw1
    go_wp2_with fail
    generalize y1.alloc (.cells #[.slice none 0 0] 24) = y2 at hinv ⊢
    obtain ⟨cB, hcB⟩ : ∃ cB, y1.heap.size = cB := ⟨_, rfl⟩
    rw [hcB] at hinv hz3 hgl ⊢
    clear hcB
    go_loopw [6] (fun iv wr => ∃ k : Nat, iv = .int .i64 (k : Int) ∧ k ≤ K9 ∧ Hid (SI s w A0 cB gl (cB + 1) k wr)) (fun iv _ => K9 - (intOf iv).toNat)
    case atStart => exact ⟨0, rfl, by omega, hinv⟩
    case round =>
      clear hinv
      obtain ⟨k, rfl, hk, hI⟩ := hrel
      obtain ⟨sv, Q, hA, hC, hL, hM, hS, hB, hBs⟩ := hI.out
      clear hI
      by_cases hkn : k < K9
      · obtain ⟨xk, hxk⟩ : ∃ xk, (linesOf s)[k]? = some xk := ⟨_, List.getElem?_eq_getElem (by rw [hK9.out]; omega)⟩
        have hspl : Hid (linesOf s = (linesOf s).take k ++ xk :: (linesOf s).drop (k + 1)) := by
          show linesOf s = _
          conv => lhs; rw [← List.take_append_drop k (linesOf s)]
          congr 1
          rw [List.drop_eq_getElem_cons (by rw [hK9.out]; omega)]
          rw [List.getElem?_eq_getElem (by rw [hK9.out]; omega)] at hxk
          rw [Option.some.inj hxk]
        have hxz : xk.size ≤ 100000 := by
          have hmem : xk ∈ cutB 10 s := by
            have hm := List.mem_of_getElem? hxk
            unfold linesOf at hm
            split at hm
            · exact List.dropLast_subset _ hm
            · exact hm
          have := cutB_mem 10 s xk hmem
          omega
        have hfew : Few 100000 (Q.map (·.p)) := by
          have h8 := hS.few (Few.nil 0)
          rw [List.length_take] at h8
          exact ⟨by have := h8.1; omega, fun p hp => by have := h8.2 p hp; omega⟩
        have hkI : (k : Int) < ((K9 : Nat) : Int) := by omega
        have hkw : IntKind.i64.wrap ((k : Int) + 2) = (k : Int) + 2 := by rw [IntKind.wrap_i64]; omega
        have cC := hC.cell 0 rfl
        have cL := hL k xk hxk
        have hS0 : wr.drew.cell? ⟨cB, 0, none⟩ = some sv ∧ wr.drew.cell? ⟨gl, k, none⟩ = some (.string xk) := ⟨cC, cL⟩
        have hcBl := hC.lt
        have hM0 : Mk wr.drew (cB + 1) sv Q := hM.later (Below.refl _ _).drew
        have hC0 := hidR (hC.call (Below.refl _ _).drew)
        have hA9 := hidR (hA.call (Below.refl _ _).drew)
        have hB0 := hidR hB.drew
        have hL0 : Hid (∀ (j : Nat) x, (linesOf s)[j]? = some x → wr.drew.cell? ⟨gl, j, none⟩ = some (.string x)) := hL
        have hBs0 : cB + 1 ≤ wr.drew.heap.size := hBs
        replace hxk := hidR hxk
        replace hS := hidR hS
        replace hfew := hidR hfew
        clear hA hC hL hM hB
        go_upto_region 10 with fail
        refine wp_region_held_drew (S := fun y => y.cell? ⟨cB, 0, none⟩ = some sv ∧ y.cell? ⟨gl, k, none⟩ = some (.string xk)) (by kernel_rfl) hS0 (fun hH => ?_)
        clear hH cC cL
        generalize wr.drew = yd at hS0 hM0 hC0 hA9 hB0 hL0 hBs0 ⊢
        refine take_dst 0 36 (.agg #[sv]) rfl (by kernel_rfl) (by kernel_rfl) (by kernel_rfl) (fun _ _ _ h => h) (Or.inl ⟨by rfl, by intro wv hSv; obtain ⟨k8, k9⟩ := hSv; go_simp⟩) hS0 rfl ?_
        try simp only [Act.put, List.setIfInBounds_toArray, List.set_cons_zero, List.set_cons_succ]
        refine take_dst 1 37 (.slice (some ⟨gl, 0, none⟩) K9 cl) rfl (by kernel_rfl) (by kernel_rfl) (by kernel_rfl) (fun _ _ _ h => h) (Or.inl ⟨by rfl, by intro wv hSv; obtain ⟨k8, k9⟩ := hSv; go_simp⟩) hS0 rfl ?_
        try simp only [Act.put, List.setIfInBounds_toArray, List.set_cons_zero, List.set_cons_succ]
        refine take_dst 2 38 (.int .i64 (k : Int)) rfl (by kernel_rfl) (by kernel_rfl) (by kernel_rfl) (fun _ _ _ h => h) (Or.inl ⟨by rfl, by intro wv hSv; obtain ⟨k8, k9⟩ := hSv; go_simp⟩) hS0 rfl ?_
        try simp only [Act.put, List.setIfInBounds_toArray, List.set_cons_zero, List.set_cons_succ]
        refine take_dst 3 39 (.pointer (some ⟨gl, k, none⟩)) rfl (by kernel_rfl) (by kernel_rfl) (by kernel_rfl) (fun _ _ _ h => h) (Or.inl ⟨by rfl, by intro wv hSv; obtain ⟨k8, k9⟩ := hSv; go_simp <;> omega⟩) hS0 rfl ?_
        try simp only [Act.put, List.setIfInBounds_toArray, List.set_cons_zero, List.set_cons_succ]
        refine take_dst 4 40 (.string xk) rfl (by kernel_rfl) (by kernel_rfl) (by kernel_rfl) (fun _ _ _ h => h) (Or.inl ⟨by rfl, by intro wv hSv; obtain ⟨k8, k9⟩ := hSv; go_simp⟩) hS0 rfl ?_
        try simp only [Act.put, List.setIfInBounds_toArray, List.set_cons_zero, List.set_cons_succ]
        have hl1 := hidR (l6Line_in xk hxz sv Q (cB + 1) yd hM0 hBs0 hfew.out)
        have bA : Below yd.heap.size yd (yd.alloc (.cells #[.slice none 0 0] 24)) := (Below.refl _ _).alloc (Nat.le_refl _) _
        have hl2 := hidR (l6Line_in xk hxz sv Q (cB + 1) _ (hM0.later bA) (Nat.le_trans hBs0 bA.size) hfew.out)
        have hltM : Hid (∀ b, some b ∈ sv.ownBlock :: Q.flatMap PV.blks → b < yd.heap.size) := fun b hb => (hM0.blkLt b hb).1
        clear hM0
        refine wpAnyH_ready (rs := [5, 9]) (by kernel_rfl) (by simp) ?_
        refine (AllReadyH.cons rfl (fun K8 hK => ?_) (AllReadyH.cons rfl (fun K8 hK => ?_) AllReadyH.nil))
        · go_simp
          refine Calls.mono hl1.out ?_
          rintro e y3 ⟨⟨v9, bo, R9, rfl, hlt, htr, hfa⟩, hfr, hov⟩
          clear hl1 hl2
          have hS1 : y3.cell? ⟨cB, 0, none⟩ = some sv ∧ y3.cell? ⟨gl, k, none⟩ = some (.string xk) := ⟨(hfr.bel.cell (p := ⟨cB, 0, none⟩) (show cB < cB + 1 by omega)).trans hS0.1, (hfr.bel.cell (p := ⟨gl, k, none⟩) (show gl < cB + 1 by omega)).trans hS0.2⟩
          go_wp2_with fail
          refine hK.out _ _ hS1 (fun _ => ?_)
          clear hK K8
          try simp only [Act.put, List.setIfInBounds_toArray, List.set_cons_zero, List.set_cons_succ]
          refine take_dst 6 35 (.tuple #[.agg #[v9], .bool bo]) rfl (by kernel_rfl) (by kernel_rfl) (by kernel_rfl) (fun _ _ _ h => h) (Or.inl ⟨by rfl, by intro wv hSv; obtain ⟨k8, k9⟩ := hSv; go_simp⟩) hS1 rfl ?_
          try simp only [Act.put, List.setIfInBounds_toArray, List.set_cons_zero, List.set_cons_succ]
          refine take_dst 7 42 (.agg #[v9]) rfl (by kernel_rfl) (by kernel_rfl) (by kernel_rfl) (fun _ _ _ h => h) (Or.inl ⟨by rfl, by intro wv hSv; obtain ⟨k8, k9⟩ := hSv; go_simp⟩) hS1 rfl ?_
          try simp only [Act.put, List.setIfInBounds_toArray, List.set_cons_zero, List.set_cons_succ]
          refine take_dst 8 43 (.bool bo) rfl (by kernel_rfl) (by kernel_rfl) (by kernel_rfl) (fun _ _ _ h => h) (Or.inl ⟨by rfl, by intro wv hSv; obtain ⟨k8, k9⟩ := hSv; go_simp⟩) hS1 rfl ?_
          try simp only [Act.put, List.setIfInBounds_toArray, List.set_cons_zero, List.set_cons_succ]

          have bA3 : Below y3.heap.size y3 (y3.alloc (.cells #[.slice none 0 0] 24)) := (Below.refl _ _).alloc (Nat.le_refl _) _
          have hS2 : (y3.alloc (.cells #[.slice none 0 0] 24)).cell? ⟨cB, 0, none⟩ = some sv ∧ (y3.alloc (.cells #[.slice none 0 0] 24)).cell? ⟨gl, k, none⟩ = some (.string xk) := ⟨(bA3.cell (p := ⟨cB, 0, none⟩) (show cB < y3.heap.size by have := hfr.bel.size; omega)).trans hS1.1, (bA3.cell (p := ⟨gl, k, none⟩) (show gl < y3.heap.size by have := hfr.bel.size; omega)).trans hS1.2⟩
          refine wpAnyH_ready (rs := [9]) (by kernel_rfl) (by simp) ?_
          refine AllReadyH.cons rfl (fun K8 hK => ?_) AllReadyH.nil
          go_simp
          refine hK.out _ _ hS2 (fun _ => ?_)
          clear hK K8
          try simp only [Act.put, List.setIfInBounds_toArray, List.set_cons_zero, List.set_cons_succ]
          obtain ⟨nb, hnb⟩ : ∃ nb, y3.heap.size = nb := ⟨_, rfl⟩
          have hnbB : cB + 1 ≤ nb := by have := hfr.bel.size; omega
          have RN8 := RowL.new y3 [.slice none 0 0] 24
          have RA9 := hidR (RowL.below (hA9.out.below hfr.bel (by omega)) (bA3.mono (show cB + 1 ≤ y3.heap.size by omega)) (by omega))
          have RC9 := hidR (RowL.below (hC0.out.below hfr.bel (by omega)) (bA3.mono (show cB + 1 ≤ y3.heap.size by omega)) (by omega))
          have hL9 : Hid (∀ (j : Nat) x, (linesOf s)[j]? = some x → (y3.alloc (.cells #[.slice none 0 0] 24)).cell? ⟨gl, j, none⟩ = some (.string x)) := fun j x hj => (bA3.cell (p := ⟨gl, j, none⟩) (show gl < y3.heap.size by omega)).trans ((hfr.bel.cell (p := ⟨gl, j, none⟩) (show gl < cB + 1 by omega)).trans (hL0.out j x hj))
          have bz9 := hidR ((hB0.out.trans (hfr.bel.mono (by rw [hA0.out]; omega))).trans (bA3.mono (by rw [hA0.out]; omega)))
          have hMz : Hid (∀ {Q2 : List PV}, Mk y3 (cB + 1) v9 Q2 → Mk ((y3.alloc (.cells #[.slice none 0 0] 24)).setRow nb #[v9]) (cB + 1) v9 Q2) := fun h8 => (h8.later bA3).keepB fun b hb => setRow_other _ _ _ _ (show b ≠ nb by have := (h8.blkLt b hb).1; omega)
          generalize y3.alloc (.cells #[.slice none 0 0] 24) = y4 at hS2 RN8 RA9 RC9 hL9 bz9 hMz ⊢
          rw [hnb] at RN8 ⊢
          have hone9 : v9.oneCell' = true := hov v9 bo rfl
          have hS3 : (y4.setRow nb #[v9]).cell? ⟨cB, 0, none⟩ = some sv ∧ (y4.setRow nb #[v9]).cell? ⟨gl, k, none⟩ = some (.string xk) := ⟨(World.cell?_of_block (a := ⟨cB, 0, none⟩) (setRow_other y4 nb cB #[v9] (show cB ≠ nb by omega))).trans hS2.1, (World.cell?_of_block (a := ⟨gl, k, none⟩) (setRow_other y4 nb gl #[v9] (show gl ≠ nb by omega))).trans hS2.2⟩
          have hnbl := RN8.lt
          refine ready_storeL 10 (by kernel_rfl) rfl 24 (.tmp 7) (.tmp 42) rfl rfl rfl nb _ [v9] rfl rfl _ RN8 infC1 rfl (by simp only [List.all_cons, List.all_nil, hone9]; rfl) hS3 ?_
          refine take_dst 11 8 (.bool bo) rfl (by kernel_rfl) (by kernel_rfl) (by kernel_rfl) (fun _ _ _ h => h) (Or.inl ⟨by rfl, by intro wv hSv; obtain ⟨k8, k9⟩ := hSv; go_simp⟩) hS3 rfl ?_
          try simp only [Act.put, List.setIfInBounds_toArray, List.set_cons_zero, List.set_cons_succ]
          refine wpAnyH_done (by kernel_rfl) ?_ _
          have RNb := hidR (RN8.setRow [v9] rfl)
          replace RA9 := hidR (RA9.out.rowOther (show A0 ≠ nb by omega) #[v9])
          replace RC9 := hidR (RC9.out.rowOther (show cB ≠ nb by omega) #[v9])
          replace hL9 : Hid (∀ (j : Nat) x, (linesOf s)[j]? = some x → (y4.setRow nb #[v9]).cell? ⟨gl, j, none⟩ = some (.string x)) := fun j x hj => (World.cell?_of_block (a := ⟨gl, j, none⟩) (setRow_other y4 nb gl #[v9] (show gl ≠ nb by omega))).trans (hL9.out j x hj)
          replace bz9 := hidR (below_row bz9.out (show w.heap.size ≤ nb by rw [hA0.out]; omega) #[v9])
          generalize y4.setRow nb #[v9] = z9 at hS3 RNb RA9 RC9 hL9 bz9 hMz ⊢
          have hz9s : nb < z9.heap.size := RNb.out.lt
          have RN9 := RN8
          replace htr := hidR htr
          replace hfa := hidR hfa
          clear hS0 hS1 hS2 hS3 hfr hA9 hC0 hB0 hL0 RN8 hltM
          cases bo with
          | false =>
            have hAs : Hid (AsmR (linesOf s) none k) := by
              have := AsmR.bad (ls := linesOf s) (pre := (linesOf s).take k) (s := xk) (post := (linesOf s).drop (k + 1)) hspl.out hS.out (by have h8 := hfa.out rfl; rw [h8] at hlt; exact hlt)
              rw [List.length_take, Nat.min_eq_left (by rw [hK9.out]; omega)] at this
              exact this
            have a0 := RA9.out.cell 0 rfl
            have af := RA9.out.frozen 0
            have RA10 := hidR ((RA9.out.set 0 (.slice none 0 0)).cell 0 rfl)
            have hbel := hidR (bz9.out.setCell (p := ⟨A0, 0, none⟩) (show w.heap.size ≤ A0 by rw [hA0.out]; exact Nat.le_refl _) (.slice none 0 0))
            have c7 := RNb.out.cell 0 rfl
            clear hlt hfa htr RN9
            go_wp2_with fail
            refine bodyPost_ret (v := .tuple #[.agg #[.slice none 0 0], .int .i64 ((k : Int) + 2)]) (by simp [results, Tryz.results4, go_sem, RA10.out]) rfl ⟨hbel.out, none, k, hAs.out, fun _ => rfl, fun L e => by cases e⟩
          | true =>
            obtain ⟨Q2, hR9, hM9⟩ := htr.out rfl
            rw [hR9] at hlt
            have c7 := RNb.out.cell 0 rfl
            have cc := RC9.out.cell 0 rfl
            have cf := RC9.out.frozen 0
            have hcBl := RC9.out.lt
            have hst2 : Steps [] ((linesOf s).take (k + 1)) (Q2.map (·.p)) := by
              rw [List.take_succ_eq_append_getElem (by rw [hK9.out]; omega)]
              refine hS.out.snoc ?_
              have e : (linesOf s)[k]'(by rw [hK9.out]; omega) = xk := by
                have := hxk.out
                rw [List.getElem?_eq_getElem (by rw [hK9.out]; omega)] at this
                exact Option.some.inj this
              rw [e]
              exact hlt
            have hnew : Hid (SI s w A0 cB gl (cB + 1) (k + 1) (z9.setCell ⟨cB, 0, none⟩ v9)) := ⟨v9, Q2, RA9.out.other (a := ⟨cB, 0, none⟩) (show A0 ≠ cB by omega) _, RC9.out.set 0 _, fun j x hj => (World.cell?_of_block (a := ⟨gl, j, none⟩) (heap_setCell_other z9 ⟨cB, 0, none⟩ gl _ (show gl ≠ cB by omega))).trans (hL9.out j x hj), (hMz.out hM9).keepB (fun b hb => heap_setCell_other z9 ⟨cB, 0, none⟩ b _ (show b ≠ cB by have := (hM9.blkLt b hb).2; omega)), hst2, bz9.out.setCell (p := ⟨cB, 0, none⟩) (show w.heap.size ≤ cB by rw [hA0.out]; omega) _, by rw [World.size_setCell]; omega⟩
            clear hlt hfa htr RN9 hR9 hst2 hM9 hMz hL9 hS hspl hxk RA9 RC9 bz9
            have hst9 : Sem.run Tryz.prog (store ⟨cB, 0, none⟩ v9) z9 = .ok () (z9.setCell ⟨cB, 0, none⟩ v9) := by
              rw [run_store _ _ _ _ _ hone9, cc]
              simp [cf]
            go_wp2_with fail
            try (rw [hst9]; go_wp2_with fail)
            go_roundw
            case rel => exact ⟨k + 1, by go_num, by omega, hnew⟩
            case measure => clear hnew; simp only [intOf]; omega

        · go_simp
          have hS1 : (yd.alloc (.cells #[.slice none 0 0] 24)).cell? ⟨cB, 0, none⟩ = some sv ∧ (yd.alloc (.cells #[.slice none 0 0] 24)).cell? ⟨gl, k, none⟩ = some (.string xk) := ⟨(bA.cell (p := ⟨cB, 0, none⟩) (show cB < yd.heap.size by omega)).trans hS0.1, (bA.cell (p := ⟨gl, k, none⟩) (show gl < yd.heap.size by omega)).trans hS0.2⟩
          refine hK.out _ _ hS1 (fun _ => ?_)
          clear hK K8
          try simp only [Act.put, List.setIfInBounds_toArray, List.set_cons_zero, List.set_cons_succ]
          obtain ⟨nb, hnb⟩ : ∃ nb, yd.heap.size = nb := ⟨_, rfl⟩
          have hnbB : cB + 1 ≤ nb := by omega
          have RN7 := RowL.new yd [.slice none 0 0] 24
          have RA7 := hA9.out.call bA
          have RC7 := hC0.out.call bA
          have bz7 := hB0.out.trans (bA.mono (by rw [hA0.out]; omega))
          have hL7 : Hid (∀ (j : Nat) x, (linesOf s)[j]? = some x → (yd.alloc (.cells #[.slice none 0 0] 24)).cell? ⟨gl, j, none⟩ = some (.string x)) := fun j x hj => (bA.cell (p := ⟨gl, j, none⟩) (show gl < yd.heap.size by omega)).trans (hL0.out j x hj)
          generalize yd.alloc (.cells #[.slice none 0 0] 24) = y7 at hS1 RN7 RA7 RC7 bz7 hL7 hl2 ⊢
          rw [hnb] at RN7 hltM ⊢
          refine wpAnyH_ready (rs := [5]) (by kernel_rfl) (by simp) ?_
          refine AllReadyH.cons rfl (fun K8 hK => ?_) AllReadyH.nil
          go_simp
          refine Calls.mono hl2.out ?_
          rintro e y4 ⟨⟨v9, bo, R9, rfl, hlt, htr, hfa⟩, hfr, hov⟩
          clear hl1 hl2
          have hS2 : y4.cell? ⟨cB, 0, none⟩ = some sv ∧ y4.cell? ⟨gl, k, none⟩ = some (.string xk) := ⟨(hfr.bel.cell (p := ⟨cB, 0, none⟩) (show cB < cB + 1 by omega)).trans hS1.1, (hfr.bel.cell (p := ⟨gl, k, none⟩) (show gl < cB + 1 by omega)).trans hS1.2⟩
          go_wp2_with fail
          refine hK.out _ _ hS2 (fun _ => ?_)
          clear hK K8
          try simp only [Act.put, List.setIfInBounds_toArray, List.set_cons_zero, List.set_cons_succ]
          refine take_dst 6 35 (.tuple #[.agg #[v9], .bool bo]) rfl (by kernel_rfl) (by kernel_rfl) (by kernel_rfl) (fun _ _ _ h => h) (Or.inl ⟨by rfl, by intro wv hSv; obtain ⟨k8, k9⟩ := hSv; go_simp⟩) hS2 rfl ?_
          try simp only [Act.put, List.setIfInBounds_toArray, List.set_cons_zero, List.set_cons_succ]
          refine take_dst 7 42 (.agg #[v9]) rfl (by kernel_rfl) (by kernel_rfl) (by kernel_rfl) (fun _ _ _ h => h) (Or.inl ⟨by rfl, by intro wv hSv; obtain ⟨k8, k9⟩ := hSv; go_simp⟩) hS2 rfl ?_
          try simp only [Act.put, List.setIfInBounds_toArray, List.set_cons_zero, List.set_cons_succ]
          refine take_dst 8 43 (.bool bo) rfl (by kernel_rfl) (by kernel_rfl) (by kernel_rfl) (fun _ _ _ h => h) (Or.inl ⟨by rfl, by intro wv hSv; obtain ⟨k8, k9⟩ := hSv; go_simp⟩) hS2 rfl ?_
          try simp only [Act.put, List.setIfInBounds_toArray, List.set_cons_zero, List.set_cons_succ]
          have RN8 : RowL y4 nb 24 [.slice none 0 0] := World.rowIs.of_block RN7 (hfr.block nb (RowL.lt RN7) (fun e => by have := hltM.out nb e; omega))
          have RA9 := hidR (RowL.below RA7 hfr.bel (by omega))
          have RC9 := hidR (RowL.below RC7 hfr.bel (by omega))
          have hL9 : Hid (∀ (j : Nat) x, (linesOf s)[j]? = some x → y4.cell? ⟨gl, j, none⟩ = some (.string x)) := fun j x hj => (hfr.bel.cell (p := ⟨gl, j, none⟩) (show gl < cB + 1 by omega)).trans (hL7.out j x hj)
          have bz9 := hidR (bz7.trans (hfr.bel.mono (by rw [hA0.out]; omega)))
          have hMz : Hid (∀ {Q2 : List PV}, Mk y4 (cB + 1) v9 Q2 → Mk (y4.setRow nb #[v9]) (cB + 1) v9 Q2) := fun h8 => h8.keepB fun b hb => setRow_other _ _ _ _ (h8.notBox RN8 b hb)
          have hone9 : v9.oneCell' = true := hov v9 bo rfl
          have hS3 : (y4.setRow nb #[v9]).cell? ⟨cB, 0, none⟩ = some sv ∧ (y4.setRow nb #[v9]).cell? ⟨gl, k, none⟩ = some (.string xk) := ⟨(World.cell?_of_block (a := ⟨cB, 0, none⟩) (setRow_other y4 nb cB #[v9] (show cB ≠ nb by omega))).trans hS2.1, (World.cell?_of_block (a := ⟨gl, k, none⟩) (setRow_other y4 nb gl #[v9] (show gl ≠ nb by omega))).trans hS2.2⟩
          have hnbl := RN8.lt
          refine ready_storeL 10 (by kernel_rfl) rfl 24 (.tmp 7) (.tmp 42) rfl rfl rfl nb _ [v9] rfl rfl _ RN8 infC1 rfl (by simp only [List.all_cons, List.all_nil, hone9]; rfl) hS3 ?_
          refine take_dst 11 8 (.bool bo) rfl (by kernel_rfl) (by kernel_rfl) (by kernel_rfl) (fun _ _ _ h => h) (Or.inl ⟨by rfl, by intro wv hSv; obtain ⟨k8, k9⟩ := hSv; go_simp⟩) hS3 rfl ?_
          try simp only [Act.put, List.setIfInBounds_toArray, List.set_cons_zero, List.set_cons_succ]
          refine wpAnyH_done (by kernel_rfl) ?_ _
          have RNb := hidR (RN8.setRow [v9] rfl)
          replace RA9 := hidR (RA9.out.rowOther (show A0 ≠ nb by omega) #[v9])
          replace RC9 := hidR (RC9.out.rowOther (show cB ≠ nb by omega) #[v9])
          replace hL9 : Hid (∀ (j : Nat) x, (linesOf s)[j]? = some x → (y4.setRow nb #[v9]).cell? ⟨gl, j, none⟩ = some (.string x)) := fun j x hj => (World.cell?_of_block (a := ⟨gl, j, none⟩) (setRow_other y4 nb gl #[v9] (show gl ≠ nb by omega))).trans (hL9.out j x hj)
          replace bz9 := hidR (below_row bz9.out (show w.heap.size ≤ nb by rw [hA0.out]; omega) #[v9])
          generalize y4.setRow nb #[v9] = z9 at hS3 RNb RA9 RC9 hL9 bz9 hMz ⊢
          have hz9s : nb < z9.heap.size := RNb.out.lt
          have RN9 := RN8
          replace htr := hidR htr
          replace hfa := hidR hfa
          clear hS0 hS1 hS2 hS3 hfr hA9 hC0 hB0 hL0 RN8 hltM
          cases bo with
          | false =>
            have hAs : Hid (AsmR (linesOf s) none k) := by
              have := AsmR.bad (ls := linesOf s) (pre := (linesOf s).take k) (s := xk) (post := (linesOf s).drop (k + 1)) hspl.out hS.out (by have h8 := hfa.out rfl; rw [h8] at hlt; exact hlt)
              rw [List.length_take, Nat.min_eq_left (by rw [hK9.out]; omega)] at this
              exact this
            have a0 := RA9.out.cell 0 rfl
            have af := RA9.out.frozen 0
            have RA10 := hidR ((RA9.out.set 0 (.slice none 0 0)).cell 0 rfl)
            have hbel := hidR (bz9.out.setCell (p := ⟨A0, 0, none⟩) (show w.heap.size ≤ A0 by rw [hA0.out]; exact Nat.le_refl _) (.slice none 0 0))
            have c7 := RNb.out.cell 0 rfl
            clear hlt hfa htr RN9
            go_wp2_with fail
            refine bodyPost_ret (v := .tuple #[.agg #[.slice none 0 0], .int .i64 ((k : Int) + 2)]) (by simp [results, Tryz.results4, go_sem, RA10.out]) rfl ⟨hbel.out, none, k, hAs.out, fun _ => rfl, fun L e => by cases e⟩
          | true =>
            obtain ⟨Q2, hR9, hM9⟩ := htr.out rfl
            rw [hR9] at hlt
            have c7 := RNb.out.cell 0 rfl
            have cc := RC9.out.cell 0 rfl
            have cf := RC9.out.frozen 0
            have hcBl := RC9.out.lt
            have hst2 : Steps [] ((linesOf s).take (k + 1)) (Q2.map (·.p)) := by
              rw [List.take_succ_eq_append_getElem (by rw [hK9.out]; omega)]
              refine hS.out.snoc ?_
              have e : (linesOf s)[k]'(by rw [hK9.out]; omega) = xk := by
                have := hxk.out
                rw [List.getElem?_eq_getElem (by rw [hK9.out]; omega)] at this
                exact Option.some.inj this
              rw [e]
              exact hlt
            have hnew : Hid (SI s w A0 cB gl (cB + 1) (k + 1) (z9.setCell ⟨cB, 0, none⟩ v9)) := ⟨v9, Q2, RA9.out.other (a := ⟨cB, 0, none⟩) (show A0 ≠ cB by omega) _, RC9.out.set 0 _, fun j x hj => (World.cell?_of_block (a := ⟨gl, j, none⟩) (heap_setCell_other z9 ⟨cB, 0, none⟩ gl _ (show gl ≠ cB by omega))).trans (hL9.out j x hj), (hMz.out hM9).keepB (fun b hb => heap_setCell_other z9 ⟨cB, 0, none⟩ b _ (show b ≠ cB by have := (hM9.blkLt b hb).2; omega)), hst2, bz9.out.setCell (p := ⟨cB, 0, none⟩) (show w.heap.size ≤ cB by rw [hA0.out]; omega) _, by rw [World.size_setCell]; omega⟩
            clear hlt hfa htr RN9 hR9 hst2 hM9 hMz hL9 hS hspl hxk RA9 RC9 bz9
            have hst9 : Sem.run Tryz.prog (store ⟨cB, 0, none⟩ v9) z9 = .ok () (z9.setCell ⟨cB, 0, none⟩ v9) := by
              rw [run_store _ _ _ _ _ hone9, cc]
              simp [cf]
            go_wp2_with fail
            try (rw [hst9]; go_wp2_with fail)
            go_roundw
            case rel => exact ⟨k + 1, by go_num, by omega, hnew⟩
            case measure => clear hnew; simp only [intOf]; omega

      · obtain rfl : k = K9 := by omega
        obtain ⟨so, sc, rfl⟩ := own_slice9 hM.row
        have hS9 : Steps [] (linesOf s) (Q.map (·.p)) := by rw [List.take_of_length_le (by rw [hK9.out]; exact Nat.le_refl _)] at hS; exact hS
        have hfe := hS9.few (Few.nil 0)
        rw [hK9.out] at hfe
        have hql := hfe.1
        rw [List.length_map] at hql
        have hqb : Hid (∀ q ∈ Q, q.p.code.n ≤ 1000000 ∧ q.p.consts.n ≤ 1000000 ∧ q.p.ups.n ≤ 1000000) := fun q hq => by have := hfe.2 q.p (List.mem_map.2 ⟨q, hq, rfl⟩); omega
        have hip := hM.isProtos (by omega) hqb.out
        have hMh := hidR hM
        have hwf := hidR (specWF_in (chunkOf (Q.map (·.p))) _ wr hip)
        have hkI : ¬ (((k : Nat) : Int) < ((k : Nat) : Int)) := by omega
        have cC := hC.cell 0 rfl
        have hAs := hidR (AsmR.good hS9)
        replace hip := hidR hip
        replace hB := hidR hB
        replace hA := hidR hA
        replace hC := hidR hC
        clear hS hS9 hL hM hfe
        go_wp2_with fail
        refine Calls.mono hwf.out ?_
        rintro e y5 ⟨⟨rb, rfl, hrb⟩, b5⟩
        clear hwf
        have RA5 := hA.out.call b5
        have a5 := RA5.cell 0 rfl
        have f5 := RA5.frozen 0
        have bz5 := hB.out.trans (b5.mono hB.out.size)
        replace hrb := hidR hrb
        cases rb with
        | false =>
          have hno : Hid (¬ Wf (chunkOf (Q.map (·.p)))) := fun h => by simpa using hrb.out.2 h
          have RR := hidR ((RA5.set 0 (.slice none 0 0)).cell 0 rfl)
          have hbel := hidR (bz5.setCell (p := ⟨A0, 0, none⟩) (show w.heap.size ≤ A0 by rw [hA0.out]; exact Nat.le_refl _) (.slice none 0 0))
          clear RA5 b5
          go_wp2_with fail
          exact bodyPost_ret (v := .tuple #[.agg #[.slice none 0 0], .int .i64 (-1)]) (by simp [results, Tryz.results4, go_sem, RR.out]) rfl ⟨hbel.out, _, 0, hAs.out, (by simp), fun L e => by cases e; exact ⟨fun _ => rfl, fun h => absurd h hno.out⟩⟩
        | true =>
          have hyes : Hid (Wf (chunkOf (Q.map (·.p)))) := hrb.out.1 rfl
          have c5 := (hC.out.call b5).cell 0 rfl
          have RR := hidR ((RA5.set 0 (.slice so Q.length sc)).cell 0 rfl)
          have hbel := hidR (bz5.setCell (p := ⟨A0, 0, none⟩) (show w.heap.size ≤ A0 by rw [hA0.out]; exact Nat.le_refl _) (.slice so Q.length sc))
          have hip5 : Hid (IsProtos (· < (y5.setCell ⟨A0, 0, none⟩ (.slice so Q.length sc)).heap.size) (y5.setCell ⟨A0, 0, none⟩ (.slice so Q.length sc)) (.slice so Q.length sc) (chunkOf (Q.map (·.p)))) := ((hMh.out.later b5).keepB fun b hb => heap_setCell_other y5 ⟨A0, 0, none⟩ b _ (show b ≠ A0 by have := (hMh.out.blkLt b hb).2; omega)).isProtos (by omega) hqb.out
          clear RA5 b5
          go_wp2_with fail
          exact bodyPost_ret (v := .tuple #[.agg #[.slice so Q.length sc], .int .i64 0]) (by simp [results, Tryz.results4, go_sem, RR.out]) rfl ⟨hbel.out, _, 0, hAs.out, (by simp), fun L e => by cases e; exact ⟨fun h => absurd hyes.out h, fun _ => ⟨_, rfl, hip5.out⟩⟩⟩


  · have hK0 : K9 = N + 1 := by
      rw [← hK9, hlsO.out, if_neg (by rw [List.getLast?_append]; simp; intro e; rw [e] at hz; exact hz rfl)]
      simp [hN]
    subst hK0
    have hz2 : (lz.size : Int) ≠ 0 := by omega
    have hzI : ((lz.size : Int) == 0) = false := by simpa using hz2
    replace hK9 := hidR hK9
    replace hN := hidR hN
    have hKl : (N + 1) ≤ 60001 := by omega
    clear hcell hlsO
    go_upto_region 6 with fail
    clear cl0
    replace RA := RA.out
    have RA2 := RA.alloc (.cells #[.slice none 0 0] 24)
    have RC2 := RowL.new y1 [.slice none 0 0] 24
    have b2 : Below y1.heap.size y1 (y1.alloc (.cells #[.slice none 0 0] 24)) := by go_grown
    have hinv : Hid (SI s w A0 y1.heap.size gl (y1.heap.size + 1) 0 (y1.alloc (.cells #[.slice none 0 0] 24))) := ⟨_, [], RA2, RC2, fun j x hj => (b2.cell (p := ⟨gl, j, none⟩) hgl).trans (hlines.out j x hj), Mk.nil _ _, .nil, by rw [hA0.out]; exact bw1.trans (b2.mono (by omega)), by simp⟩
    have hz3 : A0 < y1.heap.size := RA.lt
    clear RA RA2 RC2 b2 hlines bw1
    go_wp2_with fail
    generalize y1.alloc (.cells #[.slice none 0 0] 24) = y2 at hinv ⊢
    obtain ⟨cB, hcB⟩ : ∃ cB, y1.heap.size = cB := ⟨_, rfl⟩
    rw [hcB] at hinv hz3 hgl ⊢
    clear hcB
    go_loopw [6] (fun iv wr => ∃ k : Nat, iv = .int .i64 (k : Int) ∧ k ≤ (N + 1) ∧ Hid (SI s w A0 cB gl (cB + 1) k wr)) (fun iv _ => (N + 1) - (intOf iv).toNat)
    case atStart => exact ⟨0, rfl, by omega, hinv⟩
    case round =>
      clear hinv
      obtain ⟨k, rfl, hk, hI⟩ := hrel
      obtain ⟨sv, Q, hA, hC, hL, hM, hS, hB, hBs⟩ := hI.out
      clear hI
      by_cases hkn : k < (N + 1)
      · obtain ⟨xk, hxk⟩ : ∃ xk, (linesOf s)[k]? = some xk := ⟨_, List.getElem?_eq_getElem (by rw [hK9.out]; omega)⟩
        have hspl : Hid (linesOf s = (linesOf s).take k ++ xk :: (linesOf s).drop (k + 1)) := by
          show linesOf s = _
          conv => lhs; rw [← List.take_append_drop k (linesOf s)]
          congr 1
          rw [List.drop_eq_getElem_cons (by rw [hK9.out]; omega)]
          rw [List.getElem?_eq_getElem (by rw [hK9.out]; omega)] at hxk
          rw [Option.some.inj hxk]
        have hxz : xk.size ≤ 100000 := by
          have hmem : xk ∈ cutB 10 s := by
            have hm := List.mem_of_getElem? hxk
            unfold linesOf at hm
            split at hm
            · exact List.dropLast_subset _ hm
            · exact hm
          have := cutB_mem 10 s xk hmem
          omega
        have hfew : Few 100000 (Q.map (·.p)) := by
          have h8 := hS.few (Few.nil 0)
          rw [List.length_take] at h8
          exact ⟨by have := h8.1; omega, fun p hp => by have := h8.2 p hp; omega⟩
        have hkI : (k : Int) < (((N + 1) : Nat) : Int) := by omega
        have hkw : IntKind.i64.wrap ((k : Int) + 2) = (k : Int) + 2 := by rw [IntKind.wrap_i64]; omega
        have cC := hC.cell 0 rfl
        have cL := hL k xk hxk
        have hS0 : wr.drew.cell? ⟨cB, 0, none⟩ = some sv ∧ wr.drew.cell? ⟨gl, k, none⟩ = some (.string xk) := ⟨cC, cL⟩
        have hcBl := hC.lt
        have hM0 : Mk wr.drew (cB + 1) sv Q := hM.later (Below.refl _ _).drew
        have hC0 := hidR (hC.call (Below.refl _ _).drew)
        have hA9 := hidR (hA.call (Below.refl _ _).drew)
        have hB0 := hidR hB.drew
        have hL0 : Hid (∀ (j : Nat) x, (linesOf s)[j]? = some x → wr.drew.cell? ⟨gl, j, none⟩ = some (.string x)) := hL
        have hBs0 : cB + 1 ≤ wr.drew.heap.size := hBs
        replace hxk := hidR hxk
        replace hS := hidR hS
        replace hfew := hidR hfew
        clear hA hC hL hM hB
        go_upto_region 10 with fail
        refine wp_region_held_drew (S := fun y => y.cell? ⟨cB, 0, none⟩ = some sv ∧ y.cell? ⟨gl, k, none⟩ = some (.string xk)) (by kernel_rfl) hS0 (fun hH => ?_)
        clear hH cC cL
        generalize wr.drew = yd at hS0 hM0 hC0 hA9 hB0 hL0 hBs0 ⊢
        refine take_dst 0 36 (.agg #[sv]) rfl (by kernel_rfl) (by kernel_rfl) (by kernel_rfl) (fun _ _ _ h => h) (Or.inl ⟨by rfl, by intro wv hSv; obtain ⟨k8, k9⟩ := hSv; go_simp⟩) hS0 rfl ?_
        try simp only [Act.put, List.setIfInBounds_toArray, List.set_cons_zero, List.set_cons_succ]
        refine take_dst 1 37 (.slice (some ⟨gl, 0, none⟩) (N + 1) cl) rfl (by kernel_rfl) (by kernel_rfl) (by kernel_rfl) (fun _ _ _ h => h) (Or.inl ⟨by rfl, by intro wv hSv; obtain ⟨k8, k9⟩ := hSv; go_simp⟩) hS0 rfl ?_
        try simp only [Act.put, List.setIfInBounds_toArray, List.set_cons_zero, List.set_cons_succ]
        refine take_dst 2 38 (.int .i64 (k : Int)) rfl (by kernel_rfl) (by kernel_rfl) (by kernel_rfl) (fun _ _ _ h => h) (Or.inl ⟨by rfl, by intro wv hSv; obtain ⟨k8, k9⟩ := hSv; go_simp⟩) hS0 rfl ?_
        try simp only [Act.put, List.setIfInBounds_toArray, List.set_cons_zero, List.set_cons_succ]
        refine take_dst 3 39 (.pointer (some ⟨gl, k, none⟩)) rfl (by kernel_rfl) (by kernel_rfl) (by kernel_rfl) (fun _ _ _ h => h) (Or.inl ⟨by rfl, by intro wv hSv; obtain ⟨k8, k9⟩ := hSv; go_simp <;> omega⟩) hS0 rfl ?_
        try simp only [Act.put, List.setIfInBounds_toArray, List.set_cons_zero, List.set_cons_succ]
        refine take_dst 4 40 (.string xk) rfl (by kernel_rfl) (by kernel_rfl) (by kernel_rfl) (fun _ _ _ h => h) (Or.inl ⟨by rfl, by intro wv hSv; obtain ⟨k8, k9⟩ := hSv; go_simp⟩) hS0 rfl ?_
        try simp only [Act.put, List.setIfInBounds_toArray, List.set_cons_zero, List.set_cons_succ]
        have hl1 := hidR (l6Line_in xk hxz sv Q (cB + 1) yd hM0 hBs0 hfew.out)
        have bA : Below yd.heap.size yd (yd.alloc (.cells #[.slice none 0 0] 24)) := (Below.refl _ _).alloc (Nat.le_refl _) _
        have hl2 := hidR (l6Line_in xk hxz sv Q (cB + 1) _ (hM0.later bA) (Nat.le_trans hBs0 bA.size) hfew.out)
        have hltM : Hid (∀ b, some b ∈ sv.ownBlock :: Q.flatMap PV.blks → b < yd.heap.size) := fun b hb => (hM0.blkLt b hb).1
        clear hM0
        refine wpAnyH_ready (rs := [5, 9]) (by kernel_rfl) (by simp) ?_
        refine (AllReadyH.cons rfl (fun K8 hK => ?_) (AllReadyH.cons rfl (fun K8 hK => ?_) AllReadyH.nil))
        · go_simp
          refine Calls.mono hl1.out ?_
          rintro e y3 ⟨⟨v9, bo, R9, rfl, hlt, htr, hfa⟩, hfr, hov⟩
          clear hl1 hl2
          have hS1 : y3.cell? ⟨cB, 0, none⟩ = some sv ∧ y3.cell? ⟨gl, k, none⟩ = some (.string xk) := ⟨(hfr.bel.cell (p := ⟨cB, 0, none⟩) (show cB < cB + 1 by omega)).trans hS0.1, (hfr.bel.cell (p := ⟨gl, k, none⟩) (show gl < cB + 1 by omega)).trans hS0.2⟩
          go_wp2_with fail
          refine hK.out _ _ hS1 (fun _ => ?_)
          clear hK K8
          try simp only [Act.put, List.setIfInBounds_toArray, List.set_cons_zero, List.set_cons_succ]
          refine take_dst 6 35 (.tuple #[.agg #[v9], .bool bo]) rfl (by kernel_rfl) (by kernel_rfl) (by kernel_rfl) (fun _ _ _ h => h) (Or.inl ⟨by rfl, by intro wv hSv; obtain ⟨k8, k9⟩ := hSv; go_simp⟩) hS1 rfl ?_
          try simp only [Act.put, List.setIfInBounds_toArray, List.set_cons_zero, List.set_cons_succ]
          refine take_dst 7 42 (.agg #[v9]) rfl (by kernel_rfl) (by kernel_rfl) (by kernel_rfl) (fun _ _ _ h => h) (Or.inl ⟨by rfl, by intro wv hSv; obtain ⟨k8, k9⟩ := hSv; go_simp⟩) hS1 rfl ?_
          try simp only [Act.put, List.setIfInBounds_toArray, List.set_cons_zero, List.set_cons_succ]
          refine take_dst 8 43 (.bool bo) rfl (by kernel_rfl) (by kernel_rfl) (by kernel_rfl) (fun _ _ _ h => h) (Or.inl ⟨by rfl, by intro wv hSv; obtain ⟨k8, k9⟩ := hSv; go_simp⟩) hS1 rfl ?_
          try simp only [Act.put, List.setIfInBounds_toArray, List.set_cons_zero, List.set_cons_succ]

          have bA3 : Below y3.heap.size y3 (y3.alloc (.cells #[.slice none 0 0] 24)) := (Below.refl _ _).alloc (Nat.le_refl _) _
          have hS2 : (y3.alloc (.cells #[.slice none 0 0] 24)).cell? ⟨cB, 0, none⟩ = some sv ∧ (y3.alloc (.cells #[.slice none 0 0] 24)).cell? ⟨gl, k, none⟩ = some (.string xk) := ⟨(bA3.cell (p := ⟨cB, 0, none⟩) (show cB < y3.heap.size by have := hfr.bel.size; omega)).trans hS1.1, (bA3.cell (p := ⟨gl, k, none⟩) (show gl < y3.heap.size by have := hfr.bel.size; omega)).trans hS1.2⟩
          refine wpAnyH_ready (rs := [9]) (by kernel_rfl) (by simp) ?_
          refine AllReadyH.cons rfl (fun K8 hK => ?_) AllReadyH.nil
          go_simp
          refine hK.out _ _ hS2 (fun _ => ?_)
          clear hK K8
          try simp only [Act.put, List.setIfInBounds_toArray, List.set_cons_zero, List.set_cons_succ]
          obtain ⟨nb, hnb⟩ : ∃ nb, y3.heap.size = nb := ⟨_, rfl⟩
          have hnbB : cB + 1 ≤ nb := by have := hfr.bel.size; omega
          have RN8 := RowL.new y3 [.slice none 0 0] 24
          have RA9 := hidR (RowL.below (hA9.out.below hfr.bel (by omega)) (bA3.mono (show cB + 1 ≤ y3.heap.size by omega)) (by omega))
          have RC9 := hidR (RowL.below (hC0.out.below hfr.bel (by omega)) (bA3.mono (show cB + 1 ≤ y3.heap.size by omega)) (by omega))
          have hL9 : Hid (∀ (j : Nat) x, (linesOf s)[j]? = some x → (y3.alloc (.cells #[.slice none 0 0] 24)).cell? ⟨gl, j, none⟩ = some (.string x)) := fun j x hj => (bA3.cell (p := ⟨gl, j, none⟩) (show gl < y3.heap.size by omega)).trans ((hfr.bel.cell (p := ⟨gl, j, none⟩) (show gl < cB + 1 by omega)).trans (hL0.out j x hj))
          have bz9 := hidR ((hB0.out.trans (hfr.bel.mono (by rw [hA0.out]; omega))).trans (bA3.mono (by rw [hA0.out]; omega)))
          have hMz : Hid (∀ {Q2 : List PV}, Mk y3 (cB + 1) v9 Q2 → Mk ((y3.alloc (.cells #[.slice none 0 0] 24)).setRow nb #[v9]) (cB + 1) v9 Q2) := fun h8 => (h8.later bA3).keepB fun b hb => setRow_other _ _ _ _ (show b ≠ nb by have := (h8.blkLt b hb).1; omega)
          generalize y3.alloc (.cells #[.slice none 0 0] 24) = y4 at hS2 RN8 RA9 RC9 hL9 bz9 hMz ⊢
          rw [hnb] at RN8 ⊢
          have hone9 : v9.oneCell' = true := hov v9 bo rfl
          have hS3 : (y4.setRow nb #[v9]).cell? ⟨cB, 0, none⟩ = some sv ∧ (y4.setRow nb #[v9]).cell? ⟨gl, k, none⟩ = some (.string xk) := ⟨(World.cell?_of_block (a := ⟨cB, 0, none⟩) (setRow_other y4 nb cB #[v9] (show cB ≠ nb by omega))).trans hS2.1, (World.cell?_of_block (a := ⟨gl, k, none⟩) (setRow_other y4 nb gl #[v9] (show gl ≠ nb by omega))).trans hS2.2⟩
          have hnbl := RN8.lt
          refine ready_storeL 10 (by kernel_rfl) rfl 24 (.tmp 7) (.tmp 42) rfl rfl rfl nb _ [v9] rfl rfl _ RN8 infC1 rfl (by simp only [List.all_cons, List.all_nil, hone9]; rfl) hS3 ?_
          refine take_dst 11 8 (.bool bo) rfl (by kernel_rfl) (by kernel_rfl) (by kernel_rfl) (fun _ _ _ h => h) (Or.inl ⟨by rfl, by intro wv hSv; obtain ⟨k8, k9⟩ := hSv; go_simp⟩) hS3 rfl ?_
          try simp only [Act.put, List.setIfInBounds_toArray, List.set_cons_zero, List.set_cons_succ]
          refine wpAnyH_done (by kernel_rfl) ?_ _
          have RNb := hidR (RN8.setRow [v9] rfl)
          replace RA9 := hidR (RA9.out.rowOther (show A0 ≠ nb by omega) #[v9])
          replace RC9 := hidR (RC9.out.rowOther (show cB ≠ nb by omega) #[v9])
          replace hL9 : Hid (∀ (j : Nat) x, (linesOf s)[j]? = some x → (y4.setRow nb #[v9]).cell? ⟨gl, j, none⟩ = some (.string x)) := fun j x hj => (World.cell?_of_block (a := ⟨gl, j, none⟩) (setRow_other y4 nb gl #[v9] (show gl ≠ nb by omega))).trans (hL9.out j x hj)
          replace bz9 := hidR (below_row bz9.out (show w.heap.size ≤ nb by rw [hA0.out]; omega) #[v9])
          generalize y4.setRow nb #[v9] = z9 at hS3 RNb RA9 RC9 hL9 bz9 hMz ⊢
          have hz9s : nb < z9.heap.size := RNb.out.lt
          have RN9 := RN8
          replace htr := hidR htr
          replace hfa := hidR hfa
          clear hS0 hS1 hS2 hS3 hfr hA9 hC0 hB0 hL0 RN8 hltM
          cases bo with
          | false =>
            have hAs : Hid (AsmR (linesOf s) none k) := by
              have := AsmR.bad (ls := linesOf s) (pre := (linesOf s).take k) (s := xk) (post := (linesOf s).drop (k + 1)) hspl.out hS.out (by have h8 := hfa.out rfl; rw [h8] at hlt; exact hlt)
              rw [List.length_take, Nat.min_eq_left (by rw [hK9.out]; omega)] at this
              exact this
            have a0 := RA9.out.cell 0 rfl
            have af := RA9.out.frozen 0
            have RA10 := hidR ((RA9.out.set 0 (.slice none 0 0)).cell 0 rfl)
            have hbel := hidR (bz9.out.setCell (p := ⟨A0, 0, none⟩) (show w.heap.size ≤ A0 by rw [hA0.out]; exact Nat.le_refl _) (.slice none 0 0))
            have c7 := RNb.out.cell 0 rfl
            clear hlt hfa htr RN9
            go_wp2_with fail
            refine bodyPost_ret (v := .tuple #[.agg #[.slice none 0 0], .int .i64 ((k : Int) + 2)]) (by simp [results, Tryz.results4, go_sem, RA10.out]) rfl ⟨hbel.out, none, k, hAs.out, fun _ => rfl, fun L e => by cases e⟩
          | true =>
            obtain ⟨Q2, hR9, hM9⟩ := htr.out rfl
            rw [hR9] at hlt
            have c7 := RNb.out.cell 0 rfl
            have cc := RC9.out.cell 0 rfl
            have cf := RC9.out.frozen 0
            have hcBl := RC9.out.lt
            have hst2 : Steps [] ((linesOf s).take (k + 1)) (Q2.map (·.p)) := by
              rw [List.take_succ_eq_append_getElem (by rw [hK9.out]; omega)]
              refine hS.out.snoc ?_
              have e : (linesOf s)[k]'(by rw [hK9.out]; omega) = xk := by
                have := hxk.out
                rw [List.getElem?_eq_getElem (by rw [hK9.out]; omega)] at this
                exact Option.some.inj this
              rw [e]
              exact hlt
            have hnew : Hid (SI s w A0 cB gl (cB + 1) (k + 1) (z9.setCell ⟨cB, 0, none⟩ v9)) := ⟨v9, Q2, RA9.out.other (a := ⟨cB, 0, none⟩) (show A0 ≠ cB by omega) _, RC9.out.set 0 _, fun j x hj => (World.cell?_of_block (a := ⟨gl, j, none⟩) (heap_setCell_other z9 ⟨cB, 0, none⟩ gl _ (show gl ≠ cB by omega))).trans (hL9.out j x hj), (hMz.out hM9).keepB (fun b hb => heap_setCell_other z9 ⟨cB, 0, none⟩ b _ (show b ≠ cB by have := (hM9.blkLt b hb).2; omega)), hst2, bz9.out.setCell (p := ⟨cB, 0, none⟩) (show w.heap.size ≤ cB by rw [hA0.out]; omega) _, by rw [World.size_setCell]; omega⟩
            clear hlt hfa htr RN9 hR9 hst2 hM9 hMz hL9 hS hspl hxk RA9 RC9 bz9
            have hst9 : Sem.run Tryz.prog (store ⟨cB, 0, none⟩ v9) z9 = .ok () (z9.setCell ⟨cB, 0, none⟩ v9) := by
              rw [run_store _ _ _ _ _ hone9, cc]
              simp [cf]
            go_wp2_with fail
            try (rw [hst9]; go_wp2_with fail)
            go_roundw
            case rel => exact ⟨k + 1, by go_num, by omega, hnew⟩
            case measure => clear hnew; simp only [intOf]; omega

        · go_simp
          have hS1 : (yd.alloc (.cells #[.slice none 0 0] 24)).cell? ⟨cB, 0, none⟩ = some sv ∧ (yd.alloc (.cells #[.slice none 0 0] 24)).cell? ⟨gl, k, none⟩ = some (.string xk) := ⟨(bA.cell (p := ⟨cB, 0, none⟩) (show cB < yd.heap.size by omega)).trans hS0.1, (bA.cell (p := ⟨gl, k, none⟩) (show gl < yd.heap.size by omega)).trans hS0.2⟩
          refine hK.out _ _ hS1 (fun _ => ?_)
          clear hK K8
          try simp only [Act.put, List.setIfInBounds_toArray, List.set_cons_zero, List.set_cons_succ]
          obtain ⟨nb, hnb⟩ : ∃ nb, yd.heap.size = nb := ⟨_, rfl⟩
          have hnbB : cB + 1 ≤ nb := by omega
          have RN7 := RowL.new yd [.slice none 0 0] 24
          have RA7 := hA9.out.call bA
          have RC7 := hC0.out.call bA
          have bz7 := hB0.out.trans (bA.mono (by rw [hA0.out]; omega))
          have hL7 : Hid (∀ (j : Nat) x, (linesOf s)[j]? = some x → (yd.alloc (.cells #[.slice none 0 0] 24)).cell? ⟨gl, j, none⟩ = some (.string x)) := fun j x hj => (bA.cell (p := ⟨gl, j, none⟩) (show gl < yd.heap.size by omega)).trans (hL0.out j x hj)
          generalize yd.alloc (.cells #[.slice none 0 0] 24) = y7 at hS1 RN7 RA7 RC7 bz7 hL7 hl2 ⊢
          rw [hnb] at RN7 hltM ⊢
          refine wpAnyH_ready (rs := [5]) (by kernel_rfl) (by simp) ?_
          refine AllReadyH.cons rfl (fun K8 hK => ?_) AllReadyH.nil
          go_simp
          refine Calls.mono hl2.out ?_
          rintro e y4 ⟨⟨v9, bo, R9, rfl, hlt, htr, hfa⟩, hfr, hov⟩
          clear hl1 hl2
          have hS2 : y4.cell? ⟨cB, 0, none⟩ = some sv ∧ y4.cell? ⟨gl, k, none⟩ = some (.string xk) := ⟨(hfr.bel.cell (p := ⟨cB, 0, none⟩) (show cB < cB + 1 by omega)).trans hS1.1, (hfr.bel.cell (p := ⟨gl, k, none⟩) (show gl < cB + 1 by omega)).trans hS1.2⟩
          go_wp2_with fail
          refine hK.out _ _ hS2 (fun _ => ?_)
          clear hK K8
          try simp only [Act.put, List.setIfInBounds_toArray, List.set_cons_zero, List.set_cons_succ]
          refine take_dst 6 35 (.tuple #[.agg #[v9], .bool bo]) rfl (by kernel_rfl) (by kernel_rfl) (by kernel_rfl) (fun _ _ _ h => h) (Or.inl ⟨by rfl, by intro wv hSv; obtain ⟨k8, k9⟩ := hSv; go_simp⟩) hS2 rfl ?_
          try simp only [Act.put, List.setIfInBounds_toArray, List.set_cons_zero, List.set_cons_succ]
          refine take_dst 7 42 (.agg #[v9]) rfl (by kernel_rfl) (by kernel_rfl) (by kernel_rfl) (fun _ _ _ h => h) (Or.inl ⟨by rfl, by intro wv hSv; obtain ⟨k8, k9⟩ := hSv; go_simp⟩) hS2 rfl ?_
          try simp only [Act.put, List.setIfInBounds_toArray, List.set_cons_zero, List.set_cons_succ]
          refine take_dst 8 43 (.bool bo) rfl (by kernel_rfl) (by kernel_rfl) (by kernel_rfl) (fun _ _ _ h => h) (Or.inl ⟨by rfl, by intro wv hSv; obtain ⟨k8, k9⟩ := hSv; go_simp⟩) hS2 rfl ?_
          try simp only [Act.put, List.setIfInBounds_toArray, List.set_cons_zero, List.set_cons_succ]
          have RN8 : RowL y4 nb 24 [.slice none 0 0] := World.rowIs.of_block RN7 (hfr.block nb (RowL.lt RN7) (fun e => by have := hltM.out nb e; omega))
          have RA9 := hidR (RowL.below RA7 hfr.bel (by omega))
          have RC9 := hidR (RowL.below RC7 hfr.bel (by omega))
          have hL9 : Hid (∀ (j : Nat) x, (linesOf s)[j]? = some x → y4.cell? ⟨gl, j, none⟩ = some (.string x)) := fun j x hj => (hfr.bel.cell (p := ⟨gl, j, none⟩) (show gl < cB + 1 by omega)).trans (hL7.out j x hj)
          have bz9 := hidR (bz7.trans (hfr.bel.mono (by rw [hA0.out]; omega)))
          have hMz : Hid (∀ {Q2 : List PV}, Mk y4 (cB + 1) v9 Q2 → Mk (y4.setRow nb #[v9]) (cB + 1) v9 Q2) := fun h8 => h8.keepB fun b hb => setRow_other _ _ _ _ (h8.notBox RN8 b hb)
          have hone9 : v9.oneCell' = true := hov v9 bo rfl
          have hS3 : (y4.setRow nb #[v9]).cell? ⟨cB, 0, none⟩ = some sv ∧ (y4.setRow nb #[v9]).cell? ⟨gl, k, none⟩ = some (.string xk) := ⟨(World.cell?_of_block (a := ⟨cB, 0, none⟩) (setRow_other y4 nb cB #[v9] (show cB ≠ nb by omega))).trans hS2.1, (World.cell?_of_block (a := ⟨gl, k, none⟩) (setRow_other y4 nb gl #[v9] (show gl ≠ nb by omega))).trans hS2.2⟩
          have hnbl := RN8.lt
          refine ready_storeL 10 (by kernel_rfl) rfl 24 (.tmp 7) (.tmp 42) rfl rfl rfl nb _ [v9] rfl rfl _ RN8 infC1 rfl (by simp only [List.all_cons, List.all_nil, hone9]; rfl) hS3 ?_
          refine take_dst 11 8 (.bool bo) rfl (by kernel_rfl) (by kernel_rfl) (by kernel_rfl) (fun _ _ _ h => h) (Or.inl ⟨by rfl, by intro wv hSv; obtain ⟨k8, k9⟩ := hSv; go_simp⟩) hS3 rfl ?_
          try simp only [Act.put, List.setIfInBounds_toArray, List.set_cons_zero, List.set_cons_succ]
          refine wpAnyH_done (by kernel_rfl) ?_ _
          have RNb := hidR (RN8.setRow [v9] rfl)
          replace RA9 := hidR (RA9.out.rowOther (show A0 ≠ nb by omega) #[v9])
          replace RC9 := hidR (RC9.out.rowOther (show cB ≠ nb by omega) #[v9])
          replace hL9 : Hid (∀ (j : Nat) x, (linesOf s)[j]? = some x → (y4.setRow nb #[v9]).cell? ⟨gl, j, none⟩ = some (.string x)) := fun j x hj => (World.cell?_of_block (a := ⟨gl, j, none⟩) (setRow_other y4 nb gl #[v9] (show gl ≠ nb by omega))).trans (hL9.out j x hj)
          replace bz9 := hidR (below_row bz9.out (show w.heap.size ≤ nb by rw [hA0.out]; omega) #[v9])
          generalize y4.setRow nb #[v9] = z9 at hS3 RNb RA9 RC9 hL9 bz9 hMz ⊢
          have hz9s : nb < z9.heap.size := RNb.out.lt
          have RN9 := RN8
          replace htr := hidR htr
          replace hfa := hidR hfa
          clear hS0 hS1 hS2 hS3 hfr hA9 hC0 hB0 hL0 RN8 hltM
          cases bo with
          | false =>
            have hAs : Hid (AsmR (linesOf s) none k) := by
              have := AsmR.bad (ls := linesOf s) (pre := (linesOf s).take k) (s := xk) (post := (linesOf s).drop (k + 1)) hspl.out hS.out (by have h8 := hfa.out rfl; rw [h8] at hlt; exact hlt)
              rw [List.length_take, Nat.min_eq_left (by rw [hK9.out]; omega)] at this
              exact this
            have a0 := RA9.out.cell 0 rfl
            have af := RA9.out.frozen 0
            have RA10 := hidR ((RA9.out.set 0 (.slice none 0 0)).cell 0 rfl)
            have hbel := hidR (bz9.out.setCell (p := ⟨A0, 0, none⟩) (show w.heap.size ≤ A0 by rw [hA0.out]; exact Nat.le_refl _) (.slice none 0 0))
            have c7 := RNb.out.cell 0 rfl
            clear hlt hfa htr RN9
            go_wp2_with fail
            refine bodyPost_ret (v := .tuple #[.agg #[.slice none 0 0], .int .i64 ((k : Int) + 2)]) (by simp [results, Tryz.results4, go_sem, RA10.out]) rfl ⟨hbel.out, none, k, hAs.out, fun _ => rfl, fun L e => by cases e⟩
          | true =>
            obtain ⟨Q2, hR9, hM9⟩ := htr.out rfl
            rw [hR9] at hlt
            have c7 := RNb.out.cell 0 rfl
            have cc := RC9.out.cell 0 rfl
            have cf := RC9.out.frozen 0
            have hcBl := RC9.out.lt
            have hst2 : Steps [] ((linesOf s).take (k + 1)) (Q2.map (·.p)) := by
              rw [List.take_succ_eq_append_getElem (by rw [hK9.out]; omega)]
              refine hS.out.snoc ?_
              have e : (linesOf s)[k]'(by rw [hK9.out]; omega) = xk := by
                have := hxk.out
                rw [List.getElem?_eq_getElem (by rw [hK9.out]; omega)] at this
                exact Option.some.inj this
              rw [e]
              exact hlt
            have hnew : Hid (SI s w A0 cB gl (cB + 1) (k + 1) (z9.setCell ⟨cB, 0, none⟩ v9)) := ⟨v9, Q2, RA9.out.other (a := ⟨cB, 0, none⟩) (show A0 ≠ cB by omega) _, RC9.out.set 0 _, fun j x hj => (World.cell?_of_block (a := ⟨gl, j, none⟩) (heap_setCell_other z9 ⟨cB, 0, none⟩ gl _ (show gl ≠ cB by omega))).trans (hL9.out j x hj), (hMz.out hM9).keepB (fun b hb => heap_setCell_other z9 ⟨cB, 0, none⟩ b _ (show b ≠ cB by have := (hM9.blkLt b hb).2; omega)), hst2, bz9.out.setCell (p := ⟨cB, 0, none⟩) (show w.heap.size ≤ cB by rw [hA0.out]; omega) _, by rw [World.size_setCell]; omega⟩
            clear hlt hfa htr RN9 hR9 hst2 hM9 hMz hL9 hS hspl hxk RA9 RC9 bz9
            have hst9 : Sem.run Tryz.prog (store ⟨cB, 0, none⟩ v9) z9 = .ok () (z9.setCell ⟨cB, 0, none⟩ v9) := by
              rw [run_store _ _ _ _ _ hone9, cc]
              simp [cf]
            go_wp2_with fail
            try (rw [hst9]; go_wp2_with fail)
            go_roundw
            case rel => exact ⟨k + 1, by go_num, by omega, hnew⟩
            case measure => clear hnew; simp only [intOf]; omega

      · obtain rfl : k = N + 1 := by omega
        obtain ⟨so, sc, rfl⟩ := own_slice9 hM.row
        have hS9 : Steps [] (linesOf s) (Q.map (·.p)) := by rw [List.take_of_length_le (by rw [hK9.out]; exact Nat.le_refl _)] at hS; exact hS
        have hfe := hS9.few (Few.nil 0)
        rw [hK9.out] at hfe
        have hql := hfe.1
        rw [List.length_map] at hql
        have hqb : Hid (∀ q ∈ Q, q.p.code.n ≤ 1000000 ∧ q.p.consts.n ≤ 1000000 ∧ q.p.ups.n ≤ 1000000) := fun q hq => by have := hfe.2 q.p (List.mem_map.2 ⟨q, hq, rfl⟩); omega
        have hip := hM.isProtos (by omega) hqb.out
        have hMh := hidR hM
        have hwf := hidR (specWF_in (chunkOf (Q.map (·.p))) _ wr hip)
        have hkI : ¬ ((((N + 1) : Nat) : Int) < (((N + 1) : Nat) : Int)) := by omega
        have cC := hC.cell 0 rfl
        have hAs := hidR (AsmR.good hS9)
        replace hip := hidR hip
        replace hB := hidR hB
        replace hA := hidR hA
        replace hC := hidR hC
        clear hS hS9 hL hM hfe
        go_wp2_with fail
        refine Calls.mono hwf.out ?_
        rintro e y5 ⟨⟨rb, rfl, hrb⟩, b5⟩
        clear hwf
        have RA5 := hA.out.call b5
        have a5 := RA5.cell 0 rfl
        have f5 := RA5.frozen 0
        have bz5 := hB.out.trans (b5.mono hB.out.size)
        replace hrb := hidR hrb
        cases rb with
        | false =>
          have hno : Hid (¬ Wf (chunkOf (Q.map (·.p)))) := fun h => by simpa using hrb.out.2 h
          have RR := hidR ((RA5.set 0 (.slice none 0 0)).cell 0 rfl)
          have hbel := hidR (bz5.setCell (p := ⟨A0, 0, none⟩) (show w.heap.size ≤ A0 by rw [hA0.out]; exact Nat.le_refl _) (.slice none 0 0))
          clear RA5 b5
          go_wp2_with fail
          exact bodyPost_ret (v := .tuple #[.agg #[.slice none 0 0], .int .i64 (-1)]) (by simp [results, Tryz.results4, go_sem, RR.out]) rfl ⟨hbel.out, _, 0, hAs.out, (by simp), fun L e => by cases e; exact ⟨fun _ => rfl, fun h => absurd h hno.out⟩⟩
        | true =>
          have hyes : Hid (Wf (chunkOf (Q.map (·.p)))) := hrb.out.1 rfl
          have c5 := (hC.out.call b5).cell 0 rfl
          have RR := hidR ((RA5.set 0 (.slice so Q.length sc)).cell 0 rfl)
          have hbel := hidR (bz5.setCell (p := ⟨A0, 0, none⟩) (show w.heap.size ≤ A0 by rw [hA0.out]; exact Nat.le_refl _) (.slice so Q.length sc))
          have hip5 : Hid (IsProtos (· < (y5.setCell ⟨A0, 0, none⟩ (.slice so Q.length sc)).heap.size) (y5.setCell ⟨A0, 0, none⟩ (.slice so Q.length sc)) (.slice so Q.length sc) (chunkOf (Q.map (·.p)))) := ((hMh.out.later b5).keepB fun b hb => heap_setCell_other y5 ⟨A0, 0, none⟩ b _ (show b ≠ A0 by have := (hMh.out.blkLt b hb).2; omega)).isProtos (by omega) hqb.out
          clear RA5 b5
          go_wp2_with fail
          exact bodyPost_ret (v := .tuple #[.agg #[.slice so Q.length sc], .int .i64 0]) (by simp [results, Tryz.results4, go_sem, RR.out]) rfl ⟨hbel.out, _, 0, hAs.out, (by simp), fun L e => by cases e; exact ⟨fun h => absurd hyes.out h, fun _ => ⟨_, rfl, hip5.out⟩⟩⟩


end Go.Proofs.YtkanjbopfflioaaGreatDoor

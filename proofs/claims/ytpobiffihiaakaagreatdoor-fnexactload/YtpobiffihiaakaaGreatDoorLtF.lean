import Derived.Test.YtpobiffihiaakaaGreatDoorLtE
namespace Go.Proofs.YtpobiffihiaakaaGreatDoor
open Go.RowKit
set_option linter.unusedVariables false
set_option linter.unusedSimpArgs false
set_option maxRecDepth 100000
set_option maxHeartbeats 2000000
def zP : Value := .agg #[.int .i64 0, .bool false, .int .i64 0, .slice none 0 0, .slice none 0 0, .slice none 0 0, .int .i64 0, .string ⟨#[]⟩, .slice none 0 0, .slice none 0 0]
theorem infPr : (Tryz.prog.info? 38).map (fun i => (i.zero, i.size, i.bytes)) = some (some zP, 10, 168) := by kernel_rfl
/-- room for so many prototypes. -/
theorem grow_in (n : Nat) (hn : n ≤ 1000000) (w : World) :
    Calls Tryz.prog 70 #[.slice none 0 0, .int .i64 (n : Int)] w fun e w' => ∃ v, e = .returned v ∧ w'.ownsRow w.heap.size 38 10 v 0 [] ∧ Below w.heap.size w w' := by
  by_cases h : n = 0
  · subst h
    refine (Any8.slices_Grow_room Tryz.growP none 0 0 0 w (by omega) (by omega) (by omega) (by omega)).mono fun e w' ⟨he, hw⟩ => ⟨_, he, ?_, ?_⟩
    · exact World.ownsRow_nil _ _ _ _
    · rw [hw]; exact Below.refl _ _
  · obtain ⟨i0, hi, hz0, hz1, hz2⟩ := info_of infPr
    have hm : 0 + n ≤ maxLen := by simp only [maxLen]; omega
    refine (Any8.slices_Grow_grow Tryz.growP i0 zP hi hz0 (by omega) none 0 0 n [] w (by omega) (by omega) (by rw [hz2]; omega) (by omega) (by simp) (fun _ => rfl) (fun a ha => by cases ha)).mono fun e w' ⟨he, hw⟩ => ⟨_, he, ?_, ?_⟩
    · have hge := grownCap_ge w (0 + n) 0 38
      have hle := grownCap_le_maxLen w (0 + n) 0 38 hm
      rw [hw]
      refine ⟨rfl, .inr ⟨w.heap.size, _, _, rfl, Nat.le_refl _, heap_alloc_new w.drew _, Nat.zero_le _, hle, ?_, by simp⟩⟩
      simp only [Array.size_append, size_zeroCells, zP, Value.cells, List.size_toArray, List.length_nil]
      simp
      rw [← Nat.add_mul]
      congr 1
      rw [Nat.zero_add] at hge
      exact Nat.add_sub_cancel' hge
    · rw [hw]
      exact (Below.refl w.heap.size w).drew.alloc (Nat.le_refl _) _
/-- what the first k trees hold. -/
def pre (L : List (Value × List PI)) (k : Nat) : List PI := (L.take k).flatMap (·.2)
theorem pre_succ {L : List (Value × List PI)} {k : Nat} (hk : k < L.length) : pre L (k + 1) = pre L k ++ L[k].2 := by
  unfold pre
  rw [List.take_succ_eq_append_getElem hk, List.flatMap_append]
  simp
theorem pre_le (L : List (Value × List PI)) (k : Nat) : (pre L k).length ≤ (L.flatMap (·.2)).length := by
  have h : L.flatMap (·.2) = pre L k ++ (L.drop k).flatMap (·.2) := by
    unfold pre
    rw [← List.flatMap_append, List.take_append_drop]
  rw [h, List.length_append]
  omega
theorem concat_in (L : List (Value × List PI)) (b : Nat) (ao : Option Addr) (cap : Nat) (w : World)
    (hrow : w.ownsRow b 22 1 (.slice ao L.length cap) L.length (L.map (·.1)))
    (heach : ∀ x ∈ L, ∃ m, w.ownsRow m 38 10 x.1 x.2.length (x.2.flatMap pcs)) (hne : ∀ x ∈ L, x.2 ≠ []) (h1 : ∀ x ∈ L, ∀ u ∈ x.2.flatMap pcs, u.oneCell' = true)
    (hn : L.length ≤ 200) (htot : (L.flatMap (·.2)).length ≤ 1000000) :
    Calls Tryz.prog 49 #[.slice ao L.length cap] w fun e w' => ∃ v, e = .returned v ∧ w'.ownsRow w.heap.size 38 10 v (L.flatMap (·.2)).length ((L.flatMap (·.2)).flatMap pcs) ∧ Below w.heap.size w w' := by
  obtain ⟨i0, hi, hz0, hz1, hz2⟩ := info_of infPr
  -- where the k-th tree lies
  have hat : ∀ k (hk : k < L.length), ∃ g gx cx m, ao = some ⟨g, 0, none⟩ ∧ g < w.heap.size ∧ L[k].1 = .slice (some ⟨gx, 0, none⟩) L[k].2.length cx ∧ w.cell? ⟨g, k, none⟩ = some L[k].1 ∧ w.ownsRow m 38 10 (.slice (some ⟨gx, 0, none⟩) L[k].2.length cx) L[k].2.length (L[k].2.flatMap pcs) := by
    intro k hk
    obtain ⟨m, hm⟩ := heach L[k] (List.getElem_mem hk)
    have hpos : 0 < L[k].2.length := List.length_pos_iff.2 (hne _ (List.getElem_mem hk))
    obtain ⟨gx, cx, he, -, -⟩ := hm.form hpos
    rcases hrow.2 with ⟨_, h0⟩ | ⟨g, cp, cur, he2, _, hg, hnc, _, hcs, htk⟩
    · omega
    · simp only [Value.slice.injEq] at he2
      obtain ⟨rfl, -, rfl⟩ := he2
      refine ⟨g, gx, cx, m, rfl, (Array.getElem?_eq_some_iff.1 hg).1, he, ?_, by rw [← he]; exact hm⟩
      have hc := hrow.cellAt k (by omega)
      rw [hc, List.getElem?_map, List.getElem?_eq_getElem hk]
      rfl
  obtain ⟨N, hN⟩ : ∃ N : Int, N = (L.length : Int) := ⟨_, rfl⟩
  replace hat := hidR hat
  replace h1 := hidR h1
  replace hrow := hidR hrow
  clear heach hne
  go_enter Tryz.func49, Tryz.ntmps49
  go_wp2_with fail
  go_loopw [3, 11] (fun z i wr => ∃ k : Nat, i = .int .i64 k ∧ k ≤ L.length ∧ z = .int .i64 ((pre L k).length : Int) ∧ w = wr) (fun _ i _ => L.length - (intOf i).toNat)
  case atStart => exact ⟨0, rfl, Nat.zero_le _, rfl, rfl⟩
  case round =>
    obtain ⟨k, rfl, q1, rfl, rfl⟩ := hrel
    by_cases hk : k < L.length
    · obtain ⟨g, gx, cx, m, rfl, hgl, he, hc, -⟩ := hat.out k hk
      have hle := pre_le L (k + 1)
      have hsu : ((pre L (k + 1)).length : Int) = ((pre L k).length : Int) + (L[k].2.length : Int) := by rw [pre_succ hk, List.length_append]; omega
      rw [he] at hc
      have hle2 : ((pre L k).length : Int) + (L[k].2.length : Int) ≤ 1000000 := by omega
      obtain ⟨l, hl⟩ : ∃ l, L[k].2.length = l := ⟨_, rfl⟩
      rw [hl] at hc hsu hle2
      obtain ⟨p, hp⟩ : ∃ p, (pre L k).length = p := ⟨_, rfl⟩
      rw [hp] at hsu hle2 ⊢
      have hkI : (k : Int) < (L.length : Int) := by omega
      have hp0 : (0 : Int) ≤ (p : Int) + (l : Int) := by omega
      replace hsu := hidR hsu
      replace he := hidR he
      clear hp hl hle
      go_wp2_with fail
      go_roundw
      case rel => exact ⟨k + 1, by go_num, by omega, by rw [hsu.out], trivial⟩
      case measure => simp [intOf]; omega
    · obtain rfl : k = L.length := by omega
      have hpe : pre L L.length = L.flatMap (·.2) := by unfold pre; rw [List.take_length]
      rw [hpe]
      obtain ⟨T, hT⟩ : ∃ T, (L.flatMap (·.2)).length = T := ⟨_, rfl⟩
      rw [hT] at htot ⊢
      have hgr := hidR (grow_in T (by omega) w)
      replace hT := hidR hT
      go_wp2_with fail
      refine Calls.mono hgr.out ?_
      rintro e y0 ⟨v0, rfl, hv0, hb0⟩
      clear hgr
      obtain ⟨o0, c0, rfl⟩ := own_slice hv0
      replace hv0 := hidR hv0
      go_wp2_with fail
      go_loopw [6, 27] (fun z i wr => ∃ k : Nat, i = .int .i64 k ∧ k ≤ L.length ∧ Hid (wr.ownsRow w.heap.size 38 10 z (pre L k).length ((pre L k).flatMap pcs) ∧ Below w.heap.size w wr)) (fun _ i _ => L.length - (intOf i).toNat)
      case atStart => exact ⟨0, rfl, Nat.zero_le _, hv0.out, hb0⟩
      case round =>
        obtain ⟨k, rfl, q2, q3⟩ := hrel
        by_cases hk2 : k < L.length
        · obtain ⟨g, gx, cx, m, rfl, hgl, he, hc, hm⟩ := hat.out k hk2
          rw [he] at hc
          have hcy := (q3.out.2.cell (p := ⟨g, k, none⟩) hgl).trans hc
          have hmy := hidR (own_kept (y' := wr) hm (fun q hq => q3.out.2.block q (hm.lt q hq).2))
          have hle := pre_le L (k + 1)
          have hsu : (pre L (k + 1)).length = (pre L k).length + L[k].2.length := by rw [pre_succ hk2, List.length_append]
          have hflat : (pre L (k + 1)).flatMap pcs = (pre L k).flatMap pcs ++ L[k].2.flatMap pcs := by rw [pre_succ hk2, List.flatMap_append]
          have hone := hidR (h1.out L[k] (List.getElem_mem hk2))
          have hT2 := hT.out
          have htt : (pre L k).length + L[k].2.length ≤ 1000000 := by omega
          have hkI : (k : Int) < (L.length : Int) := by omega
          have hlen := hidR (pcs_len L[k].2)
          replace hsu := hidR hsu
          replace hflat := hidR hflat
          replace htt := hidR htt
          clear hc hle hT2 he hm
          obtain ⟨X, hX⟩ : ∃ X, L[k].2 = X := ⟨_, rfl⟩
          rw [hX] at hcy hmy hone hsu hflat htt hlen
          clear hX
          go_wp2_with (at_builtin; refine wpList_append_own_at _ rfl (.tmp 31) (.tmp 32) 22 rfl w.heap.size 38 i0 zP 10 168 Tryz.underlying22 hi hz0 hz1 hz2 rfl (by decide) u6 (pre L k).length _ rfl q3.out.1 ⟨gx, 0, none⟩ X.length cx (X.flatMap pcs) rfl hlen.out ?c1 hone.out ?c3 ?c4 ?c5 ?_)
          case c1 => intro j u hj; rw [Addr.add_mid, Nat.zero_add, hmy.out.cellAt j (by rw [← hlen.out]; exact (List.getElem?_eq_some_iff.1 hj).1)]; exact hj
          case c3 => have := htt.out; simp only [maxLen]; omega
          case c4 => have := htt.out; omega
          case c5 => exact q3.out.2.size
          intro v' w' hown hg _ hat2
          have hrel : Hid (w'.ownsRow w.heap.size 38 10 v' (pre L (k + 1)).length ((pre L (k + 1)).flatMap pcs) ∧ Below w.heap.size w w') := by
            refine ⟨by rw [hsu.out, hflat.out]; exact hown, Below.grown q3.out.2 hg q3.out.2.size (fun q hq => (q3.out.1.lt q hq).1)⟩
          clear hown hg hat2 hi hz0 hz1 hz2 hmy hone hlen hsu hflat htt q3 hcy
          go_wp2_with fail
          go_roundw
          case rel => exact ⟨k + 1, by go_num, by omega, hrel.out⟩
          case measure => simp [intOf]; omega
        · obtain rfl : k = L.length := by omega
          go_wp2_with fail
          go_ret
          have := q3.out
          rw [hpe] at this
          exact ⟨_, rfl, this.1, this.2⟩
end Go.Proofs.YtpobiffihiaakaaGreatDoor

import Derived.Test.YtpobiffihiaakaaGreatDoorLuP
namespace Go.Proofs.YtpobiffihiaakaaGreatDoor
open Go.RowKit
set_option linter.unusedVariables false
set_option linter.unusedSimpArgs false
set_option maxRecDepth 100000
set_option maxHeartbeats 1000000
/-- the model's list of numbers left; the last one stands first in L. -/
def lfC (L : List Nat) : List Value := L.reverse.map fun (n : Nat) => Value.int .i64 (n : Int)
theorem lfC_cons (n : Nat) (L : List Nat) : lfC (n :: L) = lfC L ++ [.int .i64 (n : Int)] := by simp [lfC]
theorem lfC_len (L : List Nat) : (lfC L).length = L.length := by simp [lfC]
theorem grownBy_alloc {w w' : World} {o : Obj} {b : Option Nat} (h : (w.alloc o).grownBy w' b) : w.grownBy w' b :=
  ⟨h.os, h.tape, h.output, by have := h.size; rw [World.size_alloc] at this; omega, fun k hk hb => (h.block k (by rw [World.size_alloc]; omega) hb).trans (heap_alloc_old w o hk)⟩
theorem grownBy_refl (w : World) (b : Option Nat) : w.grownBy w b := ⟨rfl, rfl, rfl, Nat.le_refl _, fun _ _ _ => rfl⟩
theorem own_pop {y : World} {b g cap n : Nat} {e : TypeId} {xs : List Value} {x : Value} (h : y.ownsRow b e 1 (.slice (some ⟨g, 0, none⟩) (n + 1) cap) (n + 1) (xs ++ [x])) : y.ownsRow b e 1 (.slice (some ⟨g, 0, none⟩) n cap) n xs := by
  have hl : xs.length = n := by have := h.1; simp at this; omega
  refine ⟨by omega, ?_⟩
  rcases h.2 with ⟨h0, _⟩ | ⟨g', cap', cur, he, hb, hg, hnc, hcm, hcs, htk⟩
  · cases h0
  · simp only [Value.slice.injEq, Option.some.injEq, Addr.mk.injEq, and_true, true_and] at he
    obtain ⟨rfl, rfl⟩ := he
    refine .inr ⟨g, cap, cur, rfl, hb, hg, by omega, hcm, hcs, ?_⟩
    have h2 := congrArg (List.take (n * 1)) htk
    rw [List.take_take, show min (n * 1) ((n + 1) * 1) = n * 1 by omega] at h2
    rw [h2, List.take_left' (by omega)]
theorem infInt : (Tryz.prog.info? 3).map (fun i => (i.zero, i.size, i.bytes)) = some (some (.int .i64 0), 1, 8) := by kernel_rfl
theorem l3Up_in (b : Nat) (v : Value) (L : List Nat) (w : World) (h : w.ownsRow b 3 1 v L.length (lfC L)) (hL : L.length ≤ 1000) (hn : ∀ n ∈ L, n ≤ 1000) (hb : b ≤ w.heap.size) :
    Calls Tryz.prog 10 #[v] w fun e w' => ∃ v', e = .returned v' ∧ w'.ownsRow b 3 1 v' (upL L).length (lfC (upL L)) ∧ w.grownBy w' v.ownBlock := by
  obtain ⟨i0, hi, hz0, hz1, hz2⟩ := info_of infInt
  obtain ⟨ob, hob⟩ : ∃ ob, v.ownBlock = ob := ⟨_, rfl⟩
  rw [hob]
  replace h := hidR h
  replace hn := hidR hn
  replace hob := hidR hob
  go_enter Tryz.func10, Tryz.ntmps10
  go_wp2_with fail
  go_loopw [0] (fun o wr => w = wr ∧ ∃ M : List Nat, M.length ≤ L.length ∧ Hid (upL M = upL L ∧ (∀ n ∈ M, n ≤ 1000) ∧ w.ownsRow b 3 1 o M.length (lfC M) ∧ o.ownBlock = ob) ∧ ∃ oa ca, o = .slice oa M.length ca) (fun o _ => match o with | .slice _ n _ => n | _ => 0)
  case atStart =>
    obtain ⟨oa, ca, e⟩ := own_slice h.out
    exact ⟨rfl, L, Nat.le_refl _, ⟨rfl, hn.out, h.out, hob.out⟩, oa, ca, e⟩
  case round =>
    obtain ⟨rfl, M, hM, hq, oa, ca, rfl⟩ := hrel
    cases M with
    | nil =>
      go_wp2_with fail
      go_ret
      refine ⟨_, rfl, ?_, grownBy_refl _ _⟩
      rw [← hq.out.1]
      exact hq.out.2.2.1
    | cons n M =>
      obtain ⟨g, c9, e9, hbg, hgl⟩ := hq.out.2.2.1.form (by simp)
      simp only [Value.slice.injEq] at e9
      obtain ⟨rfl, -, rfl⟩ := e9
      have hlen : (n :: M).length = M.length + 1 := rfl
      rw [hlen] at hq hM ⊢
      have hrow := hq.out.2.2.1
      rw [lfC_cons] at hrow
      have hcell : w.cell? ⟨g, M.length, none⟩ = some (.int .i64 (n : Int)) := by
        rw [hrow.cellAt M.length (by omega), List.getElem?_append_right (by rw [lfC_len]; exact Nat.le_refl _), lfC_len]
        simp
      have hpop := hidR (own_pop hrow)
      have hn1 := hq.out.2.1 n (by simp)
      have hcap : M.length + 1 ≤ ca := by
        rcases hrow.2 with ⟨h0, _⟩ | ⟨g', cap', cur, he, _, _, hnc, _⟩
        · cases h0
        · simp only [Value.slice.injEq] at he
          omega
      have hup := hidR hq.out.1
      have hall := hidR hq.out.2.1
      have hob2 := hidR hq.out.2.2.2
      clear hrow hq
      by_cases h1 : 1 < n
      · have h1I : (1 : Int) < (n : Int) := by omega
        have e : upL (n :: M) = (n - 1) :: M := by simp [upL, h1]
        have hp2 : (0 : Int) < (n : Int) - 1 := by omega
        replace e := hidR e
        go_wp2_with (at_builtin; refine wpList_append_own_at _ rfl (.tmp 21) (.tmp 23) 32 rfl b 3 i0 (.int .i64 0) 1 8 Tryz.underlying32 hi hz0 hz1 hz2 rfl (by decide) (.slice (some ⟨g, 0, none⟩) M.length ca) M.length _ rfl (hpop.out.alloc _) ⟨w.heap.size, 0, none⟩ 1 1 [.int .i64 ((n : Int) - 1)] rfl rfl ?c1 ?c2 ?c3 ?c4 ?c5 ?_)
        case c1 => exact World.news_of_block (heap_alloc_new _ _)
        case c2 => intro u hu; simp only [List.mem_cons, List.not_mem_nil, or_false] at hu; subst hu; rfl
        case c3 => simp only [maxLen]; omega
        case c4 => omega
        case c5 => simp only [World.size_alloc]; omega
        intro v' w' hown hg _ hat
        have hfin : Hid (w'.ownsRow b 3 1 v' (upL L).length (lfC (upL L)) ∧ w.grownBy w' ob) := by
          refine ⟨?_, ?_⟩
          · rw [← hup.out, e.out, lfC_cons, List.length_cons, show ((n - 1 : Nat) : Int) = (n : Int) - 1 by omega]
            exact hown
          · have := grownBy_alloc hg
            rw [← hob2.out]
            exact this
        clear hown hg hat hi hz0 hz1 hz2
        obtain ⟨o9, c9, rfl⟩ := own_slice hfin.out.1
        go_wp2_with fail
        go_ret
        exact ⟨_, rfl, hfin.out.1, hfin.out.2⟩
      · have h1I : ¬ (1 : Int) < (n : Int) := by omega
        have e : upL (n :: M) = upL M := by simp [upL, h1]
        go_wp2_with fail
        go_roundw
        case rel => exact ⟨trivial, M, by omega, ⟨by rw [← e]; exact hup.out, fun k hk => hall.out k (List.mem_cons_of_mem _ hk), hpop.out, hob2.out⟩, _, _, rfl⟩
        case measure => simp
end Go.Proofs.YtpobiffihiaakaaGreatDoor

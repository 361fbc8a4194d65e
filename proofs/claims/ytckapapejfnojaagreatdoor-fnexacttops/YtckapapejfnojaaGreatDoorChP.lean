import Derived.Maps.AppendAt
import Derived.Test.YtckapapejfnojaaGreatDoorChO
namespace Go.Proofs.YtckapapejfnojaaGreatDoor
open Go.RowKit Go.Shelf
set_option linter.unusedVariables false
set_option linter.unusedSimpArgs false
attribute [local go_sem] Oper.semAt_some

open Classical in
/-- the end of number i, where it has one. -/
noncomputable def EE (K : Nat → Int) (n i : Nat) : Nat := if h : ∃ e g, Fo K n 1 i e g then h.choose else 0
theorem EE_eq {K : Nat → Int} {n i e g : Nat} (t : Fo K n 1 i e g) : EE K n i = e := by
  have hex : ∃ e g, Fo K n 1 i e g := ⟨e, g, t⟩
  unfold EE
  rw [dif_pos hex]
  obtain ⟨g', t'⟩ := hex.choose_spec
  exact (t'.det t).1
def Tree (K : Nat → Int) (n : Nat) : Prop := ∃ h, Fo K n 1 0 n h
open Classical in
/-- the numbers that are gone through. -/
noncomputable def nodeSeq (K : Nat → Int) (n : Nat) : List (Fin n) := if Tree K n then List.finRange n else []
noncomputable def nodeV (K : Nat → Int) (n : Nat) (x : Fin n) : Value := .agg #[.int .i64 (x.val : Int), .int .i64 (depth (EE K n) x.val : Int), .int .i64 (EE K n x.val : Int)]
theorem take_succ_fin {n k : Nat} (h : k < n) : (List.finRange n).take (k + 1) = (List.finRange n).take k ++ [⟨k, h⟩] := by
  rw [List.take_add_one]
  congr 1
  simp [h]
theorem st_depth (E : Nat → Nat) (k : Nat) : (st E (k + 1)) = E k :: pop k (st E k) := rfl

def iv (x : Nat) : Value := .int .i64 (x : Int)
def lenOf : Value → Nat | .slice _ n _ => n | _ => 0

theorem ownsRow_shorter {w : World} {base : Nat} {g cap n : Nat} {xs : List Value} {y : Value} (h : w.ownsRow base 3 1 (.slice (some ⟨g, 0, none⟩) (n + 1) cap) (n + 1) (xs ++ [y])) (hx : xs.length = n) :
    w.ownsRow base 3 1 (.slice (some ⟨g, 0, none⟩) n cap) n xs := by
  obtain ⟨_, h2⟩ := h
  refine ⟨by simpa using hx, ?_⟩
  rcases h2 with ⟨h, _⟩ | ⟨g', cap', cur, he, hb, hc, h3, h4, h5, h6⟩
  · cases h
  · simp only [Value.slice.injEq, Option.some.injEq, Addr.mk.injEq] at he
    obtain ⟨⟨rfl, _⟩, _, rfl⟩ := he
    refine .inr ⟨g, cap, cur, rfl, hb, hc, by omega, h4, h5, ?_⟩
    have e1 : List.take n (xs ++ [y]) = xs := by rw [← hx]; simp
    have e2 : List.take n (List.take ((n + 1) * 1) cur.toList) = List.take n cur.toList := by
      rw [List.take_take, Nat.mul_one, Nat.min_eq_left (by omega)]
    rw [Nat.mul_one, ← e2, h6]
    exact e1

theorem pop_le (i : Nat) : ∀ s : List Nat, (pop i s).length ≤ s.length
  | [] => by simp [pop]
  | x :: s => by
    rw [pop]
    split
    · have := pop_le i s
      simp
      omega
    · simp
theorem st_le (E : Nat → Nat) : ∀ k, (st E k).length ≤ k
  | 0 => by simp [st]
  | k + 1 => by
    have h1 := st_le E k
    have h2 := pop_le k (st E k)
    simp [st]
    omega
theorem depth_le (E : Nat → Nat) (k : Nat) : depth E k ≤ k := Nat.le_trans (pop_le _ _) (st_le E k)
theorem ownsRow_cap {w : World} {base g n cap : Nat} {xs : List Value} (h : w.ownsRow base 3 1 (.slice (some ⟨g, 0, none⟩) n cap) n xs) : n ≤ cap ∧ cap ≤ 9223372036854775807 := by
  rcases h.2 with ⟨h, _⟩ | ⟨g', cap', cur, he, _, _, hle, hm, _⟩
  · cases h
  · simp only [Value.slice.injEq] at he
    obtain ⟨_, _, rfl⟩ := he
    exact ⟨hle, by simpa [maxLen] using hm⟩
theorem appended {n k L B : Nat} {E : Nat → Nat} {s : List Nat} {J : List (Fin n) → World → Prop} {W3 w4 : World} {v' : Value} {ao : Option Addr} {cap : Nat} {o : Obj} (hst : st E (k + 1) = E k :: s) (hL : s.length = L)
    (hown' : w4.ownsRow (B + 1) 3 1 v' (L + 1) (s.reverse.map iv ++ [.int .i64 (E k : Int)])) (hgrow : (W3.alloc o).grownBy w4 (Value.slice ao L cap).ownBlock) (hs3 : B < W3.heap.size) (hJ : Stable B J)
    (hJ3 : J (List.take (k + 1) (List.finRange n)) W3) (hrow : W3.rowIs B 3 n (fun j => .int .i64 (E j : Int))) (hao : ∀ a, ao = some a → B + 1 ≤ a.block) :
    ∃ a4 c4, v' = .slice a4 (st E (k + 1)).length c4 ∧ Hid (J (List.take (k + 1) (List.finRange n)) w4 ∧ w4.ownsRow (B + 1) 3 1 (.slice a4 (st E (k + 1)).length c4) (st E (k + 1)).length ((st E (k + 1)).reverse.map iv) ∧ w4.rowIs B 3 n (fun j => .int .i64 (E j : Int))) := by
  obtain ⟨g, c, rfl⟩ := ownsRow_succ hown'
  have hlen : (st E (k + 1)).length = L + 1 := by rw [hst]; simp [hL]
  have hb : Below (B + 1) W3 w4 := ((Below.refl _ W3).alloc hs3 o).grown hgrow (by simp; omega) (fun r e => by
    cases ao with
    | none => simp [Value.ownBlock] at e
    | some a =>
      simp [Value.ownBlock] at e
      have := hao a rfl
      omega)
  refine ⟨some ⟨g, 0, none⟩, c, by rw [hlen], ?_, ?_, ?_⟩
  · exact hJ _ _ _ hJ3 (hb.mono (by omega))
  · rw [hlen, hst]
    simpa [iv] using hown'
  · exact hrow.of_block (hb.block _ (by omega))
theorem ownsRow_keepP {w w' : World} {base : Nat} {v : Value} {n : Nat} {xs : List Value} (h : w.ownsRow base 3 1 v n xs) (hk : ∀ b, base ≤ b → b < w.heap.size → w'.heap[b]? = w.heap[b]?) : w'.ownsRow base 3 1 v n xs := by
  obtain ⟨h1, h2⟩ := h
  refine ⟨h1, ?_⟩
  rcases h2 with h | ⟨g, cap, cur, he, hb, hc, h3⟩
  · exact .inl h
  · exact .inr ⟨g, cap, cur, he, hb, (hk g hb (Array.getElem?_eq_some_iff.1 hc).1).trans hc, h3⟩
set_option maxRecDepth 100000 in
set_option maxHeartbeats 4000000 in
theorem nodes1_in (m : Nat) (K : Nat → Int) (n cap : Nat) (ao : Option Addr) (lo l Bn : Nat) (W : World) (hm : 2 ≤ m) (hn : n ≤ 200) (hlo : lo ≤ W.heap.size) (hBn : W.cell? ⟨Bn, 0, none⟩ = some (.slice ao n cap))
    (hc : 0 < n → ∃ b o, ao = some ⟨b, o, none⟩ ∧ b < lo ∧ ∀ i, i < n → W.cell? ⟨b, o + i * 10 + 6, none⟩ = some (.int .i64 (K i))) :
    SeqB m Tryz.prog 149 #[.pointer (some ⟨Bn, 0, none⟩)] (fun x : Fin n => #[nodeV K n x]) lo l (fun ys => ys = nodeSeq K n) (fun pre => pre <+: nodeSeq K n ∧ pre ≠ []) n W := by
  intro J Jx hJ hJx hY h0
  have hte := treeEnds_in ao n cap K W hn (fun hp => by obtain ⟨b, o, e, hb, hcc⟩ := hc hp; exact ⟨b, o, e, by omega, hcc⟩)
  refine callsIn_of_wp Tryz.func149 rfl trivial ?_ rfl
  simp only [Tryz.ntmps149, List.size_toArray, List.length_cons, List.length_nil, Nat.reduceAdd, Nat.reduceSub, Array.replicate_succ, Array.replicate_zero, List.push_toArray, List.append_toArray, List.nil_append, List.cons_append]
  gi_wp2_with fail
  refine ⟨trivial, fun _ => by omega, ?_⟩
  refine (callsIn_wide.2 hte).mono ?_
  rintro e w1 ⟨⟨v, rfl, hv⟩, b1⟩
  rcases hv with ⟨rfl, hno⟩ | ⟨E, hpos, rfl, hrow, hE, hE0⟩
  · have hseq : nodeSeq K n = [] := by unfold nodeSeq; exact if_neg (fun ⟨h, t⟩ => hno h t)
    have hJ1 : Hid (J [] w1) := hJ _ _ _ h0 b1
    clear hno hte hY hc
    gi_wp2
    refine wpIn_loop_rounds 1 ?_
    rw [roundsIn_succ]
    gi_wp2
    go_end0
    exact ⟨⟨_, rfl⟩, .inl ⟨[], hseq.symm, hJ1.out⟩⟩
  · have hEE : ∀ i, i < n → EE K n i = E i := fun i hi => by obtain ⟨h, t⟩ := hE i hi; exact EE_eq t
    have hseq : nodeSeq K n = List.finRange n := by
      unfold nodeSeq
      refine if_pos ?_
      obtain ⟨h, t⟩ := hE 0 hpos
      rw [hE0] at t
      exact ⟨h, t⟩
    have hrow' : w1.rowIs W.heap.size 3 n (fun j => .int .i64 (EE K n j : Int)) := hrow.congr fun i hi => by rw [hEE i hi]
    have hJ1 : J [] w1 := hJ _ _ _ h0 b1
    have hsz1 : W.heap.size < w1.heap.size := hrow'.lt
    have hinv : Hid (J ((List.finRange n).take 0) w1 ∧ w1.ownsRow (W.heap.size + 1) 3 1 (.slice none 0 0) 0 ((st (EE K n) 0).reverse.map iv) ∧ w1.rowIs W.heap.size 3 n (fun j => .int .i64 (EE K n j : Int))) :=
      ⟨by simpa using hJ1, World.ownsRow_nil _ _ _ _, hrow'⟩
    clear hrow hE hE0 hEE hrow' hJ1 hte hc h0 hBn
    obtain ⟨i0, hi, hz0, hz1, hz2⟩ := info_parts (show (Tryz.prog.info? 3).map (fun i => (i.zero, i.size, i.bytes)) = some (some (.int .i64 0), 1, 8) by kernel_rfl)
    gi_wp2
    gi_loopw [3, 9] (fun a i wr => ∃ (k cap' : Nat) (ao' : Option Addr), a = .slice ao' (st (EE K n) k).length cap' ∧ i = .int .i64 (k : Int) ∧ k ≤ n ∧
      Hid (J ((List.finRange n).take k) wr ∧ wr.ownsRow (W.heap.size + 1) 3 1 (.slice ao' (st (EE K n) k).length cap') (st (EE K n) k).length ((st (EE K n) k).reverse.map iv) ∧ wr.rowIs W.heap.size 3 n (fun j => .int .i64 (EE K n j : Int))))
      (fun _ i _ => n - (intOf i).toNat)
    case atStart => exact ⟨0, 0, none, rfl, rfl, by omega, hinv⟩
    case round =>
      clear hinv
      obtain ⟨k, cap', ao', rfl, rfl, hkn, hH⟩ := hrel
      by_cases hk : k < n
      · have hki : (k : Int) < (n : Int) := by omega
        have d0 := hH.out.2.2.cell hk
        gi_wp2
        gi_loopw [3] (fun a ws => ∃ (s : List Nat), a = .slice ao' s.length cap' ∧ wr = ws ∧ s.length ≤ n ∧ Hid (pop k s = pop k (st (EE K n) k) ∧ wr.ownsRow (W.heap.size + 1) 3 1 (.slice ao' s.length cap') s.length (s.reverse.map iv))) (fun a _ => lenOf a)
        case atStart => exact ⟨st (EE K n) k, rfl, rfl, Nat.le_trans (st_le _ _) hkn, rfl, hH.out.2.1⟩
        case round =>
          obtain ⟨s, rfl, rfl, hsn, hP⟩ := hrel
          cases s with
          | nil =>
            have hps : pop k ([] : List Nat) = [] := rfl
            simp only [List.length_nil]
            have hd : depth (EE K n) k = 0 := by rw [depth, ← hP.out.1, hps]; rfl
            have hR0 : 0 ≤ k := by rw [← hd]; exact depth_le _ _
            obtain ⟨fn, tmps, assign, body, hy, hR⟩ := hY _ ⟨k, hk⟩ wr hH.out.1 (by simp; omega)
            rw [← take_succ_fin hk] at hR
            simp [nodeV, hd] at hy
            have hown : Hid (wr.ownsRow (W.heap.size + 1) 3 1 (.slice ao' (0) cap') (0) (([] : List Nat).reverse.map iv)) := hP.out.2
            have hrw : Hid (wr.rowIs W.heap.size 3 n (fun j => .int .i64 (EE K n j : Int))) := hH.out.2.2
            have hst : Hid (st (EE K n) (k + 1) = EE K n k :: ([] : List Nat)) := by
              show st (EE K n) (k + 1) = EE K n k :: ([] : List Nat)
              rw [st_depth, ← hP.out.1, hps]
            clear hP hH hps hd
            gi_wp2
            refine ⟨fun _ => by omega, ?_⟩
            refine hR.mono ?_
            rintro e W3 (⟨rfl, hJ3, hk3⟩ | ⟨rfl, hJx3⟩)
            · have hown3 := ownsRow_keepP (w' := W3) hown.out (fun b h1 h2 => hk3.block b (.inr (by omega)) h2)
              have hrw3 := hrw.out.of_block (w' := W3) (hk3.block _ (.inr (Nat.le_refl _)) hrw.out.lt)
              have hs3 : W.heap.size < W3.heap.size := hrw3.lt
              have hJ3' : Hid (J (List.take (k + 1) (List.finRange n)) W3) := hJ3
              have hrw3' : Hid (W3.rowIs W.heap.size 3 n (fun j => .int .i64 (EE K n j : Int))) := hrw3
              have hown3' : Hid (W3.ownsRow (W.heap.size + 1) 3 1 (.slice ao' (0) cap') (0) (([] : List Nat).reverse.map iv)) := hown3
              clear hJ3 hrw3 hown hrw hown3 hk3 hy hR
              gi_wp2_with (gi_at_builtin; refine wpListIn_append_own _ rfl _ _ 34 rfl (W.heap.size + 1) 3 i0 (.int .i64 0) 1 8 Tryz.underlying34 hi hz0 hz1 hz2 rfl (by decide) _ _ _ rfl (hown3'.out.alloc _) ⟨W3.heap.size, 0, none⟩ 1 1 [.int .i64 (EE K n k : Int)] rfl rfl (cell_one_new _ _ _) (by simp [Value.oneCell']) (by simp only [maxLen]; omega) (by omega) (by simp; omega) ?_; intro v' w4 hown' hgrow _; have hnew := appended hst.out (by simp) hown' hgrow hs3 hJ hJ3'.out hrw3'.out (fun a e => (hown3'.out.lt a.block (by rw [e]; rfl)).1); obtain ⟨a4, c4, rfl, hnew⟩ := hnew)
              go_roundw
              case rel => exact ⟨k + 1, c4, a4, rfl, rfl, by omega, hnew⟩
              case measure => simp [intOf]; omega
            · have hpre : Hid (List.take (k + 1) (List.finRange n) <+: nodeSeq K n ∧ List.take (k + 1) (List.finRange n) ≠ []) := by
                refine ⟨by rw [hseq]; exact List.take_prefix _ _, fun h => ?_⟩
                have := congrArg List.length h
                simp at this
                omega
              have hJx3' : Hid (Jx (List.take (k + 1) (List.finRange n)) W3) := hJx3
              clear hJx3 hown hrw hst hy hR
              gi_wp2
              refine bodyPost_ret (results_none rfl _ _ _) rfl ?_
              exact ⟨⟨_, rfl⟩, .inr ⟨_, hpre.out, hJx3'.out⟩⟩
          | cons x s =>
            obtain ⟨L, hL⟩ : ∃ L, s.length = L := ⟨_, rfl⟩
            obtain ⟨g, cap2, he⟩ := ownsRow_succ (k := s.length) hP.out.2
            simp only [List.length_cons, Value.slice.injEq] at he
            obtain ⟨rfl, _, rfl⟩ := he
            have hcell : wr.cell? ⟨g, L, none⟩ = some (.int .i64 (x : Int)) := by
              have := hP.out.2.cellAt L (by simp [hL])
              rw [this]
              simp [← hL, iv]
            have hcap := ownsRow_cap hP.out.2
            rw [List.length_cons, hL] at hsn hcap
            obtain ⟨hcap, hcap2⟩ := hcap
            simp only [List.length_cons, hL]
            by_cases hx : x ≤ k
            · have hxi : (x : Int) ≤ (k : Int) := by omega
              have hnext : Hid (pop k s = pop k (st (EE K n) k) ∧ wr.ownsRow (W.heap.size + 1) 3 1 (.slice (some ⟨g, 0, none⟩) s.length cap') s.length (s.reverse.map iv)) := by
                refine ⟨?_, ?_⟩
                · rw [← hP.out.1, pop, if_pos hx]
                · have := hP.out.2
                  simp only [List.length_cons, List.reverse_cons, List.map_append, List.map_cons, List.map_nil] at this
                  exact ownsRow_shorter this (by simp)
              clear hP
              gi_wp2
              go_roundw
              case rel => exact ⟨s, by rw [hL], by first | trivial | rfl, by omega, hnext⟩
              case measure => simp [lenOf]
            · have hxi : ¬ (x : Int) ≤ (k : Int) := by omega
              have hps : pop k (x :: s) = x :: s := by rw [pop, if_neg hx]
              have hd : depth (EE K n) k = L + 1 := by rw [depth, ← hP.out.1, hps]; simp [hL]
              have hR0 : L + 1 ≤ k := by rw [← hd]; exact depth_le _ _
              obtain ⟨fn, tmps, assign, body, hy, hR⟩ := hY _ ⟨k, hk⟩ wr hH.out.1 (by simp; omega)
              rw [← take_succ_fin hk] at hR
              simp [nodeV, hd] at hy
              have hown : Hid (wr.ownsRow (W.heap.size + 1) 3 1 (.slice (some ⟨g, 0, none⟩) (L + 1) cap') (L + 1) ((x :: s).reverse.map iv)) := (by have h := hP.out.2; rw [List.length_cons, hL] at h; exact h)
              have hrw : Hid (wr.rowIs W.heap.size 3 n (fun j => .int .i64 (EE K n j : Int))) := hH.out.2.2
              have hst : Hid (st (EE K n) (k + 1) = EE K n k :: (x :: s)) := by
                show st (EE K n) (k + 1) = EE K n k :: (x :: s)
                rw [st_depth, ← hP.out.1, hps]
              clear hP hH hps hd
              gi_wp2
              refine ⟨fun _ => by omega, ?_⟩
              refine hR.mono ?_
              rintro e W3 (⟨rfl, hJ3, hk3⟩ | ⟨rfl, hJx3⟩)
              · have hown3 := ownsRow_keepP (w' := W3) hown.out (fun b h1 h2 => hk3.block b (.inr (by omega)) h2)
                have hrw3 := hrw.out.of_block (w' := W3) (hk3.block _ (.inr (Nat.le_refl _)) hrw.out.lt)
                have hs3 : W.heap.size < W3.heap.size := hrw3.lt
                have hJ3' : Hid (J (List.take (k + 1) (List.finRange n)) W3) := hJ3
                have hrw3' : Hid (W3.rowIs W.heap.size 3 n (fun j => .int .i64 (EE K n j : Int))) := hrw3
                have hown3' : Hid (W3.ownsRow (W.heap.size + 1) 3 1 (.slice (some ⟨g, 0, none⟩) (L + 1) cap') (L + 1) ((x :: s).reverse.map iv)) := hown3
                clear hJ3 hrw3 hown hrw hown3 hk3 hy hR
                gi_wp2_with (gi_at_builtin; refine wpListIn_append_own _ rfl _ _ 34 rfl (W.heap.size + 1) 3 i0 (.int .i64 0) 1 8 Tryz.underlying34 hi hz0 hz1 hz2 rfl (by decide) _ _ _ rfl (hown3'.out.alloc _) ⟨W3.heap.size, 0, none⟩ 1 1 [.int .i64 (EE K n k : Int)] rfl rfl (cell_one_new _ _ _) (by simp [Value.oneCell']) (by simp only [maxLen]; omega) (by omega) (by simp; omega) ?_; intro v' w4 hown' hgrow _; have hnew := appended hst.out (by simp [hL]) hown' hgrow hs3 hJ hJ3'.out hrw3'.out (fun a e => (hown3'.out.lt a.block (by rw [e]; rfl)).1); obtain ⟨a4, c4, rfl, hnew⟩ := hnew)
                go_roundw
                case rel => exact ⟨k + 1, c4, a4, rfl, rfl, by omega, hnew⟩
                case measure => simp [intOf]; omega
              · have hpre : Hid (List.take (k + 1) (List.finRange n) <+: nodeSeq K n ∧ List.take (k + 1) (List.finRange n) ≠ []) := by
                  refine ⟨by rw [hseq]; exact List.take_prefix _ _, fun h => ?_⟩
                  have := congrArg List.length h
                  simp at this
                  omega
                have hJx3' : Hid (Jx (List.take (k + 1) (List.finRange n)) W3) := hJx3
                clear hJx3 hown hrw hst hy hR
                gi_wp2
                refine bodyPost_ret (results_none rfl _ _ _) rfl ?_
                exact ⟨⟨_, rfl⟩, .inr ⟨_, hpre.out, hJx3'.out⟩⟩
      · obtain rfl : k = n := by omega
        have hJn : Hid (J (List.finRange k) wr) := by
          have := hH.out.1
          rwa [List.take_of_length_le (by simp)] at this
        clear hH
        gi_wp2
        go_end0
        exact ⟨⟨_, rfl⟩, .inl ⟨_, hseq.symm, hJn.out⟩⟩
end Go.Proofs.YtckapapejfnojaaGreatDoor

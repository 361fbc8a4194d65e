import Derived.Test.YtplijnfaiofckaaGreatDoorGk
namespace Go.Proofs.YtplijnfaiofckaaGreatDoor
open Go.RowKit Go.Shelf
set_option linter.unusedVariables false
set_option linter.unusedSimpArgs false
set_option maxRecDepth 100000
set_option maxHeartbeats 9000000
attribute [local go_sem] Oper.semAt_some

open Classical in
noncomputable def EE (K : Nat → Int) (n i : Nat) : Nat := if h : ∃ e g, Fo K n 1 i e g then h.choose else 0
theorem EE_eq {K : Nat → Int} {n i e g : Nat} (t : Fo K n 1 i e g) : EE K n i = e := by
 have hex : ∃ e g, Fo K n 1 i e g := ⟨e, g, t⟩;unfold EE;rw [dif_pos hex];obtain ⟨g', t'⟩ := hex.choose_spec;exact (t'.det t).1
def Tree (K : Nat → Int) (n : Nat) : Prop := ∃ h, Fo K n 1 0 n h
open Classical in
noncomputable def qb8 (K : Nat → Int) (n : Nat) : List (Fin n) := if Tree K n then List.finRange n else []
noncomputable def nodeV (K : Nat → Int) (n : Nat) (x : Fin n) : Value := .agg #[.int .i64 (x.val : Int), .int .i64 (depth (EE K n) x.val : Int), .int .i64 (EE K n x.val : Int)]
theorem qf5 {n k : Nat} (h : k < n) : (List.finRange n).take (k + 1) = (List.finRange n).take k ++ [⟨k, h⟩] := by
 rw [List.take_add_one]
 congr 1
 simp [h]
theorem st_depth (E : Nat → Nat) (k : Nat) : (st E (k + 1)) = E k :: pop k (st E k) := rfl

def iv (x : Nat) : Value := .int .i64 (x : Int)
def lenOf : Value → Nat | .slice _ n _ => n | _ => 0

theorem ownsRow_shorter {w : World} {base : Nat} {g cap n : Nat} {xs : List Value} {y : Value} (h : w.ownsRow base 3 1 (.slice (some ⟨g, 0, none⟩) (n + 1) cap) (n + 1) (xs ++ [y])) (hx : xs.length = n) :
  w.ownsRow base 3 1 (.slice (some ⟨g, 0, none⟩) n cap) n xs := by
 obtain ⟨_, h2⟩ := h;refine ⟨by simpa using hx, ?_⟩;rcases h2 with ⟨h, _⟩ | ⟨g', cap', cur, he, hb, hc, h3, h4, h5, h6⟩
 ·cases h
 ·simp only [Value.slice.injEq, Option.some.injEq, Addr.mk.injEq] at he;obtain ⟨⟨rfl, _⟩, _, rfl⟩ := he;refine .inr ⟨g, cap, cur, rfl, hb, hc, by omega, h4, h5, ?_⟩;have e1 : List.take n (xs ++ [y]) = xs := by rw [← hx]; simp
  have e2 : List.take n (List.take ((n + 1) * 1) cur.toList) = List.take n cur.toList := by
   rw [List.take_take, Nat.mul_one, Nat.min_eq_left (by omega)]
  rw [Nat.mul_one, ← e2, h6];exact e1
theorem pop_le (i : Nat) : ∀ s : List Nat, (pop i s).length ≤ s.length
 | [] => by simp [pop]
 | x :: s => by
  rw [pop];split
  ·have := pop_le i s;simp;omega
  ·simp
theorem st_le (E : Nat → Nat) : ∀ k, (st E k).length ≤ k
 | 0 => by simp [st]
 | k + 1 => by
  have h1 := st_le E k;have h2 := pop_le k (st E k);simp [st];omega
theorem depth_le (E : Nat → Nat) (k : Nat) : depth E k ≤ k := Nat.le_trans (pop_le _ _) (st_le E k)
theorem ownsRow_cap {w : World} {base g n cap : Nat} {xs : List Value} (h : w.ownsRow base 3 1 (.slice (some ⟨g, 0, none⟩) n cap) n xs) : n ≤ cap ∧ cap ≤ 9223372036854775807 := by
 rcases h.2 with ⟨h, _⟩ | ⟨g', cap', cur, he, _, _, hle, hm, _⟩
 ·cases h
 ·simp only [Value.slice.injEq] at he;obtain ⟨_, _, rfl⟩ := he;exact ⟨hle, by simpa [maxLen] using hm⟩
theorem appended {n k L B : Nat} {E : Nat → Nat} {s : List Nat} {J : List (Fin n) → World → Prop} {W3 w4 : World} {v' : Value} {ao : Option Addr} {cap : Nat} {o : Obj} (hst : st E (k + 1) = E k :: s) (hL : s.length = L)
  (hown' : w4.ownsRow (B + 1) 3 1 v' (L + 1) (s.reverse.map iv ++ [.int .i64 (E k : Int)])) (hgrow : (W3.alloc o).grownBy w4 (Value.slice ao L cap).ownBlock) (hs3 : B < W3.heap.size) (hJ : Stable B J)
  (hJ3 : J (List.take (k + 1) (List.finRange n)) W3) (hrow : W3.rowIs B 3 n (fun j => .int .i64 (E j : Int))) (hao : ∀ a, ao = some a → B + 1 ≤ a.block) :
  ∃ a4 c4, v' = .slice a4 (st E (k + 1)).length c4 ∧ Hid (J (List.take (k + 1) (List.finRange n)) w4 ∧ w4.ownsRow (B + 1) 3 1 (.slice a4 (st E (k + 1)).length c4) (st E (k + 1)).length ((st E (k + 1)).reverse.map iv) ∧ w4.rowIs B 3 n (fun j => .int .i64 (E j : Int))) := by
 obtain ⟨g, c, rfl⟩ := ownsRow_succ hown';have hlen : (st E (k + 1)).length = L + 1 := by rw [hst]; simp [hL]
 have hb : Below (B + 1) W3 w4 := ((Below.refl _ W3).alloc hs3 o).grown hgrow (by simp; omega) (fun r e => by
  cases ao with
  | none => simp [Value.ownBlock] at e
  | some a =>
   simp [Value.ownBlock] at e;have := hao a rfl;omega)
 refine ⟨some ⟨g, 0, none⟩, c, by rw [hlen], ?_, ?_, ?_⟩
 ·exact hJ _ _ _ hJ3 (hb.mono (by omega))
 ·rw [hlen, hst]
  simpa [iv] using hown'
 ·exact hrow.of_block (hb.block _ (by omega))
theorem ownsRow_keepP {w w' : World} {base : Nat} {v : Value} {n : Nat} {xs : List Value} (h : w.ownsRow base 3 1 v n xs) (hk : ∀ b, base ≤ b → b < w.heap.size → w'.heap[b]? = w.heap[b]?) : w'.ownsRow base 3 1 v n xs := by
 obtain ⟨h1, h2⟩ := h;refine ⟨h1, ?_⟩;rcases h2 with h | ⟨g, cap, cur, he, hb, hc, h3⟩
 ·exact .inl h
 ·exact .inr ⟨g, cap, cur, he, hb, (hk g hb (Array.getElem?_eq_some_iff.1 hc).1).trans hc, h3⟩
theorem nodes1_in (m : Nat) (K : Nat → Int) (n cap : Nat) (ao : Option Addr) (lo l Bn : Nat) (W : World) (hm : 2 ≤ m) (hn : n ≤ 200) (hlo : lo ≤ W.heap.size) (hBn : W.cell? ⟨Bn, 0, none⟩ = some (.slice ao n cap))
  (hc : 0 < n → ∃ b o, ao = some ⟨b, o, none⟩ ∧ b < lo ∧ ∀ i, i < n → W.cell? ⟨b, o + i * 10 + 6, none⟩ = some (.int .i64 (K i))) :
  SeqB m Tryz.prog 49 #[.pointer (some ⟨Bn, 0, none⟩)] (fun x : Fin n => #[nodeV K n x]) lo l (fun ys => ys = qb8 K n) (fun pre => pre <+: qb8 K n ∧ pre ≠ []) n W := by
 intro J Jx hJ hJx hY h0;have hte := treeEnds_in ao n cap K W hn (fun hp => by obtain ⟨b, o, e, hb, hcc⟩ := hc hp; exact ⟨b, o, e, by omega, hcc⟩);refine callsIn_of_wp Tryz.func49 rfl trivial ?_ rfl;simp only [Tryz.ntmps49, List.size_toArray, List.length_cons, List.length_nil, Nat.reduceAdd, Nat.reduceSub, Array.replicate_succ, Array.replicate_zero, List.push_toArray, List.append_toArray, List.nil_append, List.cons_append]
 gi_wp2_with fail
 refine ⟨trivial, fun _ => by omega, ?_⟩;refine (callsIn_wide.2 hte).mono ?_;rintro e w1 ⟨⟨v, rfl, hv⟩, b1⟩;rcases hv with ⟨rfl, hno⟩ | ⟨E, hpos, rfl, hrow, hE, hE0⟩
 ·have hseq : qb8 K n = [] := by unfold qb8; exact if_neg (fun ⟨h, t⟩ => hno h t)
  have hJ1 : Hid (J [] w1) := hJ _ _ _ h0 b1;clear hno hte hY hc
  gi_wp2
  refine wpIn_loop_rounds 1 ?_;rw [roundsIn_succ]
  gi_wp2
  go_end0
  exact ⟨⟨_, rfl⟩, .inl ⟨[], hseq.symm, hJ1.out⟩⟩
 ·have hEE : ∀ i, i < n → EE K n i = E i := fun i hi => by obtain ⟨h, t⟩ := hE i hi; exact EE_eq t
  have hseq : qb8 K n = List.finRange n := by
   unfold qb8;refine if_pos ?_;obtain ⟨h, t⟩ := hE 0 hpos;rw [hE0] at t;exact ⟨h, t⟩
  have hrow' : w1.rowIs W.heap.size 3 n (fun j => .int .i64 (EE K n j : Int)) := hrow.congr fun i hi => by rw [hEE i hi]
  have hJ1 : J [] w1 := hJ _ _ _ h0 b1;have hsz1 : W.heap.size < w1.heap.size := hrow'.lt
  have hinv : Hid (J ((List.finRange n).take 0) w1 ∧ w1.ownsRow (W.heap.size + 1) 3 1 (.slice none 0 0) 0 ((st (EE K n) 0).reverse.map iv) ∧ w1.rowIs W.heap.size 3 n (fun j => .int .i64 (EE K n j : Int))) :=
   ⟨by simpa using hJ1, World.ownsRow_nil _ _ _ _, hrow'⟩
  clear hrow hE hE0 hEE hrow' hJ1 hte hc h0 hBn;obtain ⟨i0, hi, hz0, hz1, hz2⟩ := info_parts (show (Tryz.prog.info? 3).map (fun i => (i.zero, i.size, i.bytes)) = some (some (.int .i64 0), 1, 8) by kernel_rfl)
  gi_wp2
  gi_loopw [3, 9] (fun a i wr => ∃ (k cap' : Nat) (ao' : Option Addr), a = .slice ao' (st (EE K n) k).length cap' ∧ i = .int .i64 (k : Int) ∧ k ≤ n ∧
   Hid (J ((List.finRange n).take k) wr ∧ wr.ownsRow (W.heap.size + 1) 3 1 (.slice ao' (st (EE K n) k).length cap') (st (EE K n) k).length ((st (EE K n) k).reverse.map iv) ∧ wr.rowIs W.heap.size 3 n (fun j => .int .i64 (EE K n j : Int))))
   (fun _ i _ => n - (intOf i).toNat)
  case atStart => exact ⟨0, 0, none, rfl, rfl, by omega, hinv⟩
  case round =>
   clear hinv;obtain ⟨k, cap', ao', rfl, rfl, hkn, hH⟩ := hrel;by_cases hk : k < n
   ·have hki : (k : Int) < (n : Int) := by omega
    have d0 := hH.out.2.2.cell hk
    gi_wp2
    gi_loopw [3] (fun a ws => ∃ (s : List Nat), a = .slice ao' s.length cap' ∧ wr = ws ∧ s.length ≤ n ∧ Hid (pop k s = pop k (st (EE K n) k) ∧ wr.ownsRow (W.heap.size + 1) 3 1 (.slice ao' s.length cap') s.length (s.reverse.map iv))) (fun a _ => lenOf a)
    case atStart => exact ⟨st (EE K n) k, rfl, rfl, Nat.le_trans (st_le _ _) hkn, rfl, hH.out.2.1⟩
    case round =>
     obtain ⟨s, rfl, rfl, hsn, hP⟩ := hrel
     cases s with
     | nil =>
      have hps : pop k ([] : List Nat) = [] := rfl;simp only [List.length_nil];have hd : depth (EE K n) k = 0 := by rw [depth, ← hP.out.1, hps]; rfl
      have hR0 : 0 ≤ k := by rw [← hd]; exact depth_le _ _
      obtain ⟨fn, tmps, assign, body, hy, hR⟩ := hY _ ⟨k, hk⟩ wr hH.out.1 (by simp; omega);rw [← qf5 hk] at hR;simp [nodeV, hd] at hy;have hown : Hid (wr.ownsRow (W.heap.size + 1) 3 1 (.slice ao' (0) cap') (0) (([] : List Nat).reverse.map iv)) := hP.out.2;have hrw : Hid (wr.rowIs W.heap.size 3 n (fun j => .int .i64 (EE K n j : Int))) := hH.out.2.2
      have hst : Hid (st (EE K n) (k + 1) = EE K n k :: ([] : List Nat)) := by
       show st (EE K n) (k + 1) = EE K n k :: ([] : List Nat);rw [st_depth, ← hP.out.1, hps]
      clear hP hH hps hd
      gi_wp2
      refine ⟨fun _ => by omega, ?_⟩;refine hR.mono ?_;rintro e W3 (⟨rfl, hJ3, hk3⟩ | ⟨rfl, hJx3⟩)
      ·have hown3 := ownsRow_keepP (w' := W3) hown.out (fun b h1 h2 => hk3.block b (.inr (by omega)) h2);have hrw3 := hrw.out.of_block (w' := W3) (hk3.block _ (.inr (Nat.le_refl _)) hrw.out.lt);have hs3 : W.heap.size < W3.heap.size := hrw3.lt;have hJ3' : Hid (J (List.take (k + 1) (List.finRange n)) W3) := hJ3;have hrw3' : Hid (W3.rowIs W.heap.size 3 n (fun j => .int .i64 (EE K n j : Int))) := hrw3;have hown3' : Hid (W3.ownsRow (W.heap.size + 1) 3 1 (.slice ao' (0) cap') (0) (([] : List Nat).reverse.map iv)) := hown3;clear hJ3 hrw3 hown hrw hown3 hk3 hy hR
       gi_wp2_with (gi_at_builtin; refine wpListIn_append_own _ rfl _ _ 60 rfl (W.heap.size + 1) 3 i0 (.int .i64 0) 1 8 Tryz.underlying60 hi hz0 hz1 hz2 rfl (by decide) _ _ _ rfl (hown3'.out.alloc _) ⟨W3.heap.size, 0, none⟩ 1 1 [.int .i64 (EE K n k : Int)] rfl rfl (cell_one_new _ _ _) (by simp [Value.oneCell']) (by simp only [maxLen]; omega) (by omega) (by simp; omega) ?_; intro v' w4 hown' hgrow _; have hnew := appended hst.out (by simp) hown' hgrow hs3 hJ hJ3'.out hrw3'.out (fun a e => (hown3'.out.lt a.block (by rw [e]; rfl)).1); obtain ⟨a4, c4, rfl, hnew⟩ := hnew)
       go_roundw;case rel => exact ⟨k + 1, c4, a4, rfl, rfl, by omega, hnew⟩
       case measure => simp [intOf]; omega
      ·have hpre : Hid (List.take (k + 1) (List.finRange n) <+: qb8 K n ∧ List.take (k + 1) (List.finRange n) ≠ []) := by
        refine ⟨by rw [hseq]; exact List.take_prefix _ _, fun h => ?_⟩;have := congrArg List.length h;simp at this;omega
       have hJx3' : Hid (Jx (List.take (k + 1) (List.finRange n)) W3) := hJx3;clear hJx3 hown hrw hst hy hR
       gi_wp2
       refine bodyPost_ret (results_none rfl _ _ _) rfl ?_;exact ⟨⟨_, rfl⟩, .inr ⟨_, hpre.out, hJx3'.out⟩⟩
     | cons x s =>
      obtain ⟨L, hL⟩ : ∃ L, s.length = L := ⟨_, rfl⟩;obtain ⟨g, cap2, he⟩ := ownsRow_succ (k := s.length) hP.out.2;simp only [List.length_cons, Value.slice.injEq] at he;obtain ⟨rfl, _, rfl⟩ := he
      have hcell : wr.cell? ⟨g, L, none⟩ = some (.int .i64 (x : Int)) := by
       have := hP.out.2.cellAt L (by simp [hL]);rw [this];simp [← hL, iv]
      have hcap := ownsRow_cap hP.out.2;rw [List.length_cons, hL] at hsn hcap;obtain ⟨hcap, hcap2⟩ := hcap;simp only [List.length_cons, hL];by_cases hx : x ≤ k
      ·have hxi : (x : Int) ≤ (k : Int) := by omega
       have hnext : Hid (pop k s = pop k (st (EE K n) k) ∧ wr.ownsRow (W.heap.size + 1) 3 1 (.slice (some ⟨g, 0, none⟩) s.length cap') s.length (s.reverse.map iv)) := by
        refine ⟨?_, ?_⟩
        ·rw [← hP.out.1, pop, if_pos hx]
        ·have := hP.out.2;simp only [List.length_cons, List.reverse_cons, List.map_append, List.map_cons, List.map_nil] at this;exact ownsRow_shorter this (by simp)
       clear hP
       gi_wp2
       go_roundw;case rel => exact ⟨s, by rw [hL], by first | trivial | rfl, by omega, hnext⟩
       case measure => simp [lenOf]
      ·have hxi : ¬ (x : Int) ≤ (k : Int) := by omega
       have hps : pop k (x :: s) = x :: s := by rw [pop, if_neg hx]
       have hd : depth (EE K n) k = L + 1 := by rw [depth, ← hP.out.1, hps]; simp [hL]
       have hR0 : L + 1 ≤ k := by rw [← hd]; exact depth_le _ _
       obtain ⟨fn, tmps, assign, body, hy, hR⟩ := hY _ ⟨k, hk⟩ wr hH.out.1 (by simp; omega);rw [← qf5 hk] at hR;simp [nodeV, hd] at hy;have hown : Hid (wr.ownsRow (W.heap.size + 1) 3 1 (.slice (some ⟨g, 0, none⟩) (L + 1) cap') (L + 1) ((x :: s).reverse.map iv)) := (by have h := hP.out.2; rw [List.length_cons, hL] at h; exact h);have hrw : Hid (wr.rowIs W.heap.size 3 n (fun j => .int .i64 (EE K n j : Int))) := hH.out.2.2
       have hst : Hid (st (EE K n) (k + 1) = EE K n k :: (x :: s)) := by
        show st (EE K n) (k + 1) = EE K n k :: (x :: s);rw [st_depth, ← hP.out.1, hps]
       clear hP hH hps hd
       gi_wp2
       refine ⟨fun _ => by omega, ?_⟩;refine hR.mono ?_;rintro e W3 (⟨rfl, hJ3, hk3⟩ | ⟨rfl, hJx3⟩)
       ·have hown3 := ownsRow_keepP (w' := W3) hown.out (fun b h1 h2 => hk3.block b (.inr (by omega)) h2);have hrw3 := hrw.out.of_block (w' := W3) (hk3.block _ (.inr (Nat.le_refl _)) hrw.out.lt);have hs3 : W.heap.size < W3.heap.size := hrw3.lt;have hJ3' : Hid (J (List.take (k + 1) (List.finRange n)) W3) := hJ3;have hrw3' : Hid (W3.rowIs W.heap.size 3 n (fun j => .int .i64 (EE K n j : Int))) := hrw3;have hown3' : Hid (W3.ownsRow (W.heap.size + 1) 3 1 (.slice (some ⟨g, 0, none⟩) (L + 1) cap') (L + 1) ((x :: s).reverse.map iv)) := hown3;clear hJ3 hrw3 hown hrw hown3 hk3 hy hR
        gi_wp2_with (gi_at_builtin; refine wpListIn_append_own _ rfl _ _ 60 rfl (W.heap.size + 1) 3 i0 (.int .i64 0) 1 8 Tryz.underlying60 hi hz0 hz1 hz2 rfl (by decide) _ _ _ rfl (hown3'.out.alloc _) ⟨W3.heap.size, 0, none⟩ 1 1 [.int .i64 (EE K n k : Int)] rfl rfl (cell_one_new _ _ _) (by simp [Value.oneCell']) (by simp only [maxLen]; omega) (by omega) (by simp; omega) ?_; intro v' w4 hown' hgrow _; have hnew := appended hst.out (by simp [hL]) hown' hgrow hs3 hJ hJ3'.out hrw3'.out (fun a e => (hown3'.out.lt a.block (by rw [e]; rfl)).1); obtain ⟨a4, c4, rfl, hnew⟩ := hnew)
        go_roundw;case rel => exact ⟨k + 1, c4, a4, rfl, rfl, by omega, hnew⟩
        case measure => simp [intOf]; omega
       ·have hpre : Hid (List.take (k + 1) (List.finRange n) <+: qb8 K n ∧ List.take (k + 1) (List.finRange n) ≠ []) := by
         refine ⟨by rw [hseq]; exact List.take_prefix _ _, fun h => ?_⟩;have := congrArg List.length h;simp at this;omega
        have hJx3' : Hid (Jx (List.take (k + 1) (List.finRange n)) W3) := hJx3;clear hJx3 hown hrw hst hy hR
        gi_wp2
        refine bodyPost_ret (results_none rfl _ _ _) rfl ?_;exact ⟨⟨_, rfl⟩, .inr ⟨_, hpre.out, hJx3'.out⟩⟩
   ·obtain rfl : k = n := by omega
    have hJn : Hid (J (List.finRange k) wr) := by
     have := hH.out.1
     rwa [List.take_of_length_le (by simp)] at this
    clear hH
    gi_wp2
    go_end0
    exact ⟨⟨_, rfl⟩, .inl ⟨_, hseq.symm, hJn.out⟩⟩
end Go.Proofs.YtplijnfaiofckaaGreatDoor
namespace Go.Proofs.YtplijnfaiofckaaGreatDoor
open Go.RowKit Go.Shelf
set_option linter.unusedVariables false
set_option linter.unusedSimpArgs false
set_option maxRecDepth 100000
set_option maxHeartbeats 9000000
attribute [local go_sem] Oper.semAt_some

theorem nodes_in (ao : Option Addr) (n cap : Nat) (w : World) :
  Calls Tryz.prog 13 #[.slice ao n cap] w fun e w' => e = .returned (.func (.func 49) #[] #[.pointer (some ⟨w.heap.size, 0, none⟩)]) ∧ w.alloc (.cells #[.slice ao n cap] 23) = w' := by
 go_enter Tryz.func13, Tryz.ntmps13;go_wp2_with fail;go_ret;exact ⟨rfl, rfl⟩
theorem RowL.below {B : Nat} {w w' : World} {b : Nat} {t : TypeId} {L : List Value} (h : RowL w b t L) (hb : Below B w w') (hlt : b < B) : RowL w' b t L := World.rowIs.of_block h (hb.block _ hlt)
theorem RowL.putOther {w : World} {b : Nat} {t : TypeId} {L : List Value} (h : RowL w b t L) {l : Nat} (hl : b ≠ l) (o : Obj) : RowL (w.putObj l o) b t L := World.rowIs.of_block h (World.putObj_heap_other hl)

def GoodNode (s : Sl PD) (x : Fin s.n) : Prop := depth (EE (kidsOf s) s.n) x.val < 64 ∧ ProtoOk (s.f x.val)
def WfI (s : Sl PD) (v : Value) (w : World) (pre : List (Fin s.n)) (W : World) : Prop :=
 (RowL W w.heap.size 25 [v] ∧ RowL W (w.heap.size + 1) 4 [.bool false] ∧ RowL W (w.heap.size + 1 + 1) 3 [.int .i64 (pre.length : Int)]) ∧ Below w.heap.size w W ∧ ∀ x ∈ pre, GoodNode s x
def WfX (s : Sl PD) (w : World) (c : Code) (pre : List (Fin s.n)) (W : World) : Prop :=
 c = .ret ∧ RowL W (w.heap.size + 1) 4 [.bool false] ∧ Below w.heap.size w W ∧ ∃ x ∈ pre, ¬ GoodNode s x
theorem WfI.stable (s : Sl PD) (v : Value) (w : World) {B : Nat} (hB : w.heap.size + 4 ≤ B) : Stable B (WfI s v w) := fun pre A C h hb =>
 ⟨⟨h.1.1.below hb (by omega), h.1.2.1.below hb (by omega), h.1.2.2.below hb (by omega)⟩, h.2.1.trans (hb.mono (by omega)), h.2.2⟩
theorem WfX.stable (s : Sl PD) (w : World) {B : Nat} (hB : w.heap.size + 4 ≤ B) (c : Code) : Stable B (WfX s w c) := fun pre A C h hb =>
 ⟨h.1, h.2.1.below hb (by omega), h.2.2.1.trans (hb.mono (by omega)), h.2.2.2⟩

theorem wf_all {s : Sl PD} (h1 : 1 ≤ s.n) (h2 : s.n ≤ 200) (hT : Tree (kidsOf s) s.n) (h : ∀ x ∈ List.finRange s.n, GoodNode s x) : Wf s := by
 obtain ⟨g, t⟩ := hT
 have hE : ∀ i, i < s.n → ∃ h, Fo (kidsOf s) s.n 1 i (EE (kidsOf s) s.n i) h := fun i hi => by
  obtain ⟨e, h', u⟩ := t.within i (by omega) hi;rw [EE_eq u];exact ⟨h', u⟩
 exact ⟨h1, h2, ⟨g, t, (depth_iff hE t).1 fun j hj => (h ⟨j, hj⟩ (List.mem_finRange _)).1⟩, fun i hi => (h ⟨i, hi⟩ (List.mem_finRange _)).2⟩
theorem wf_tree {s : Sl PD} (h : Wf s) : Tree (kidsOf s) s.n := by
 obtain ⟨g, t, _⟩ := h.tree;exact ⟨g, t⟩
theorem wf_good {s : Sl PD} (h : Wf s) (x : Fin s.n) : GoodNode s x := by
 obtain ⟨g, t, hg⟩ := h.tree
 have hE : ∀ i, i < s.n → ∃ h, Fo (kidsOf s) s.n 1 i (EE (kidsOf s) s.n i) h := fun i hi => by
  obtain ⟨e, h', u⟩ := t.within i (by omega) hi;rw [EE_eq u];exact ⟨h', u⟩
 exact ⟨(depth_iff hE t).2 hg x.val x.isLt, h.each _ x.isLt⟩
theorem implWF_in (s : Sl PD) (v : Value) (w : World) (hv : qa0 (· < w.heap.size) w v s) :
  Calls Tryz.prog 11 #[.agg #[v]] w fun e w' => Says e (Wf s) ∧ Below w.heap.size w w' := by
 have hv' := hv;obtain ⟨a3, a4, a5, a8, a9, ⟨ao, cap, rfl, hn, hc⟩, ht⟩ := hv;have hkids := hv'.kids;obtain ⟨m, hm⟩ : ∃ m, 8 ≤ m := ⟨8, by omega⟩;refine (callsIn_wide (n := m)).1 ?_;refine callsIn_of_wp_marks Tryz.func11 rfl trivial ?_ rfl;simp only [Tryz.ntmps11, List.size_toArray, List.length_cons, List.length_nil, Nat.reduceAdd, Nat.reduceSub, Array.replicate_succ, Array.replicate_zero, List.push_toArray, List.append_toArray, List.nil_append, List.cons_append]
 gi_wp2_with fail
 refine ⟨trivial, fun _ => by omega, ?_⟩;refine (callsIn_wide.2 (qh7 (s.n : Int) 1 200 _)).mono ?_;rintro e w1 ⟨⟨r, rfl, hr⟩, rfl⟩;obtain rfl | rfl : r = false ∨ r = true := by cases r <;> simp
 ·have hno : Hid (¬ Wf s) := fun h => by
   have h1 := h.low;have h2 := h.high;have := hr.2 (by omega);simp at this
  clear hr hkids hv' hc ht
  gi_wp2
  exact ⟨.bool false, by simp [results, Tryz.results11, go_sem], Says.no rfl hno.out, by go_grown⟩
 ·have hr' := hr.1 rfl;clear hr
  gi_wp2_with fail
  refine ⟨trivial, fun _ => by omega, ?_⟩;refine (callsIn_wide.2 (nodes_in ao s.n cap _)).mono ?_;rintro e w1 ⟨rfl, rfl⟩
  gi_wp2_with fail
  have R0 : RowL ((((w.alloc (.cells #[.slice ao s.n cap] 25)).alloc (.cells #[.bool false] 4)).alloc (.cells #[.int .i64 0] 3)).alloc (.cells #[.slice ao s.n cap] 23)) w.heap.size 25 [.slice ao s.n cap] := (((RowL.new w _ 25).alloc _).alloc _).alloc _
  have R1 : RowL ((((w.alloc (.cells #[.slice ao s.n cap] 25)).alloc (.cells #[.bool false] 4)).alloc (.cells #[.int .i64 0] 3)).alloc (.cells #[.slice ao s.n cap] 23)) (w.heap.size + 1) 4 [.bool false] := by
   have := ((RowL.new (w.alloc (.cells #[.slice ao s.n cap] 25)) [.bool false] 4).alloc (.cells #[.int .i64 0] 3)).alloc (.cells #[.slice ao s.n cap] 23)
   rwa [World.size_alloc] at this
  have R2 : RowL ((((w.alloc (.cells #[.slice ao s.n cap] 25)).alloc (.cells #[.bool false] 4)).alloc (.cells #[.int .i64 0] 3)).alloc (.cells #[.slice ao s.n cap] 23)) (w.heap.size + 1 + 1) 3 [.int .i64 0] := by
   have := (RowL.new ((w.alloc (.cells #[.slice ao s.n cap] 25)).alloc (.cells #[.bool false] 4)) [.int .i64 0] 3).alloc (.cells #[.slice ao s.n cap] 23)
   rwa [World.size_alloc, World.size_alloc] at this
  have R3 : RowL ((((w.alloc (.cells #[.slice ao s.n cap] 25)).alloc (.cells #[.bool false] 4)).alloc (.cells #[.int .i64 0] 3)).alloc (.cells #[.slice ao s.n cap] 23)) (w.heap.size + 1 + 1 + 1) 23 [.slice ao s.n cap] := by
   have := RowL.new (((w.alloc (.cells #[.slice ao s.n cap] 25)).alloc (.cells #[.bool false] 4)).alloc (.cells #[.int .i64 0] 3)) [.slice ao s.n cap] 23
   rwa [World.size_alloc, World.size_alloc, World.size_alloc] at this
  have bw : Below w.heap.size w ((((w.alloc (.cells #[.slice ao s.n cap] 25)).alloc (.cells #[.bool false] 4)).alloc (.cells #[.int .i64 0] 3)).alloc (.cells #[.slice ao s.n cap] 23)) := by go_grown
  have sz : ((((w.alloc (.cells #[.slice ao s.n cap] 25)).alloc (.cells #[.bool false] 4)).alloc (.cells #[.int .i64 0] 3)).alloc (.cells #[.slice ao s.n cap] 23)).heap.size = w.heap.size + 4 := by simp
  generalize (((w.alloc (.cells #[.slice ao s.n cap] 25)).alloc (.cells #[.bool false] 4)).alloc (.cells #[.int .i64 0] 3)).alloc (.cells #[.slice ao s.n cap] 23) = w0 at R0 R1 R2 R3 bw sz ⊢
  refine range_law (gf := 49) (lb := #[.pointer (some ⟨w.heap.size + 1 + 1 + 1, 0, none⟩)]) rfl (enters_of Tryz.func49 (by kernel_rfl) rfl) (by omega) (encs := fun x : Fin s.n => #[nodeV (kidsOf s) s.n x]) (fun _ => rfl) (lo := w.heap.size) (N := s.n) (by omega)
   (S := fun ys => ys = qb8 (kidsOf s) s.n) (Sp := fun pre => pre <+: qb8 (kidsOf s) s.n ∧ pre ≠ []) (WfI s (.slice ao s.n cap) w) (WfX s w) (WfI.stable _ _ _ (by omega)) (WfX.stable _ _ (by omega))
   ⟨⟨R0, R1, R2⟩, bw, by simp⟩ ?seq
   (fun x a' W => ∃ Bx, w.heap.size + 6 ≤ Bx ∧ RowL W Bx 55 [.int .i64 (x.val : Int), .int .i64 (depth (EE (kidsOf s) s.n) x.val : Int), .int .i64 (EE (kidsOf s) s.n x.val : Int)] ∧ a' = { tmps := #[.agg #[.slice ao s.n cap], .pointer (some ⟨w.heap.size, 0, none⟩), .pointer (some ⟨w.heap.size + 1, 0, none⟩), .pointer (some ⟨w.heap.size + 1 + 1, 0, none⟩), .pointer (some ⟨Bx, 0, none⟩), .pointer (some ⟨w.heap.size, 0, none⟩), .slice ao s.n cap, .int .i64 (s.n : Int), .bool true, .bool false, .pointer (some ⟨w.heap.size, 0, none⟩), .slice ao s.n cap, .func (.func 49) #[] #[.pointer (some ⟨w.heap.size + 1 + 1 + 1, 0, none⟩)], .agg #[.int .i64 (x.val : Int), .int .i64 (depth (EE (kidsOf s) s.n) x.val : Int), .int .i64 (EE (kidsOf s) s.n x.val : Int)], undef, undef, undef, undef, undef, undef, undef, undef, undef, undef, undef, undef, undef, undef, undef, undef, undef, undef, undef, undef], defers := [] })
   (fun x a' W o hA => by obtain ⟨Bx, h1, h2, h3⟩ := hA; exact ⟨Bx, h1, h2.putOther (by omega) o, h3⟩)
   ?assign ?body ?done ?stop
  case seq =>
   intro W hW hb;refine nodes1_in (m - 1) (kidsOf s) s.n cap ao w.heap.size _ _ W (by omega) (by omega) (by omega) ((R3.below hb (by omega)).cell 0 rfl) (fun hp => ?_);obtain ⟨b, o, e, hb', hcc⟩ := hkids hp;exact ⟨b, o, e, hb', fun i hi => (hb.cell (p := ⟨b, _, none⟩) (by show b < w0.heap.size; omega)).trans ((bw.cell (p := ⟨b, _, none⟩) hb').trans (hcc i hi))⟩
  case assign =>
   rintro l pre x W K hsz hI hK;simp only [nodeV]
   gi_wp2
   refine hK _ _ (Keep.of_below ((Below.refl _ W).alloc (Nat.le_refl _) _)) ((WfI.stable s _ w (Nat.le_refl _)) _ _ _ hI ((Below.refl _ W).alloc (by omega) _)) ⟨W.heap.size, by omega, RowL.new W _ 55, rfl⟩
  case body =>
   rintro l pre x a' W hsz hI ⟨Bx, hBx, RX, rfl⟩ hlt;have hI' : Hid (WfI s (.slice ao s.n cap) w pre W) := hI;obtain ⟨⟨S0, S1, S2⟩, hB, hall⟩ := hI;have x0 := RX.cell 0 rfl;have x1 := RX.cell 1 rfl;have s0 := S0.cell 0 rfl;have s1 := S1.cell 0 rfl;have f1 := S1.frozen 0;have hxn : (x.val : Int) < (s.n : Int) := by have := x.isLt; omega
   by_cases h64 : depth (EE (kidsOf s) s.n) x.val < 64
   rotate_left
   ·have h64' : (64 : Int) ≤ (depth (EE (kidsOf s) s.n) x.val : Int) := by omega
    have hX : Hid (WfX s w .ret (pre ++ [x]) (W.setCell ⟨w.heap.size + 1, 0, none⟩ (.bool false))) :=
     ⟨rfl, S1.set 0 (.bool false), hB.setCell (p := ⟨w.heap.size + 1, 0, none⟩) (by simp) _, x, by simp, fun h => h64 h.1⟩
    clear hall hc ht hkids hv' S0 S1 S2 RX R0 R1 R2 R3
    gi_wp2
    refine ⟨trivial, ?_⟩
    gi_wp2
    exact ⟨Keep.setCell _ (by simp) (by show w.heap.size + 1 < w0.heap.size; omega) _, hX.out⟩
   have h64' : (depth (EE (kidsOf s) s.n) x.val : Int) < 64 := by omega
   obtain ⟨b, o, rfl, hb, hcc⟩ := hc (by omega);have c0 := hcc x.val x.isLt 0 (by omega);have c1 := hcc x.val x.isLt 1 (by omega);have c2 := hcc x.val x.isLt 2 (by omega);have c3 := hcc x.val x.isLt 3 (by omega);have c4 := hcc x.val x.isLt 4 (by omega);have c5 := hcc x.val x.isLt 5 (by omega);have c6 := hcc x.val x.isLt 6 (by omega);have c7 := hcc x.val x.isLt 7 (by omega);have c8 := hcc x.val x.isLt 8 (by omega);have c9 := hcc x.val x.isLt 9 (by omega);rw [← hB.cell (p := ⟨b, _, none⟩) hb] at c0 c1 c2 c3 c4 c5 c6 c7 c8 c9;simp only [Nat.add_zero, pC] at c0 c1 c2 c3 c4 c5 c6 c7 c8 c9;have hpf := protoFits_in (s.f x.val) (a3 x.val) (a4 x.val) (a5 x.val) (a8 x.val) (a9 x.val) W ((ht x.val x.isLt).later hB);unfold pAgg at hpf;clear hcc hc ht hkids hv'
   gi_wp2_with fail
   refine ⟨trivial, fun _ => by omega, ?_⟩;refine (CallsIn.inRound l (callsIn_wide.2 hpf)).mono ?_;rintro e y ⟨⟨r, rfl, hr⟩, b1⟩;clear c0 c1 c2 c3 c4 c5 c6 c7 c8 c9 x0 x1 s0 s1 f1 hpf;have S1' := S1.call b1;have S2' := S2.call b1;have hBy : Below w.heap.size w y := hB.trans (b1.mono hB.size);have s1 := S1'.cell 0 rfl;have f1 := S1'.frozen 0;have s2 := S2'.cell 0 rfl;have f2 := S2'.frozen 0;have hkeep : Keep w.heap.size w0.heap.size W y := Keep.of_below b1;obtain rfl | rfl : r = false ∨ r = true := by cases r <;> simp
   ·have hX : Hid (WfX s w .ret (pre ++ [x]) (y.setCell ⟨w.heap.size + 1, 0, none⟩ (.bool false))) :=
     ⟨rfl, S1'.set 0 (.bool false), hBy.setCell (p := ⟨w.heap.size + 1, 0, none⟩) (by simp) _, x, by simp, fun h => by simpa using hr.2 h.2⟩
    clear hr hall S0 S1 S2 RX R0 R1 R2 R3 S1' S2'
    gi_wp2
    exact ⟨hkeep.trans (Keep.setCell _ (by simp) (by show w.heap.size + 1 < w0.heap.size; omega) _), hX.out⟩
   ·have hlen : pre.length + 1 ≤ 200 := by omega
    have hN : Hid (WfI s (.slice (some ⟨b, o, none⟩) s.n cap) w (pre ++ [x]) (y.setCell ⟨w.heap.size + 1 + 1, 0, none⟩ (.int .i64 ((pre.length : Int) + 1)))) := by
     refine ⟨⟨(S0.call b1).other (by show w.heap.size ≠ w.heap.size + 1 + 1; omega) _, S1'.other (by show w.heap.size + 1 ≠ w.heap.size + 1 + 1; omega) _, ?_⟩, hBy.setCell (p := ⟨w.heap.size + 1 + 1, 0, none⟩) (by show w.heap.size ≤ w.heap.size + 1 + 1; omega) _, ?_⟩
     ·have := S2'.set 0 (.int .i64 ((pre.length : Int) + 1))
      simpa using this
     ·intro z hz;rcases List.mem_append.1 hz with hz | hz
      ·exact hall z hz
      ·obtain rfl : z = x := by simpa using hz
       exact ⟨h64, hr.1 rfl⟩
    clear hr hall S0 S1 S2 RX R0 R1 R2 R3 S1' S2'
    gi_wp2
    exact ⟨hkeep.trans (Keep.setCell _ (by show w.heap.size ≤ w.heap.size + 1 + 1; omega) (by show w.heap.size + 1 + 1 < w0.heap.size; omega) _), hN.out⟩
  case done =>
   rintro D ys W hD rfl ⟨⟨S0, S1, S2⟩, hB, hall⟩ hK;have s0 := S0.cell 0 rfl;have s1 := S1.cell 0 rfl;have f1 := S1.frozen 0;have s2 := S2.cell 0 rfl;clear hc ht hkids hv' R0 R1 R2 R3;by_cases hT : Tree (kidsOf s) s.n
   ·have hseq : qb8 (kidsOf s) s.n = List.finRange s.n := if_pos hT;rw [hseq] at hall s2;simp only [List.length_finRange] at s2;have hyes : Hid (Wf s) := wf_all (by omega) (by omega) hT hall;have S1' := S1.set 0 (.bool true);have hK' : (W.setCell ⟨w.heap.size + 1, 0, none⟩ (.bool true)).heap[D]? = some (.deferred (some [])) := (Below.heap_setCell _ _ _ _ (by show D ≠ w.heap.size + 1; omega)).trans hK;clear hall hT hseq S0 S1 S2
    gi_wp2
    refine ⟨by simp, .inl ⟨_, _, rfl, run_takeDeferred hK', ?_⟩⟩;have hfin := (S1'.putOther (l := D) (by omega) (.deferred none)).cell 0 rfl;refine ⟨.bool true, by simp [results, Tryz.results11, go_sem, hfin], Says.yes rfl hyes.out, ?_⟩;exact (hB.setCell (p := ⟨w.heap.size + 1, 0, none⟩) (by simp) _).trans (qb6 _ (by omega) (Array.getElem?_eq_some_iff.1 hK').1 _)
   ·have hseq : qb8 (kidsOf s) s.n = [] := if_neg hT;rw [hseq] at s2;simp only [List.length_nil] at s2;have hno : Hid (¬ Wf s) := fun h => hT (wf_tree h);have hne : ((0 : Int) == (s.n : Int)) = false := by simp; omega
    have S1' := S1.set 0 (.bool false);have hK' : (W.setCell ⟨w.heap.size + 1, 0, none⟩ (.bool false)).heap[D]? = some (.deferred (some [])) := (Below.heap_setCell _ _ _ _ (by show D ≠ w.heap.size + 1; omega)).trans hK;clear hall hT hseq S0 S1 S2
    gi_wp2
    refine ⟨by simp, .inl ⟨_, _, rfl, run_takeDeferred hK', ?_⟩⟩;have hfin := (S1'.putOther (l := D) (by omega) (.deferred none)).cell 0 rfl;refine ⟨.bool false, by simp [results, Tryz.results11, go_sem, hfin], Says.no rfl hno.out, ?_⟩;exact (hB.setCell (p := ⟨w.heap.size + 1, 0, none⟩) (by simp) _).trans (qb6 _ (by omega) (Array.getElem?_eq_some_iff.1 hK').1 _)
  case stop =>
   rintro D c pre W hD hpre ⟨rfl, S1, hB, x, hx, hbad⟩ hK;have hno : Hid (¬ Wf s) := fun h => hbad (wf_good h x);clear hc ht hkids hv' R0 R1 R2 R3
   gi_wp2
   refine ⟨by simp, .inl ⟨_, _, rfl, run_takeDeferred hK, ?_⟩⟩;have hfin := (S1.putOther (l := D) (by omega) (.deferred none)).cell 0 rfl;refine ⟨.bool false, by simp [results, Tryz.results11, go_sem, hfin], Says.no rfl hno.out, ?_⟩;exact hB.trans (qb6 _ (by omega) (Array.getElem?_eq_some_iff.1 hK).1 _)
end Go.Proofs.YtplijnfaiofckaaGreatDoor

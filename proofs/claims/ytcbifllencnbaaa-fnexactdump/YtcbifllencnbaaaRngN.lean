import Derived.Test.YtcbifllencnbaaaChP
import Derived.Test.YtcbifllencnbaaaRng
namespace Go.Proofs.Ytcbifllencnbaaa
open Go.RowKit Go.Shelf
set_option linter.unusedVariables false
set_option linter.unusedSimpArgs false
attribute [local go_sem] Oper.semAt_some

/-- append onto a list of one's own, and where it lies, within a fence. -/
theorem listIn_append_lies {F : Fence} {n : Nat} {P : Program} (w : World) {ops : Array Oper} {rest : List Oper} {o : Oper} {a : Act} {Q : Exit → Act → World → Prop}
    (hg : o.guard = none) (s x : Operand) (t : TypeId) (hop : o.op = Op.call { callee := Callee.builtin Builtin.append, args := #[s, x], argTypes := #[t, t] })
    (base : Nat) (e : TypeId) (i : TypeInfo) (z : Value) (size bytes : Nat) (h1 : P.underlying t = some (.slice e)) (h2 : P.info? e = some i) (h3 : i.zero = some z) (h4 : i.size = size) (h5 : i.bytes = bytes) (h6 : z.cells.size = size) (h7 : 0 < size)
    (v : Value) (k : Nat) (xs : List Value) (hs : a.eval s = v) (hown : w.ownsRow base e size v k xs) (ad : Addr) (m c : Nat) (news : List Value) (hx : a.eval x = .slice (some ad) m c) (hn : news.length = m * size)
    (hc : ∀ j u, news[j]? = some u → w.cell? (ad.add j) = some u) (h1c : ∀ u ∈ news, u.oneCell' = true) (hm : 0 < m) (b1 : k + m ≤ maxLen) (b2 : (k + m) * bytes ≤ 140737488355328) (b3 : base ≤ w.heap.size)
    (hK : ∀ g cap w', w'.ownsRow base e size (.slice (some ⟨g, 0, none⟩) (k + m) cap) (k + m) (xs ++ news) → w.grownBy w' v.ownBlock → (v.ownBlock = some g ∨ g = w.heap.size) → wpListIn F n P ops Q rest (a.put o.dst (.slice (some ⟨g, 0, none⟩) (k + m) cap)) w') :
    wpListIn F n P ops Q (o :: rest) a w := by
  refine wpListIn_plain hg fun K hK' => ?_
  obtain ⟨g, cap, w', hrun, r1, r2, r3, _⟩ := run_append_lies (P := P) w t o.type base e i z size bytes h1 h2 h3 h4 h5 h6 h7 v k xs hown ad m c news hn hc h1c hm b1 b2 b3 _ rfl
  refine ⟨?_, ?_⟩
  · simp [Oper.about, hop, resolve, Target.leads, Sem.run_pure]
  · rw [Oper.semAt_plain F _ _ (by rw [hop]; intro c hc'; cases hc')]
    simp [execOp, hop, resolve, invoke, builtin, hs, hx, hrun, Result.andThen]
    exact hK' _ _ (hK g cap w' r1 r2 r3)

theorem appendedO {n k L B : Nat} {O : Nat → Prop} {E : Nat → Nat} {s : List Nat} {J : (Nat → Prop) → List (Fin n) → World → Prop} {W3 w4 : World} {g cap' : Nat} {ao : Option Addr} {cap : Nat} {o : Obj} (hst : st E (k + 1) = E k :: s) (hL : s.length = L)
    (hown' : w4.ownsRow (B + 1) 3 1 (.slice (some ⟨g, 0, none⟩) (L + 1) cap') (L + 1) (s.reverse.map iv ++ [.int .i64 (E k : Int)])) (hgrow : (W3.alloc o).grownBy w4 (Value.slice ao L cap).ownBlock) (hat : (Value.slice ao L cap).ownBlock = some g ∨ g = (W3.alloc o).heap.size) (hs3 : B < W3.heap.size) (hJ : AbideO J)
    (hJ3 : J O (List.take (k + 1) (List.finRange n)) W3) (hrow : W3.rowIs B 3 n (fun j => .int .i64 (E j : Int))) (hOB : O B) (hao : ∀ a, ao = some a → B + 1 ≤ a.block ∧ O a.block) :
    Hid (∃ O', J O' (List.take (k + 1) (List.finRange n)) w4 ∧ w4.ownsRow (B + 1) 3 1 (.slice (some ⟨g, 0, none⟩) (st E (k + 1)).length cap') (st E (k + 1)).length ((st E (k + 1)).reverse.map iv) ∧ w4.rowIs B 3 n (fun j => .int .i64 (E j : Int)) ∧ O' B ∧ (∀ a, some (⟨g, 0, none⟩ : Addr) = some a → O' a.block)) := by
  have hlen : (st E (k + 1)).length = L + 1 := by rw [hst]; simp [hL]
  have hsz : (W3.alloc o).heap.size = W3.heap.size + 1 := by simp
  have hg := hgrow.size
  have hne : ∀ b, ¬ O b → some b ≠ (Value.slice ao L cap).ownBlock := fun b hb e => by
    cases ao with
    | none => cases e
    | some a => cases e; exact hb (hao a rfl).2
  have hstep : StepO O W3 w4 := ⟨hgrow.os, hgrow.tape, hgrow.output, by omega, fun b hb ho => (hgrow.block b (by omega) (hne b ho)).trans (Below.heap_alloc _ _ _ hb)⟩
  refine ⟨_, hJ _ _ _ _ hJ3 hstep, ?_, ?_, .inl hOB, fun a ha => ?_⟩
  · rw [hlen, hst]
    simpa [iv] using hown'
  · refine hrow.of_block ?_
    rw [hgrow.block B (by omega) (fun e => ?_), Below.heap_alloc _ _ _ hs3]
    cases ao with
    | none => cases e
    | some a =>
      cases e
      have := (hao a rfl).1
      omega
  · cases ha
    rcases hat with hat | hat
    · cases ao with
      | none => cases hat
      | some a => cases hat; exact .inl (hao a rfl).2
    · refine .inr ⟨by show W3.heap.size ≤ g; omega, ?_⟩
      have := (hown'.lt g rfl).2
      exact this

theorem ownsRow_keepO {w w' : World} {base : Nat} {ao : Option Addr} {n cap : Nat} {xs : List Value} (h : w.ownsRow base 3 1 (.slice ao n cap) n xs) (hk : ∀ b, ao = some b → b.block < w.heap.size → w'.heap[b.block]? = w.heap[b.block]?) : w'.ownsRow base 3 1 (.slice ao n cap) n xs := by
  obtain ⟨h1, h2⟩ := h
  refine ⟨h1, ?_⟩
  rcases h2 with h | ⟨g, cap', cur, he, hb, hc, h3⟩
  · exact .inl h
  · have he2 := he
    simp only [Value.slice.injEq] at he2
    exact .inr ⟨g, cap', cur, he, hb, (hk _ he2.1 (Array.getElem?_eq_some_iff.1 hc).1).trans hc, h3⟩
set_option maxRecDepth 100000 in
set_option maxHeartbeats 4000000 in
theorem nodes1_own (m : Nat) (K : Nat → Int) (n cap : Nat) (ao : Option Addr) (lo l Bn : Nat) (W : World) (hm : 2 ≤ m) (hn : n ≤ 200) (hlo : lo ≤ W.heap.size) (hBn : W.cell? ⟨Bn, 0, none⟩ = some (.slice ao n cap))
    (hc : 0 < n → ∃ b o, ao = some ⟨b, o, none⟩ ∧ b < lo ∧ ∀ i, i < n → W.cell? ⟨b, o + i * 10 + 6, none⟩ = some (.int .i64 (K i))) :
    SeqO m Try.prog 29 #[.pointer (some ⟨Bn, 0, none⟩)] (fun x : Fin n => #[nodeV K n x]) lo l (fun ys => ys = nodeSeq K n) (fun pre => pre <+: nodeSeq K n ∧ pre ≠ []) n W := by
  intro J Jx hJ hJx hY h0
  have hte := treeEnds_in ao n cap K W hn (fun hp => by obtain ⟨b, o, e, hb, hcc⟩ := hc hp; exact ⟨b, o, e, by omega, hcc⟩)
  refine callsIn_of_wp Try.func29 rfl trivial ?_ rfl
  simp only [Try.ntmps29, List.size_toArray, List.length_cons, List.length_nil, Nat.reduceAdd, Nat.reduceSub, Array.replicate_succ, Array.replicate_zero, List.push_toArray, List.append_toArray, List.nil_append, List.cons_append]
  gi_wp2_with fail
  refine ⟨trivial, fun _ => by omega, ?_⟩
  refine (callsIn_wide.2 hte).mono ?_
  rintro e w1 ⟨⟨v, rfl, hv⟩, b1⟩
  rcases hv with ⟨rfl, hno⟩ | ⟨E, hpos, rfl, hrow, hE, hE0⟩
  · have hseq : nodeSeq K n = [] := by unfold nodeSeq; exact if_neg (fun ⟨h, t⟩ => hno h t)
    have hJ1 : Hid (J (moreO (fun _ => False) W w1) [] w1) := hJ _ _ _ _ h0 (StepO.of_below b1)
    clear hno hte hY hc
    gi_wp2
    refine wpIn_loop_rounds 1 ?_
    rw [roundsIn_succ]
    gi_wp2
    go_end0
    exact ⟨⟨_, rfl⟩, .inl ⟨[], _, hseq.symm, hJ1.out⟩⟩
  · have hEE : ∀ i, i < n → EE K n i = E i := fun i hi => by obtain ⟨h, t⟩ := hE i hi; exact EE_eq t
    have hseq : nodeSeq K n = List.finRange n := by
      unfold nodeSeq
      refine if_pos ?_
      obtain ⟨h, t⟩ := hE 0 hpos
      rw [hE0] at t
      exact ⟨h, t⟩
    have hrow' : w1.rowIs W.heap.size 3 n (fun j => .int .i64 (EE K n j : Int)) := hrow.congr fun i hi => by rw [hEE i hi]
    have hJ1 : J (moreO (fun _ => False) W w1) [] w1 := hJ _ _ _ _ h0 (StepO.of_below b1)
    have hsz1 : W.heap.size < w1.heap.size := hrow'.lt
    have hinv : Hid (∃ O, J O ((List.finRange n).take 0) w1 ∧ w1.ownsRow (W.heap.size + 1) 3 1 (.slice none 0 0) 0 ((st (EE K n) 0).reverse.map iv) ∧ w1.rowIs W.heap.size 3 n (fun j => .int .i64 (EE K n j : Int)) ∧ O W.heap.size ∧ (∀ a, (none : Option Addr) = some a → O a.block)) :=
      ⟨moreO (fun _ => False) W w1, by simpa using hJ1, World.ownsRow_nil _ _ _ _, hrow', Or.inr ⟨Nat.le_refl _, hsz1⟩, fun a h => by cases h⟩
    clear hrow hE hE0 hEE hrow' hJ1 hte hc h0 hBn
    obtain ⟨i0, hi, hz0, hz1, hz2⟩ := info_parts (show (Try.prog.info? 3).map (fun i => (i.zero, i.size, i.bytes)) = some (some (.int .i64 0), 1, 8) by kernel_rfl)
    gi_wp2
    gi_loopw [3, 9] (fun a i wr => ∃ (k cap' : Nat) (ao' : Option Addr), a = .slice ao' (st (EE K n) k).length cap' ∧ i = .int .i64 (k : Int) ∧ k ≤ n ∧
      Hid (∃ O, J O ((List.finRange n).take k) wr ∧ wr.ownsRow (W.heap.size + 1) 3 1 (.slice ao' (st (EE K n) k).length cap') (st (EE K n) k).length ((st (EE K n) k).reverse.map iv) ∧ wr.rowIs W.heap.size 3 n (fun j => .int .i64 (EE K n j : Int)) ∧ O W.heap.size ∧ (∀ a, ao' = some a → O a.block)))
      (fun _ i _ => n - (intOf i).toNat)
    case atStart => exact ⟨0, 0, none, rfl, rfl, by omega, hinv⟩
    case round =>
      clear hinv
      obtain ⟨k, cap', ao', rfl, rfl, hkn, hH⟩ := hrel
      by_cases hk : k < n
      · have hki : (k : Int) < (n : Int) := by omega
        have d0 : wr.cell? ⟨W.heap.size, k, none⟩ = some (.int .i64 (EE K n k : Int)) := by
          obtain ⟨O, h1, h2, h3, h4, h5⟩ := hH.out
          exact h3.cell hk
        gi_wp2
        gi_loopw [3] (fun a ws => ∃ (s : List Nat), a = .slice ao' s.length cap' ∧ wr = ws ∧ s.length ≤ n ∧ Hid (pop k s = pop k (st (EE K n) k) ∧ wr.ownsRow (W.heap.size + 1) 3 1 (.slice ao' s.length cap') s.length (s.reverse.map iv))) (fun a _ => lenOf a)
        case atStart => exact ⟨st (EE K n) k, rfl, rfl, Nat.le_trans (st_le _ _) hkn, rfl, by obtain ⟨O, h1, h2, h3, h4, h5⟩ := hH.out; exact h2⟩
        case round =>
          obtain ⟨s, rfl, rfl, hsn, hP⟩ := hrel
          cases s with
          | nil =>
            have hps : pop k ([] : List Nat) = [] := rfl
            simp only [List.length_nil]
            have hd : depth (EE K n) k = 0 := by rw [depth, ← hP.out.1, hps]; rfl
            have hR0 : 0 ≤ k := by rw [← hd]; exact depth_le _ _
            obtain ⟨O, hHJ, hHo, hHr, hHB, hHa⟩ := id hH.out
            obtain ⟨fn, tmps, assign, body, hy, hR⟩ := hY O _ ⟨k, hk⟩ wr hHJ (by simp; omega)
            rw [← take_succ_fin hk] at hR
            simp [nodeV, hd] at hy
            have hown : Hid (wr.ownsRow (W.heap.size + 1) 3 1 (.slice ao' (0) cap') (0) (([] : List Nat).reverse.map iv)) := hP.out.2
            have hrw : Hid (wr.rowIs W.heap.size 3 n (fun j => .int .i64 (EE K n j : Int))) := hHr
            have hst : Hid (st (EE K n) (k + 1) = EE K n k :: ([] : List Nat)) := by
              show st (EE K n) (k + 1) = EE K n k :: ([] : List Nat)
              rw [st_depth, ← hP.out.1, hps]
            have hHB' : Hid (O W.heap.size) := hHB
            have hHa' : Hid (∀ a, ao' = some a → O a.block) := hHa
            clear hP hH hps hd hHJ hHo hHr hHB hHa
            gi_wp2
            refine ⟨fun _ => by omega, ?_⟩
            refine hR.mono ?_
            rintro e W3 (⟨rfl, hJ3, hk3⟩ | ⟨rfl, hJx3⟩)
            · have hown3 := ownsRow_keepO (w' := W3) hown.out (fun b hb h2 => hk3.block b.block (.inl (hHa'.out b hb)) h2)
              have hrw3 := hrw.out.of_block (w' := W3) (hk3.block _ (.inl hHB'.out) hrw.out.lt)
              have hs3 : W.heap.size < W3.heap.size := hrw3.lt
              have hJ3' : Hid (J O (List.take (k + 1) (List.finRange n)) W3) := hJ3
              have hrw3' : Hid (W3.rowIs W.heap.size 3 n (fun j => .int .i64 (EE K n j : Int))) := hrw3
              have hown3' : Hid (W3.ownsRow (W.heap.size + 1) 3 1 (.slice ao' (0) cap') (0) (([] : List Nat).reverse.map iv)) := hown3
              clear hJ3 hrw3 hown hrw hown3 hk3 hy hR
              gi_wp2_with (gi_at_builtin; refine listIn_append_lies _ rfl _ _ 42 rfl (W.heap.size + 1) 3 i0 (.int .i64 0) 1 8 Try.underlying42 hi hz0 hz1 hz2 rfl (by decide) _ _ _ rfl (hown3'.out.alloc _) ⟨W3.heap.size, 0, none⟩ 1 1 [.int .i64 (EE K n k : Int)] rfl rfl (cell_one_new _ _ _) (by simp [Value.oneCell']) (by omega) (by simp only [maxLen]; omega) (by omega) (by simp; omega) ?_; intro g4 c4 w4 hown' hgrow hat; have hnew := appendedO hst.out (by simp) hown' hgrow hat hs3 hJ hJ3'.out hrw3'.out hHB'.out (fun a e => ⟨(hown3'.out.lt a.block (by rw [e]; rfl)).1, hHa'.out a e⟩); clear hat)
              go_roundw
              case rel => exact ⟨k + 1, c4, some ⟨g4, 0, none⟩, by rw [hst.out]; simp, rfl, by omega, hnew⟩
              case measure => simp [intOf]; omega
            · have hpre : Hid (List.take (k + 1) (List.finRange n) <+: nodeSeq K n ∧ List.take (k + 1) (List.finRange n) ≠ []) := by
                refine ⟨by rw [hseq]; exact List.take_prefix _ _, fun h => ?_⟩
                have := congrArg List.length h
                simp at this
                omega
              have hJx3' : Hid (Jx O (List.take (k + 1) (List.finRange n)) W3) := hJx3
              clear hJx3 hown hrw hst hy hR hHa' hHB'
              gi_wp2
              refine bodyPost_ret (results_none rfl _ _ _) rfl ?_
              exact ⟨⟨_, rfl⟩, .inr ⟨_, O, hpre.out, hJx3'.out⟩⟩
          | cons x s =>
            obtain ⟨L, hL⟩ : ∃ L, s.length = L := ⟨_, rfl⟩
            obtain ⟨g, cap2, he⟩ := ownsRow_succ (k := s.length) hP.out.2
            simp only [List.length_cons, Value.slice.injEq] at he
            obtain ⟨rfl, _, rfl⟩ := he
            have hcell : wr.cell? ⟨g, L, none⟩ = some (.int .i64 (x : Int)) := by
              have := hP.out.2.cellAt L (by simp [hL])
              rw [this]
              simp [← hL, iv]
            have hcap := ownsRow_cap hP.out.2
            rw [List.length_cons, hL] at hsn hcap
            obtain ⟨hcap, hcap2⟩ := hcap
            simp only [List.length_cons, hL]
            by_cases hx : x ≤ k
            · have hxi : (x : Int) ≤ (k : Int) := by omega
              have hnext : Hid (pop k s = pop k (st (EE K n) k) ∧ wr.ownsRow (W.heap.size + 1) 3 1 (.slice (some ⟨g, 0, none⟩) s.length cap') s.length (s.reverse.map iv)) := by
                refine ⟨?_, ?_⟩
                · rw [← hP.out.1, pop, if_pos hx]
                · have := hP.out.2
                  simp only [List.length_cons, List.reverse_cons, List.map_append, List.map_cons, List.map_nil] at this
                  exact ownsRow_shorter this (by simp)
              clear hP
              gi_wp2
              go_roundw
              case rel => exact ⟨s, by rw [hL], by first | trivial | rfl, by omega, hnext⟩
              case measure => simp [lenOf]
            · have hxi : ¬ (x : Int) ≤ (k : Int) := by omega
              have hps : pop k (x :: s) = x :: s := by rw [pop, if_neg hx]
              have hd : depth (EE K n) k = L + 1 := by rw [depth, ← hP.out.1, hps]; simp [hL]
              have hR0 : L + 1 ≤ k := by rw [← hd]; exact depth_le _ _
              obtain ⟨O, hHJ, hHo, hHr, hHB, hHa⟩ := id hH.out
              obtain ⟨fn, tmps, assign, body, hy, hR⟩ := hY O _ ⟨k, hk⟩ wr hHJ (by simp; omega)
              rw [← take_succ_fin hk] at hR
              simp [nodeV, hd] at hy
              have hown : Hid (wr.ownsRow (W.heap.size + 1) 3 1 (.slice (some ⟨g, 0, none⟩) (L + 1) cap') (L + 1) ((x :: s).reverse.map iv)) := (by have h := hP.out.2; rw [List.length_cons, hL] at h; exact h)
              have hrw : Hid (wr.rowIs W.heap.size 3 n (fun j => .int .i64 (EE K n j : Int))) := hHr
              have hst : Hid (st (EE K n) (k + 1) = EE K n k :: (x :: s)) := by
                show st (EE K n) (k + 1) = EE K n k :: (x :: s)
                rw [st_depth, ← hP.out.1, hps]
              have hHB' : Hid (O W.heap.size) := hHB
              have hHa' : Hid (∀ a, (some ⟨g, 0, none⟩ : Option Addr) = some a → O a.block) := hHa
              clear hP hH hps hd hHJ hHo hHr hHB hHa
              gi_wp2
              refine ⟨fun _ => by omega, ?_⟩
              refine hR.mono ?_
              rintro e W3 (⟨rfl, hJ3, hk3⟩ | ⟨rfl, hJx3⟩)
              · have hown3 := ownsRow_keepO (w' := W3) hown.out (fun b hb h2 => hk3.block b.block (.inl (hHa'.out b hb)) h2)
                have hrw3 := hrw.out.of_block (w' := W3) (hk3.block _ (.inl hHB'.out) hrw.out.lt)
                have hs3 : W.heap.size < W3.heap.size := hrw3.lt
                have hJ3' : Hid (J O (List.take (k + 1) (List.finRange n)) W3) := hJ3
                have hrw3' : Hid (W3.rowIs W.heap.size 3 n (fun j => .int .i64 (EE K n j : Int))) := hrw3
                have hown3' : Hid (W3.ownsRow (W.heap.size + 1) 3 1 (.slice (some ⟨g, 0, none⟩) (L + 1) cap') (L + 1) ((x :: s).reverse.map iv)) := hown3
                clear hJ3 hrw3 hown hrw hown3 hk3 hy hR
                gi_wp2_with (gi_at_builtin; refine listIn_append_lies _ rfl _ _ 42 rfl (W.heap.size + 1) 3 i0 (.int .i64 0) 1 8 Try.underlying42 hi hz0 hz1 hz2 rfl (by decide) _ _ _ rfl (hown3'.out.alloc _) ⟨W3.heap.size, 0, none⟩ 1 1 [.int .i64 (EE K n k : Int)] rfl rfl (cell_one_new _ _ _) (by simp [Value.oneCell']) (by omega) (by simp only [maxLen]; omega) (by omega) (by simp; omega) ?_; intro g4 c4 w4 hown' hgrow hat; have hnew := appendedO hst.out (by simp [hL]) hown' hgrow hat hs3 hJ hJ3'.out hrw3'.out hHB'.out (fun a e => ⟨(hown3'.out.lt a.block (by rw [e]; rfl)).1, hHa'.out a e⟩); clear hat)
                go_roundw
                case rel => exact ⟨k + 1, c4, some ⟨g4, 0, none⟩, by rw [hst.out]; simp [hL], rfl, by omega, hnew⟩
                case measure => simp [intOf]; omega
              · have hpre : Hid (List.take (k + 1) (List.finRange n) <+: nodeSeq K n ∧ List.take (k + 1) (List.finRange n) ≠ []) := by
                  refine ⟨by rw [hseq]; exact List.take_prefix _ _, fun h => ?_⟩
                  have := congrArg List.length h
                  simp at this
                  omega
                have hJx3' : Hid (Jx O (List.take (k + 1) (List.finRange n)) W3) := hJx3
                clear hJx3 hown hrw hst hy hR hHa' hHB'
                gi_wp2
                refine bodyPost_ret (results_none rfl _ _ _) rfl ?_
                exact ⟨⟨_, rfl⟩, .inr ⟨_, O, hpre.out, hJx3'.out⟩⟩
      · obtain rfl : k = n := by omega
        have hJn : Hid (∃ O, J O (List.finRange k) wr) := by
          obtain ⟨O, this, _⟩ := hH.out
          rw [List.take_of_length_le (by simp)] at this
          exact ⟨O, this⟩
        clear hH
        gi_wp2
        go_end0
        obtain ⟨O, hJo⟩ := hJn.out
        exact ⟨⟨_, rfl⟩, .inl ⟨_, O, hseq.symm, hJo⟩⟩
end Go.Proofs.Ytcbifllencnbaaa

import Derived.Test.YtkanjbopfflioaaGreatDoorG31
import Derived.Test.YtkanjbopfflioaaGreatDoorG32
import Derived.Test.YtkanjbopfflioaaGreatDoorG18
import Derived.Test.YtkanjbopfflioaaGreatDoorG00
import Derived.Shelf.Strings.Prefix
namespace Go.Proofs.YtkanjbopfflioaaGreatDoor
open Go.RowKit Go.Shelf
set_option linter.unusedVariables false
set_option linter.unusedSimpArgs false
set_option maxRecDepth 100000
set_option maxHeartbeats 2000000
section
variable {P : Program} {ops : Array Oper} {Q : Exit → Act → World → Prop} {md : Region.Mode} {S : World → Prop} {n : Nat}
theorem oper_wide {o : Oper} {a : Act} {w : World} {K : Act → World → Prop} (hd : ∀ c, o.op ≠ .defer c) (hn : 1 ≤ n) (h : o.wp P a w K Q) : o.wpIn Fence.wide n P a w K Q := by
  refine ⟨fun _ _ => trivial, ?_⟩
  rw [Oper.semAt_plain _ _ _ hd]
  unfold Oper.wp at h
  generalize (execOp a.eval o).run P w = r at h ⊢
  cases r with
  | ok x w' =>
    cases x with
    | value v => exact h
    | skip => exact h
    | defer d => exact h
    | enter f args => exact ⟨fun hx => hn, callsIn_wide.2 h⟩
    | row row args => exact ⟨fun hx => hn, fun c cs _ => let ⟨v, w', q, s⟩ := h c cs; ⟨v, w', q, stepsIn_wide.2 s⟩⟩
    | _ => exact (h : False).elim
  | halt x w' =>
    cases x with
    | panic v => exact h
    | _ => exact (h : False).elim
theorem any_wide (hn : 1 ≤ n) (hd : ∀ (i : Nat) (o : Oper), ops[i]? = some o → ∀ c, o.op ≠ .defer c) (hL : ¬ LetsOut Q) :
    ∀ (fuel : Nat) (listed : Array Bool) (a : Act) (w : World), wpAny P md ops Q fuel listed a w → wpAnyIn Fence.wide n P md ops Q fuel listed a w := by
  intro fuel
  induction fuel with
  | zero => intro listed a w h; exact h
  | succ fuel ih =>
    intro listed a w h
    refine ⟨h.1, fun i hi => ?_⟩
    have h2 := h.2 i hi
    unfold wpOp at h2
    unfold wpOpIn
    cases ho : ops[i]? with
    | none =>
      rw [ho] at h2
      exact ih _ _ _ h2
    | some o =>
      rw [ho] at h2
      dsimp only at h2 ⊢
      split
      · rename_i hw
        rw [if_pos hw] at h2
        rcases h2 with h2 | ⟨_, h2⟩
        · exact Oper.wpIn_mono (fun a w h => ih _ a w h) (oper_wide (hd i o ho) hn h2)
        · exact absurd h2 hL
      · rename_i hw
        rw [if_neg hw] at h2
        exact ⟨fun _ _ => trivial, ih _ _ _ h2⟩
/-- a region that draws its order, in a wide fence. -/
theorem region_wide {id : Nat} {a : Act} {w : World} (hn : 1 ≤ n) (hm : P.follows .mixedOrders = true) (hd : ∀ (i : Nat) (o : Oper), ops[i]? = some o → ∀ c, o.op ≠ .defer c) (hL : ¬ LetsOut Q) (hS : S w.drew)
    (h : S w.drew → wpAnyH P .any ops Q S ops.size (Array.replicate ops.size false) a w.drew) : (Code.region id ops true).wpIn Fence.wide n P Q a w :=
  wpIn_region_any hm (any_wide hn hd hL _ _ _ _ (wpAny_of_held _ _ _ _ (h hS)))
end
theorem lines_in (s : ByteArray) (w : World) : Calls Tryz.prog 13 #[.string s] w fun e w' => e = .returned (.func (.func 40) #[] #[.pointer (some ⟨w.heap.size, 0, none⟩)]) ∧ w.alloc (.cells #[.string s] 9) = w' := by
  go_enter Tryz.func13, Tryz.ntmps13
  go_wp2_with fail
  refine bodyPost_ret (v := .func (.func 40) #[] #[.pointer (some ⟨w.heap.size, 0, none⟩)]) (by simp [results, Tryz.results13, go_sem]) rfl ⟨rfl, rfl⟩
theorem indexByte_in (s : ByteArray) (w : World) : Calls Tryz.prog 41 #[.string s, .int .u8 10] w fun e w' => e = .returned (.int .i64 (Lib.indexB s ⟨#[10]⟩)) ∧ w = w' :=
  (Any.strings_IndexByte Tryz.lays137 s 10 w).mono fun e w' h => by
    obtain ⟨rfl, rfl⟩ := h
    rw [indexB_one]
    exact ⟨rfl, rfl⟩
def szOf (v : Option Value) : Nat := match v with
  | some (.string s) => s.size
  | _ => 0
theorem nextLn_hit {s : ByteArray} {i : Nat} (h : Lib.indexB s ⟨#[10]⟩ = (i : Int)) : i < s.size := by
  rw [indexB_one] at h
  have := (List.getElem?_eq_some_iff.1 (Lib.indexByte_some h).1).1
  rw [Array.length_toList] at this
  exact this
def noDefer (ops : Array Oper) : Bool := ops.all fun o => match o.op with | .defer _ => false | _ => true
theorem noDefer_of {ops : Array Oper} (h : noDefer ops = true) (i : Nat) (o : Oper) (ho : ops[i]? = some o) (c : _) : o.op ≠ .defer c := fun e => by
  have hm := Array.all_eq_true'.1 h o (Array.mem_of_getElem? ho)
  rw [e] at hm
  cases hm
/-- between two lines. -/
def LnI (s0 : ByteArray) (sB : Nat) (J : (Nat → Prop) → List ByteArray → World → Prop) (wr : World) : Prop :=
  ∃ (pre : List ByteArray) (s : ByteArray) (O : Nat → Prop), J O pre wr ∧ O sB ∧ RowL wr sB 9 [.string s] ∧ pre.map trimNL ++ linesOf s = linesOf s0 ∧ pre.length + s.size ≤ s0.size
theorem lines1_own (m : Nat) (s0 : ByteArray) (sB lo l : Nat) (W : World) (hm : 2 ≤ m) (hs0 : s0.size ≤ 100000) (hR : RowL W sB 9 [.string s0]) :
    SeqP m Tryz.prog 40 #[.pointer (some ⟨sB, 0, none⟩)] (fun x : ByteArray => #[.string x]) lo l (fun ys => ys.map trimNL = linesOf s0) (fun pre => ∃ post, pre.map trimNL ++ post = linesOf s0 ∧ pre ≠ []) (s0.size + 1) (fun x => x.size ≤ s0.size) (fun b => b = sB) W := by
  intro J Jx hJ hJx hY h0
  have hrel0 : Hid (LnI s0 sB J W) := ⟨[], s0, _, h0, rfl, hR, rfl, by simp⟩
  replace hJ := hidR hJ
  replace hJx := hidR hJx
  replace hY := hidR hY
  clear h0 hR
  refine callsIn_of_wp Tryz.func40 rfl trivial ?_ rfl
  simp only [Tryz.ntmps40, List.size_toArray, List.length_cons, List.length_nil, Nat.reduceAdd, Nat.reduceSub, Array.replicate_succ, Array.replicate_zero, List.push_toArray, List.append_toArray, List.nil_append, List.cons_append]
  gi_wp2_with fail
  gi_loopw [] (fun wr => Hid (LnI s0 sB J wr)) (fun wr => szOf (wr.cell? ⟨sB, 0, none⟩))
  case atStart => exact hrel0
  case round =>
    clear hrel0
    obtain ⟨pre, s, O, hj, ho, hr, hl, hn⟩ := hrel.out
    clear hrel
    have c0 := hr.cell 0 rfl
    have f0 := hr.frozen 0
    have hrl := hr.lt
    replace hr := hidR hr
    replace hj := hidR hj
    replace ho := hidR ho
    replace hl := hidR hl
    by_cases hz : s.size = 0
    · have hzI : ¬ (0 : Int) < (s.size : Int) := by omega
      have hfin : Hid (pre.map trimNL = linesOf s0) := by
        have := hl.out
        rw [linesOf_nil hz, List.append_nil] at this
        exact this
      clear hY
      gi_wp2
      go_end0
      refine ⟨⟨_, rfl⟩, .inl ⟨pre, ?_⟩⟩
      first | exact ⟨O, hfin.out, hj.out⟩ | exact ⟨hfin.out, O, hj.out⟩
    · have hzI : (0 : Int) < (s.size : Int) := by omega
      have hib := hidR (indexByte_in s wr)
      have hcs := Lib.indexB_cases s ⟨#[10]⟩
      obtain ⟨ix, hix⟩ : ∃ ix, Lib.indexB s ⟨#[10]⟩ = ix := ⟨_, rfl⟩
      rw [hix] at hib hcs
      replace hix := hidR hix
      gi_wp2_with fail
      refine ⟨trivial, fun _ => by omega, ?_⟩
      refine (callsIn_wide.2 hib.out).mono ?_
      rintro e wy ⟨rfl, rfl⟩
      clear hib
      rcases hcs with rfl | ⟨i, rfl, hi1⟩
      · have hnl := hidR (NextLn.no hix.out (by omega))
        have hYl : pre.length < s0.size + 1 := by omega
        have hj3 : Hid (J (moreO O wr (wr.setCell ⟨sB, 0, none⟩ (.string ⟨#[]⟩))) pre (wr.setCell ⟨sB, 0, none⟩ (.string ⟨#[]⟩))) := hJ.out _ _ _ _ hj.out ⟨rfl, rfl, rfl, by rw [World.size_setCell]; exact Nat.le_refl _, fun b hb hob => by
          have h9 : b ≠ sB := fun e => hob (by rw [e]; exact ho.out)
          exact heap_setCell_other wr ⟨sB, 0, none⟩ b _ h9⟩
        have hr3 : Hid (RowL (wr.setCell ⟨sB, 0, none⟩ (.string ⟨#[]⟩)) sB 9 [.string (⟨#[]⟩)]) := hr.out.set 0 _
        generalize hW3 : wr.setCell ⟨sB, 0, none⟩ (.string ⟨#[]⟩) = W3 at hj3 hr3
        obtain ⟨fn, tmps, assign, body, hy, hR⟩ := hY.out _ pre (s) W3 hj3.out hYl (by omega)
        replace hR := hR
        replace hW3 := hidR hW3

        gi_wp2_with fail
        rw [hW3.out]
        gi_wp2_with fail
        rw [hy]
        gi_wp2_with fail
        refine ⟨fun _ => by omega, ?_⟩
        refine hR.mono ?_
        rintro e W4 (⟨rfl, hJ3, hk3⟩ | ⟨rfl, hJx3⟩)
        · have hr4 : RowL W4 sB 9 [.string (⟨#[]⟩)] := World.rowIs.of_block hr3.out (hk3.block sB (.inl (.inl ho.out)) hr3.out.lt)
          have hnew : Hid (LnI s0 sB J W4) := ⟨pre ++ [s], ⟨#[]⟩, _, hJ3, .inl ho.out, hr4, by
            rw [← hl.out, hnl.out.lines, List.map_append, List.append_assoc]
            rfl, by
            have h1 := hnl.out.less
            simp only [List.length_append, List.length_cons, List.length_nil]
            omega⟩
          have hcell : W4.cell? ⟨sB, 0, none⟩ = some (.string (⟨#[]⟩)) := hr4.cell 0 rfl
          have hless := hidR hnl.out.less.1
          clear hJ3 hk3 hr4 hy hR hr3 hj3 hnl hYl
          gi_wp2
          go_roundw
          case rel => exact hnew
          case measure =>
            rw [hcell, c0]
            exact hless.out
        · have hpre : Hid (∃ post, (pre ++ [s]).map trimNL ++ post = linesOf s0 ∧ pre ++ [s] ≠ []) := ⟨linesOf (⟨#[]⟩), by
            rw [← hl.out, hnl.out.lines, List.map_append, List.append_assoc]
            rfl, by simp⟩
          have hJx3' := hidR hJx3
          clear hJx3 hy hR hr3 hj3 hnl hYl
          gi_wp2
          refine bodyPost_ret (results_none rfl _ _ _) rfl ?_
          refine ⟨⟨_, rfl⟩, .inr ⟨pre ++ [s], ?_⟩⟩
          first | exact ⟨_, hpre.out, hJx3'.out⟩ | exact ⟨hpre.out, _, hJx3'.out⟩

      · have hil := nextLn_hit hix.out
        have hnl := hidR (NextLn.hit hix.out hil)
        have hiI : (0 : Int) ≤ (i : Int) := by omega
        clear hi1
        have hYl : pre.length < s0.size + 1 := by omega
        have hj3 : Hid (J (moreO O wr (wr.drew.setCell ⟨sB, 0, none⟩ (.string (s.extract (i + 1) s.size)))) pre (wr.drew.setCell ⟨sB, 0, none⟩ (.string (s.extract (i + 1) s.size)))) := hJ.out _ _ _ _ hj.out ⟨rfl, rfl, rfl, by rw [World.size_setCell]; exact Nat.le_refl _, fun b hb hob => by
          have h9 : b ≠ sB := fun e => hob (by rw [e]; exact ho.out)
          exact heap_setCell_other wr.drew ⟨sB, 0, none⟩ b _ h9⟩
        have hr3 : Hid (RowL (wr.drew.setCell ⟨sB, 0, none⟩ (.string (s.extract (i + 1) s.size))) sB 9 [.string (s.extract (i + 1) s.size)]) := (hr.out.call (Below.refl _ _).drew).set 0 _
        generalize hW3 : wr.drew.setCell ⟨sB, 0, none⟩ (.string (s.extract (i + 1) s.size)) = W3 at hj3 hr3
        obtain ⟨fn, tmps, assign, body, hy, hR⟩ := hY.out _ pre (s.extract 0 (i + 1)) W3 hj3.out hYl (by have := hnl.out.less.2; omega)
        replace hR := hR
        replace hW3 := hidR hW3

        gi_wp2_with fail
        have hS0 : wr.drew.cell? ⟨sB, 0, none⟩ = some (.string s) := c0
        have hF0 : wr.drew.frozen? ⟨sB, 0, none⟩ = false := f0
        have hiA : IntKind.i64.wrap ((i : Int) + 1) = ((i + 1 : Nat) : Int) := by rw [IntKind.wrap_i64]; omega
        refine region_wide (S := fun _ => True) (by omega) (by kernel_rfl) (noDefer_of (by kernel_rfl)) (fun ⟨_, _, h⟩ => by obtain ⟨⟨v, hv⟩, _⟩ := h; cases hv) trivial (fun hH => ?_)
        clear hH
        refine take_dst 1 13 (.int .i64 (i : Int)) rfl (by kernel_rfl) (by kernel_rfl) (by kernel_rfl) (fun _ _ _ h => h) (Or.inl ⟨by rfl, by intro wv hSv; go_simp⟩) trivial rfl ?_
        try simp only [Act.put, List.setIfInBounds_toArray, List.set_cons_zero, List.set_cons_succ]
        refine take_dst 2 14 (.int .i64 ((i + 1 : Nat) : Int)) rfl (by kernel_rfl) (by kernel_rfl) (by kernel_rfl) (fun _ _ _ h => h) (Or.inl ⟨by rfl, by intro wv hSv; go_simp⟩) trivial rfl ?_
        try simp only [Act.put, List.setIfInBounds_toArray, List.set_cons_zero, List.set_cons_succ]
        refine take_dst 5 17 (.int .i64 (i : Int)) rfl (by kernel_rfl) (by kernel_rfl) (by kernel_rfl) (fun _ _ _ h => h) (Or.inl ⟨by rfl, by intro wv hSv; go_simp⟩) trivial rfl ?_
        try simp only [Act.put, List.setIfInBounds_toArray, List.set_cons_zero, List.set_cons_succ]
        refine take_dst 6 18 (.int .i64 ((i + 1 : Nat) : Int)) rfl (by kernel_rfl) (by kernel_rfl) (by kernel_rfl) (fun _ _ _ h => h) (Or.inl ⟨by rfl, by intro wv hSv; go_simp⟩) trivial rfl ?_
        try simp only [Act.put, List.setIfInBounds_toArray, List.set_cons_zero, List.set_cons_succ]
        refine wpAnyH_ready (rs := [0, 4]) (by kernel_rfl) (by simp) ?_
        refine (AllReadyH.cons rfl (fun K9 hK => ?_) (AllReadyH.cons rfl (fun K9 hK => ?_) AllReadyH.nil))
        · go_simp
          refine hK.out _ _ trivial (fun _ => ?_)
          clear hK K9
          try simp only [Act.put, List.setIfInBounds_toArray, List.set_cons_zero, List.set_cons_succ]
          refine take_dst 3 15 (.string (s.extract 0 (i + 1))) rfl (by kernel_rfl) (by kernel_rfl) (by kernel_rfl) (fun _ _ _ h => h) (Or.inl ⟨by rfl, by intro wv hSv; go_simp; intro h9; exact absurd (h9 (by omega)) (by omega)⟩) trivial rfl ?_
          try simp only [Act.put, List.setIfInBounds_toArray, List.set_cons_zero, List.set_cons_succ]
          refine take_dst 8 3 (.string (s.extract 0 (i + 1))) rfl (by kernel_rfl) (by kernel_rfl) (by kernel_rfl) (fun _ _ _ h => h) (Or.inl ⟨by rfl, by intro wv hSv; go_simp⟩) trivial rfl ?_
          try simp only [Act.put, List.setIfInBounds_toArray, List.set_cons_zero, List.set_cons_succ]
          refine wpAnyH_ready (rs := [4]) (by kernel_rfl) (by simp) ?_
          refine AllReadyH.cons rfl (fun K9 hK => ?_) AllReadyH.nil
          go_simp
          refine hK.out _ _ trivial (fun _ => ?_)
          clear hK K9
          try simp only [Act.put, List.setIfInBounds_toArray, List.set_cons_zero, List.set_cons_succ]
          refine take_dst 7 19 (.string (s.extract (i + 1) s.size)) rfl (by kernel_rfl) (by kernel_rfl) (by kernel_rfl) (fun _ _ _ h => h) (Or.inl ⟨by rfl, by intro wv hSv; go_simp; intro h9; exact absurd (h9 (by omega)) (by omega)⟩) trivial rfl ?_
          try simp only [Act.put, List.setIfInBounds_toArray, List.set_cons_zero, List.set_cons_succ]
          refine wpAnyH_ready (rs := [9]) (by kernel_rfl) (by simp) ?_
          refine AllReadyH.cons rfl (fun K9 hK => ?_) AllReadyH.nil
          go_simp
          refine hK.out _ _ trivial (fun _ => ?_)
          clear hK K9
          try simp only [Act.put, List.setIfInBounds_toArray, List.set_cons_zero, List.set_cons_succ]
          rw [show (wr.setCell ⟨sB, 0, none⟩ (.string (s.extract (i + 1) s.size))).drew = W3 from hW3.out]
          refine wpAnyH_done (by kernel_rfl) ?_ _
          gi_wp2_with fail
          refine ⟨fun _ => by omega, ?_⟩
          refine hR.mono ?_
          rintro e W4 (⟨rfl, hJ3, hk3⟩ | ⟨rfl, hJx3⟩)
          · have hr4 : RowL W4 sB 9 [.string (s.extract (i + 1) s.size)] := World.rowIs.of_block hr3.out (hk3.block sB (.inl (.inl ho.out)) hr3.out.lt)
            have hnew : Hid (LnI s0 sB J W4) := ⟨pre ++ [s.extract 0 (i + 1)], s.extract (i + 1) s.size, _, hJ3, .inl ho.out, hr4, by
              rw [← hl.out, hnl.out.lines, List.map_append, List.append_assoc]
              rfl, by
              have h1 := hnl.out.less
              simp only [List.length_append, List.length_cons, List.length_nil]
              omega⟩
            have hcell : W4.cell? ⟨sB, 0, none⟩ = some (.string (s.extract (i + 1) s.size)) := hr4.cell 0 rfl
            have hless := hidR hnl.out.less.1
            clear hJ3 hk3 hr4 hy hR hr3 hj3 hnl hYl
            gi_wp2
            go_roundw
            case rel => exact hnew
            case measure =>
              rw [hcell, c0]
              exact hless.out
          · have hpre : Hid (∃ post, (pre ++ [s.extract 0 (i + 1)]).map trimNL ++ post = linesOf s0 ∧ pre ++ [s.extract 0 (i + 1)] ≠ []) := ⟨linesOf (s.extract (i + 1) s.size), by
              rw [← hl.out, hnl.out.lines, List.map_append, List.append_assoc]
              rfl, by simp⟩
            have hJx3' := hidR hJx3
            clear hJx3 hy hR hr3 hj3 hnl hYl
            gi_wp2
            refine bodyPost_ret (results_none rfl _ _ _) rfl ?_
            refine ⟨⟨_, rfl⟩, .inr ⟨pre ++ [s.extract 0 (i + 1)], ?_⟩⟩
            first | exact ⟨_, hpre.out, hJx3'.out⟩ | exact ⟨hpre.out, _, hJx3'.out⟩


        · go_simp
          refine hK.out _ _ trivial (fun _ => ?_)
          clear hK K9
          try simp only [Act.put, List.setIfInBounds_toArray, List.set_cons_zero, List.set_cons_succ]
          refine take_dst 7 19 (.string (s.extract (i + 1) s.size)) rfl (by kernel_rfl) (by kernel_rfl) (by kernel_rfl) (fun _ _ _ h => h) (Or.inl ⟨by rfl, by intro wv hSv; go_simp; intro h9; exact absurd (h9 (by omega)) (by omega)⟩) trivial rfl ?_
          try simp only [Act.put, List.setIfInBounds_toArray, List.set_cons_zero, List.set_cons_succ]
          refine wpAnyH_ready (rs := [0]) (by kernel_rfl) (by simp) ?_
          refine AllReadyH.cons rfl (fun K9 hK => ?_) AllReadyH.nil
          go_simp
          refine hK.out _ _ trivial (fun _ => ?_)
          clear hK K9
          try simp only [Act.put, List.setIfInBounds_toArray, List.set_cons_zero, List.set_cons_succ]
          refine take_dst 3 15 (.string (s.extract 0 (i + 1))) rfl (by kernel_rfl) (by kernel_rfl) (by kernel_rfl) (fun _ _ _ h => h) (Or.inl ⟨by rfl, by intro wv hSv; go_simp; intro h9; exact absurd (h9 (by omega)) (by omega)⟩) trivial rfl ?_
          try simp only [Act.put, List.setIfInBounds_toArray, List.set_cons_zero, List.set_cons_succ]
          refine take_dst 8 3 (.string (s.extract 0 (i + 1))) rfl (by kernel_rfl) (by kernel_rfl) (by kernel_rfl) (fun _ _ _ h => h) (Or.inl ⟨by rfl, by intro wv hSv; go_simp⟩) trivial rfl ?_
          try simp only [Act.put, List.setIfInBounds_toArray, List.set_cons_zero, List.set_cons_succ]
          refine wpAnyH_ready (rs := [9]) (by kernel_rfl) (by simp) ?_
          refine AllReadyH.cons rfl (fun K9 hK => ?_) AllReadyH.nil
          go_simp
          refine hK.out _ _ trivial (fun _ => ?_)
          clear hK K9
          try simp only [Act.put, List.setIfInBounds_toArray, List.set_cons_zero, List.set_cons_succ]
          rw [show (wr.setCell ⟨sB, 0, none⟩ (.string (s.extract (i + 1) s.size))).drew = W3 from hW3.out]
          refine wpAnyH_done (by kernel_rfl) ?_ _
          gi_wp2_with fail
          refine ⟨fun _ => by omega, ?_⟩
          refine hR.mono ?_
          rintro e W4 (⟨rfl, hJ3, hk3⟩ | ⟨rfl, hJx3⟩)
          · have hr4 : RowL W4 sB 9 [.string (s.extract (i + 1) s.size)] := World.rowIs.of_block hr3.out (hk3.block sB (.inl (.inl ho.out)) hr3.out.lt)
            have hnew : Hid (LnI s0 sB J W4) := ⟨pre ++ [s.extract 0 (i + 1)], s.extract (i + 1) s.size, _, hJ3, .inl ho.out, hr4, by
              rw [← hl.out, hnl.out.lines, List.map_append, List.append_assoc]
              rfl, by
              have h1 := hnl.out.less
              simp only [List.length_append, List.length_cons, List.length_nil]
              omega⟩
            have hcell : W4.cell? ⟨sB, 0, none⟩ = some (.string (s.extract (i + 1) s.size)) := hr4.cell 0 rfl
            have hless := hidR hnl.out.less.1
            clear hJ3 hk3 hr4 hy hR hr3 hj3 hnl hYl
            gi_wp2
            go_roundw
            case rel => exact hnew
            case measure =>
              rw [hcell, c0]
              exact hless.out
          · have hpre : Hid (∃ post, (pre ++ [s.extract 0 (i + 1)]).map trimNL ++ post = linesOf s0 ∧ pre ++ [s.extract 0 (i + 1)] ≠ []) := ⟨linesOf (s.extract (i + 1) s.size), by
              rw [← hl.out, hnl.out.lines, List.map_append, List.append_assoc]
              rfl, by simp⟩
            have hJx3' := hidR hJx3
            clear hJx3 hy hR hr3 hj3 hnl hYl
            gi_wp2
            refine bodyPost_ret (results_none rfl _ _ _) rfl ?_
            refine ⟨⟨_, rfl⟩, .inr ⟨pre ++ [s.extract 0 (i + 1)], ?_⟩⟩
            first | exact ⟨_, hpre.out, hJx3'.out⟩ | exact ⟨hpre.out, _, hJx3'.out⟩


end Go.Proofs.YtkanjbopfflioaaGreatDoor

import Derived.Test.YtndpbdpngniepaaDoorPackC
import Derived.Test.YtndpbdpngniepaaDoorTie
import Derived.Test.YtndpbdpngniepaaDoorCards
import Derived.ShutString
import Derived.ChangeOld
import Derived.Below
namespace Go.Proofs.YtndpbdpngniepaaDoor
open Go.ChangeShapes Go.WideShapes Go.ChangeAt Go.RowKit
set_option linter.unusedVariables false
theorem laidOut : laidOutB Tryd.prog = true := by kernel_rfl
theorem open_ins {H : Type} {enc : TypeId × Value → H} {W : World} {base : Nat} {r : Reach} {sp : Nat → Bool} {v : Value} {d : DataW H} {p : List MemPlace}
    (hv : Value.okWide Tryd.prog W r base 23 v) (h : DataW.Trod enc Tryd.prog W 0 sp true 23 v d p) : ∃ op a b c s : Int, v = ins op a b c s := by
  obtain ⟨⟨l⟩, rfl, hsz⟩ := okWide_struct Tryd.underlying23 hv
  rw [show Tryd.prog.cellsOf 23 = 5 by kernel_rfl] at hsz
  match l, hsz with
  | [c0, c1, c2, c3, c4], _ =>
    obtain ⟨fuel, hf⟩ := h
    obtain ⟨xs, n, _, hx, hl, hlen, hfd⟩ := DataW.trod_struct Tryd.underlying23 hf
    match xs, hlen, hfd with
    | [x0, x1, x2, x3, x4], _, hfd =>
      have e0 := hfd 0 _ rfl
      have e1 := hfd 1 _ rfl
      have e2 := hfd 2 _ rfl
      have e3 := hfd 3 _ rfl
      have e4 := hfd 4 _ rfl
      simp only [Value.cells] at e0 e1 e2 e3 e4
      obtain ⟨k0, i0, _, _⟩ := DataW.trod_int Tryd.underlying3 e0
      obtain ⟨k1, i1, _, _⟩ := DataW.trod_int Tryd.underlying3 e1
      obtain ⟨k2, i2, _, _⟩ := DataW.trod_int Tryd.underlying3 e2
      obtain ⟨k3, i3, _, _⟩ := DataW.trod_int Tryd.underlying3 e3
      obtain ⟨k4, i4, _, _⟩ := DataW.trod_int Tryd.underlying3 e4
      simp [cells3] at i0 i1 i2 i3 i4
      subst i0 i1 i2 i3 i4
      exact ⟨k0, k1, k2, k3, k4, rfl⟩
set_option maxRecDepth 100000 in
theorem pack_lifted (os : Os) (started : os.Started) (H : Type) (enc : TypeId × Value → H) :
    ReturnsInHanded {} Tryd.checked os 3 .any (fun w args => (Rows.fnExactPackSpec.pre enc Tryd.prog Tryd.f3 [] false w args ∧ laidMetH Tryd.prog [("loop.example/s02979/impl.spans", Rows.laid_loop_example_s02979_impl_spans)] w) ∧ sizedMet enc Tryd.prog Tryd.f3 (OpenSpec.ofChange Rows.fnExactPackSpec) false w args)
      (Rows.fnExactPackSpec.post enc Tryd.prog Tryd.f3 false true false false) := by
  refine returnsInHanded_of_change_and (C := Tryd.checked) (X := fun w _ => laidMetH Tryd.prog [("loop.example/s02979/impl.spans", Rows.laid_loop_example_s02979_impl_spans)] w) (fun _ _ _ hh h => h.of_heap hh) own started (by kernel_rfl) Tryd.func3
    (ChangeSpec.witness_shaped (enc := enc) (C := Tryd.checked) (os := os) (X := fun w _ => laidMetH Tryd.prog [("loop.example/s02979/impl.spans", Rows.laid_loop_example_s02979_impl_spans)] w) false (World.doorLaid Tryd.prog 400 os) #[.agg #[.int .i64 0, .int .i64 0, .int .i64 0, .int .i64 0, .int .i64 0]] 8 rfl (World.shaped_of_RefB (by kernel_rfl) (by kernel_rfl)) (by kernel_rfl) (by kernel_rfl) (by kernel_rfl) (door_met os _)) ?_
  intro W base args ds gs before hval0 hW _ _ hL _
  have hval : ∀ (j : Nat) t v, Tryd.f3.params[j]? = some t → args[j]? = some v → Value.okWide Tryd.prog W .any base t v := hval0
  have hW' := hW
  obtain ⟨p, q, hA0, hV0, rfl, hfz, hnd⟩ := hW
  have hA : DataW.TrodAll enc Tryd.prog W 0 (fun _ => true) true Tryd.f3.params.toList args.toList ds p := hA0
  have hV : DataW.TrodVars enc Tryd.prog W (fun _ => true) ["loop.example/s02979/impl.spans"] gs q := hV0
  rw [Tryd.params3] at hA hval
  obtain ⟨v0, vs0, d0, ds0, p0, q0, hargs, rfl, rfl, h0, r0⟩ := trodAll_cons hA
  obtain ⟨rfl, rfl, rfl⟩ := trodAll_nil r0
  obtain rfl : args = #[v0] := by cases args; simp_all
  have k0 := h0
  have lt0 : ∀ x ∈ p0, x.block < W.heap.size := by obtain ⟨m, hm⟩ := k0; exact DataW.trod_lt m _ _ _ hm
  obtain ⟨op, a, b, c, s, rfl⟩ := open_ins (hval 0 23 v0 rfl rfl) h0
  have hvw := cells_of_laid hL
  obtain ⟨g, t, cs, fuel, d, p', rfl, hg, ht, hvar, hd, rfl⟩ := trodVars_one hV
  obtain rfl := Option.some.inj (gSpans.symm.trans hg)
  obtain rfl := Option.some.inj (tSpans.symm.trans ht)
  obtain rfl : cs = cells8 := Option.some.inj (hvar.symm.trans hvw)
  obtain ⟨rfl, rfl⟩ := DataW.Trod.unique (v := .agg cells8) ⟨fuel, hd⟩ ⟨4, reads_table enc W _⟩
  clear hA0 hV0 hval0
  have hpos := (spans_of_var hvw).pos
  refine (pack_law op a b c s W (spans_of_var hvw)).mono fun e W' ⟨he, bel⟩ => ?_
  subst he
  have hv' := var?_below bel gSpans hpos hvw
  exact ⟨_, rfl, _, _, _, [], (p0 ++ []), (MemPlace.row ⟨0, 0, none⟩ cells8.size ++ [] ++ []), hW', trodAll_mk1 (shut_bool Tryd.underlying4 _),
    (trodAll_cons_mk (Below.trod laidOut (by kernel_rfl) (of_decide_eq_true (by kernel_rfl)) k0 bel lt0) trodAll_mk0), vars_again enc hv' _, bel.frame _, fun h => by cases h⟩
theorem pack_said : Rows.FnExactPackSaid :=
  OpenClaim.holds_of_wide 3 Tryd.f3 rfl rfl rfl rfl rfl rfl rfl ⟨rfl, rfl, rfl, rfl, rfl⟩ rfl rfl rfl rfl rfl (by kernel_rfl) Tryd.func3 (by kernel_rfl)
    (of_decide_eq_true (by kernel_rfl)) (by unfold Func.isWrapper; first | (rw [if_pos (by decide +kernel)]; kernel_rfl) | (rw [if_neg (by decide +kernel)]; exact ⟨rfl, rfl⟩))
    (fun os started H enc _ => pack_lifted os started H enc)
theorem fnExactPack_holds : Rows.FnExactPackCardSaid :=
  Claim7.holds_tied_plain_at .later [] [.data] true (true, "695160d793d79468986043effb648972039485bd3e53cc4301f48e2aa0807a26") false
    pack_said (fun _ h => by cases h) (by kernel_rfl) (fun _ h => by cases h) fnExactPack_row_tie rfl ⟨rfl, rfl⟩ (by kernel_rfl) rfl
    (fun f fn hf hfn => by
      obtain rfl : f = 3 := Option.some.inj ((show Tryd.prog.funcNamed "loop.example/s02979/laws.FnExactPack" = some 3 by kernel_rfl).symm.trans hf) |>.symm
      obtain rfl : fn = Tryd.f3 := (Option.some.inj (Tryd.func3.symm.trans hfn)).symm
      exact ⟨by kernel_rfl, fun j t ht => by
        rw [Tryd.params3] at ht
        have hm : t ∈ [23] := by simpa using Array.mem_of_getElem? ht
        have hall : ([23].all fun u => !Tryd.prog.wantsStandIn u) = true := by kernel_rfl
        exact (show Tryd.prog.wantsStandIn t = false by simpa using List.all_eq_true.1 hall t hm)⟩)
    (by kernel_rfl)
#print axioms fnExactPack_holds
end Go.Proofs.YtndpbdpngniepaaDoor

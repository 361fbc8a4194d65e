import Derived.Test.YtckapapejfnojaaGreatDoorVfZV
import Derived.Test.YtckapapejfnojaaGreatDoorVfYV
import Derived.Test.YtckapapejfnojaaGreatDoorVfXV
import Derived.Test.YtckapapejfnojaaGreatDoorGKV
import Derived.Test.YtckapapejfnojaaGreatDoorTie
import Derived.Test.YtckapapejfnojaaGreatDoorCards
import Derived.ShutString
import Derived.ChangeOld
import Derived.Below
import Derived.Carry
namespace Go.Proofs.YtckapapejfnojaaGreatDoor
open Go.ChangeShapes Go.WideShapes Go.ChangeAt Go.RowKit
set_option linter.unusedVariables false
set_option linter.unusedSimpArgs false
theorem laidOut : laidOutB Tryz.prog = true := vj4
theorem readsC : Tryz.prog.readableRec 32 = true := by kernel_rfl
theorem isC : 32 < Tryz.prog.types.size := of_decide_eq_true (by kernel_rfl)
theorem codeB_of {s : Sl PD} (h : Bnd s) : CodeB s := fun i hi j hj => by
  have := h.code i hi j hj
  have hmin : IntKind.u32.min = 0 := rfl
  have hmax : IntKind.u32.max = 4294967295 := rfl
  simp only [Lit.wf, Bool.and_eq_true, decide_eq_true_eq] at this
  omega
set_option maxRecDepth 100000 in
theorem verify_lifted (os : Os) (started : os.Started) (H : Type) (enc : TypeId × Value → H) :
    ReturnsInHanded {} Tryz.checked os 5 .any (fun w args => (Rows.fnExactVerifySpec.pre enc Tryz.prog Tryz.f5 [] false w args ∧ laidMetH Tryz.prog [("loop.example/s02979/impl.spans", Rows.laid_loop_example_s02979_impl_spans)] w) ∧ sizedMet enc Tryz.prog Tryz.f5 (OpenSpec.ofChange Rows.fnExactVerifySpec) false w args)
      (Rows.fnExactVerifySpec.post enc Tryz.prog Tryz.f5 false true false false) := by
  refine returnsInHanded_of_change_and (C := Tryz.checked) (X := fun w _ => laidMetH Tryz.prog [("loop.example/s02979/impl.spans", Rows.laid_loop_example_s02979_impl_spans)] w) (fun _ _ _ hh h => h.of_heap hh) own started (by kernel_rfl) Tryz.func5
    (ChangeSpec.witness_shaped (enc := enc) (C := Tryz.checked) (os := os) (X := fun w _ => laidMetH Tryz.prog [("loop.example/s02979/impl.spans", Rows.laid_loop_example_s02979_impl_spans)] w) false (World.doorLaid Tryz.prog 400 os) #[.agg #[.slice none 0 0]] 8 rfl (World.shaped_of_RefB (by kernel_rfl) (by kernel_rfl)) (by kernel_rfl) (by kernel_rfl) (by kernel_rfl) (door_met os _)) ?_
  intro W base args ds gs before hval0 hW _ _ hL _
  have hval : ∀ (j : Nat) t v, Tryz.f5.params[j]? = some t → args[j]? = some v → Value.okWide Tryz.prog W .any base t v := hval0
  have hW' := hW
  obtain ⟨p, q, hA0, hV0, rfl, hfz, hnd⟩ := hW
  have hA : DataW.TrodAll enc Tryz.prog W 0 (fun _ => true) true Tryz.f5.params.toList args.toList ds p := hA0
  have hV : DataW.TrodVars enc Tryz.prog W (fun _ => true) ["loop.example/s02979/impl.spans"] gs q := hV0
  rw [Tryz.params5] at hA hval
  obtain ⟨v0, vs0, d0, ds0, p0, q0, hargs, rfl, rfl, h0, r0⟩ := trodAll_cons hA
  obtain ⟨rfl, rfl, rfl⟩ := trodAll_nil r0
  obtain rfl : args = #[v0] := by cases args; simp_all
  have lt0 : ∀ x ∈ p0, x.block < W.heap.size := by obtain ⟨m, hm⟩ := h0; exact DataW.trod_lt m _ _ _ hm
  obtain ⟨u, s, rfl, hs, hbd⟩ := open_chunk (hval 0 32 v0 rfl rfl) h0
  have hvw := cells_of_laid hL
  obtain ⟨g, t, cs, fuel, d, p', rfl, hg, ht, hvar, hd, rfl⟩ := trodVars_one hV
  obtain rfl := Option.some.inj (gSpans.symm.trans hg)
  obtain rfl := Option.some.inj (tSpans.symm.trans ht)
  obtain rfl : cs = cells8 := Option.some.inj (hvar.symm.trans hvw)
  obtain ⟨rfl, rfl⟩ := DataW.Trod.unique (v := .agg cells8) ⟨fuel, hd⟩ ⟨4, reads_table enc W _⟩
  clear hA0 hV0 hval0
  have hpos := (spans_of_var hvw).pos
  refine (verify_law s u W hs (codeB_of hbd) (spans_of_var hvw)).mono fun e W' ⟨he, bel⟩ => ?_
  subst he
  have hv' := var?_below bel gSpans hpos hvw
  exact ⟨_, rfl, _, _, _, [], _, (MemPlace.row ⟨1, 0, none⟩ cells8.size ++ [] ++ []), hW', trodAll_mk1 (shut_bool Tryz.underlying4 _),
    (trodAll_cons_mk (Below.trod laidOut readsC isC h0 bel lt0) trodAll_mk0), vars_again enc hv' _, bel.frame _, fun h => by cases h⟩
theorem verify_said : Rows.FnExactVerifySaid :=
  OpenClaim.holds_of_wide 5 Tryz.f5 rfl rfl rfl rfl rfl rfl rfl ⟨rfl, rfl, rfl, rfl, rfl⟩ rfl rfl rfl rfl rfl vg4 Tryz.func5 vf_joined
    (of_decide_eq_true (by kernel_rfl)) (by unfold Func.isWrapper; first | (rw [if_pos (by decide +kernel)]; kernel_rfl) | (rw [if_neg (by decide +kernel)]; exact ⟨rfl, rfl⟩))
    (fun os started H enc _ => verify_lifted os started H enc)
theorem fnExactVerify_holds : Rows.FnExactVerifyCardSaid :=
  tied_goes .later [.data] true (true, "944e3a7583299f43ff5aba16047657a884690323c3b68f4d365019b322e0dfef") true false
    verify_said vg2 fnExactVerify_row_tie rfl ⟨rfl, rfl⟩ vg3 rfl
    (fun f fn hf hfn => by
      obtain rfl : f = 5 := Option.some.inj (vg4.symm.trans hf) |>.symm
      obtain rfl : fn = Tryz.f5 := (Option.some.inj (Tryz.func5.symm.trans hfn)).symm
      exact ⟨vg1, fun j t ht => by
        rw [Tryz.params5] at ht
        have hm : t ∈ [32] := by simpa using Array.mem_of_getElem? ht
        exact (show Tryz.prog.wantsStandIn t = false by simpa using List.all_eq_true.1 vg5 t hm)⟩)
    vg0
#print axioms fnExactVerify_holds
end Go.Proofs.YtckapapejfnojaaGreatDoor

import Derived.Test.YtenonpajjlppjaaGreatDoorLjZ
import Derived.Test.YtenonpajjlppjaaGreatDoorGM
import Derived.Test.YtenonpajjlppjaaGreatDoorOpn
import Derived.Test.YtenonpajjlppjaaGreatDoorTie
import Derived.Test.YtenonpajjlppjaaGreatDoorCards
import Derived.ShutString
import Derived.ChangeOld
import Derived.Below
import Derived.Carry
namespace Go.Proofs.YtenonpajjlppjaaGreatDoor
open Go.ChangeShapes Go.WideShapes Go.ChangeAt Go.RowKit
set_option linter.unusedVariables false
set_option linter.unusedSimpArgs false
theorem laidOut : laidOutB Tryz.prog = true := vj4
theorem readsC : Tryz.prog.readableRec 24 = true := by kernel_rfl
theorem isC : 24 < Tryz.prog.types.size := of_decide_eq_true (by kernel_rfl)
set_option maxRecDepth 100000 in
theorem list_lifted (os : Os) (started : os.Started) (H : Type) (enc : TypeId × Value → H) :
    ReturnsInHanded {} Tryz.checked os 3 .any (fun w args => (Rows.fnExactListSpec.pre enc Tryz.prog Tryz.f3 [] false w args ∧ laidMetH Tryz.prog lsLaid w) ∧ sizedMet enc Tryz.prog Tryz.f3 (OpenSpec.ofChange Rows.fnExactListSpec) false w args)
      (Rows.fnExactListSpec.post enc Tryz.prog Tryz.f3 false true false false) := by
  refine returnsInHanded_of_change_and (C := Tryz.checked) (X := fun w _ => laidMetH Tryz.prog lsLaid w) (fun _ _ _ hh h => h.of_heap hh) own started (by kernel_rfl) Tryz.func3
    (ChangeSpec.witness_shaped (enc := enc) (C := Tryz.checked) (os := os) (X := fun w _ => laidMetH Tryz.prog lsLaid w) false (World.doorLaid Tryz.prog 400 os) #[.agg #[.slice none 0 0]] 8 rfl (World.shaped_of_RefB (by kernel_rfl) (by kernel_rfl)) (by kernel_rfl) (by kernel_rfl) (by kernel_rfl) (door_met os _)) ?_
  intro W base args ds gs before hval0 hW _ _ hL _
  have hval : ∀ (j : Nat) t v, Tryz.f3.params[j]? = some t → args[j]? = some v → Value.okWide Tryz.prog W .any base t v := hval0
  have hW' := hW
  obtain ⟨p, q, hA0, hV0, rfl, hfz, hnd⟩ := hW
  have hA : DataW.TrodAll enc Tryz.prog W 0 (fun _ => true) true Tryz.f3.params.toList args.toList ds p := hA0
  have hV : DataW.TrodVars enc Tryz.prog W (fun _ => true) ["loop.example/s02979/impl.spans", "loop.example/s02979/impl.opNames"] gs q := hV0
  rw [Tryz.params3] at hA hval
  obtain ⟨v0, vs0, d0, ds0, p0, q0, hargs, rfl, rfl, h0, r0⟩ := trodAll_cons hA
  obtain ⟨rfl, rfl, rfl⟩ := trodAll_nil r0
  obtain rfl : args = #[v0] := by cases args; simp_all
  have lt0 : ∀ x ∈ p0, x.block < W.heap.size := by obtain ⟨m, hm⟩ := h0; exact DataW.trod_lt m _ _ _ hm
  obtain ⟨u, s, rfl, hs, hbd⟩ := open_chunk (hval 0 24 v0 rfl rfl) h0
  have hvw := spans_of hL
  have hvn := names_of hL
  have hpt := powTab_of hL
  obtain ⟨g, tg, cs, f0, dd, p1, g1, tg1, cs1, f1, dd1, p2, rfl, hg, htg, hvar, hd, hg1, htg1, hvar1, hd1, rfl⟩ := trodVars_two hV
  obtain rfl := Option.some.inj (gSpans.symm.trans hg)
  obtain rfl := Option.some.inj (tSpans.symm.trans htg)
  obtain rfl : cs = cells8 := Option.some.inj (hvar.symm.trans hvw)
  obtain ⟨rfl, rfl⟩ := DataW.Trod.unique (v := .agg cells8) ⟨f0, hd⟩ ⟨4, reads_spans enc W _⟩
  obtain rfl := Option.some.inj (gNames.symm.trans hg1)
  obtain rfl := Option.some.inj (tNames.symm.trans htg1)
  obtain rfl : cs1 = cells34 := Option.some.inj (hvar1.symm.trans hvn)
  obtain ⟨rfl, rfl⟩ := DataW.Trod.unique (v := .agg cells34) ⟨f1, hd1⟩ ⟨4, reads_names enc W _⟩
  clear hA0 hV0 hval0
  have hpos := (spans_of_var hvw).pos
  have hpos1 := (named_of_var hvn).pos
  refine (list_law s u W hs hbd hpt (spans_of_var hvw) (named_of_var hvn)).mono fun e W' ⟨he, bel⟩ => ?_
  subst he
  have hv' := var?_below bel gSpans hpos hvw
  have hn' := var?_below bel gNames hpos1 hvn
  exact ⟨_, rfl, _, _, _, [], _, _, hW', trodAll_mk1 (shut_bool Tryz.underlying4 _),
    (trodAll_cons_mk (Below.trod laidOut readsC isC h0 bel lt0) trodAll_mk0), vars_again enc hv' hn' _, bel.frame _, fun h => by cases h⟩
theorem list_said : Rows.FnExactListSaid :=
  OpenClaim.holds_of_wide 3 Tryz.f3 rfl rfl rfl rfl rfl rfl rfl ⟨rfl, rfl, rfl, rfl, rfl⟩ rfl rfl rfl rfl rfl vg4 Tryz.func3 vf_joined
    (of_decide_eq_true (by kernel_rfl)) (by unfold Func.isWrapper; first | (rw [if_pos (by decide +kernel)]; kernel_rfl) | (rw [if_neg (by decide +kernel)]; exact ⟨rfl, rfl⟩))
    (fun os started H enc _ => list_lifted os started H enc)
theorem fnExactList_holds : Rows.FnExactListCardSaid :=
  tied_goes .later [.data, .data, .data, .data, .data] true (true, "a6d08dfb6c13bf151bb613f6238ea3e3c8630ef666634c786f35858688cd3e92") false false
    list_said vg2 fnExactList_row_tie rfl ⟨rfl, rfl⟩ vg3 rfl
    (fun f fn hf hfn => by
      obtain rfl : f = 3 := Option.some.inj (vg4.symm.trans hf) |>.symm
      obtain rfl : fn = Tryz.f3 := (Option.some.inj (Tryz.func3.symm.trans hfn)).symm
      exact ⟨vg1, fun j t ht => by
        rw [Tryz.params3] at ht
        have hm : t ∈ [24] := by simpa using Array.mem_of_getElem? ht
        exact (show Tryz.prog.wantsStandIn t = false by simpa using List.all_eq_true.1 vg5 t hm)⟩)
    vg0
#print axioms fnExactList_holds
end Go.Proofs.YtenonpajjlppjaaGreatDoor

import Derived.Test.YtplijnfaiofckaaGreatDoorHj
import Derived.Test.YtplijnfaiofckaaGreatDoorHk
import Derived.Test.YtplijnfaiofckaaGreatDoorHl
import Derived.Test.YtplijnfaiofckaaGreatDoorTie
import Derived.ShutString
import Derived.HandedShaped
namespace Go.Proofs.YtplijnfaiofckaaGreatDoor
open Go.ChangeShapes Go.WideShapes Go.ChangeAt Go.RowKit
open Go.ChangeMaps (open_string shut_string)
set_option linter.unusedVariables false
set_option linter.unusedSimpArgs false
set_option maxRecDepth 100000
set_option maxHeartbeats 9000000
theorem laidOut : laidOutB Tryz.prog = true := vj4
theorem reads22 : Tryz.prog.readableRec 22 = true := by kernel_rfl
theorem is22 : 22 < Tryz.prog.types.size := of_decide_eq_true (by kernel_rfl)
theorem code_of {H : Type} {enc : TypeId × Value → H} {W : World} {a : Option Addr} {len cap : Nat} {d : DataW H} {p : List MemPlace}
  (h : DataW.Trod enc Tryz.prog W 0 (fun _ => true) true 22 (.slice a len cap) d p) : len ≤ 9223372036854775807 ∧ ∃ c : Sl Int, c.n = len ∧ IsInts .u8 (· < W.heap.size) W (.slice a len cap) c ∧ ∀ i, 0 ≤ c.f i ∧ c.f i ≤ 255 := by
 obtain ⟨fuel, hf⟩ := h;rcases open_ints Tryz.underlying22 Tryz.underlying5 (by kernel_rfl) hf with ⟨hcs, _⟩ | ⟨x, l, c, zs, hcs, _, hl, hm, hz, _, hcell, hwz⟩
 ·simp [Value.cells] at hcs;obtain ⟨rfl, rfl, rfl⟩ := hcs;exact ⟨by omega, ⟨0, fun _ => 0⟩, rfl, ⟨none, 0, rfl, by show 0 ≤ _; omega, fun h => absurd h (by show ¬ 0 < 0; omega)⟩, fun i => ⟨by show (0 : Int) ≤ 0; omega, by show (0 : Int) ≤ 255; omega⟩⟩
 ·simp [Value.cells] at hcs;obtain ⟨rfl, rfl, rfl⟩ := hcs;have hmm : len ≤ 9223372036854775807 := by simp only [maxLen] at hm; omega
  refine ⟨hmm, ⟨len, fun i => zs.getD i 0⟩, rfl, ⟨_, _, rfl, hmm, fun h0 => ?_⟩, fun i => ?_⟩
  ·obtain ⟨b, off, spot⟩ := x;have h0' : 0 < len := h0;have hz' : zs.length = cap := by simpa using hz
   have hc := hcell 0 (by omega);have hspot : spot = none := by simpa [Addr.add] using World.cell?_spot hc
   subst hspot;refine ⟨b, off, rfl, ?_, fun i hi j hj => ?_⟩
   ·have := World.block_lt_of_cell? W _ hc
    simpa [Addr.add] using this
   ·have hi' : i < len := hi;obtain rfl : j = 0 := by omega
    have e : (⟨b, off, none⟩ : Addr).add i = ⟨b, off + i, none⟩ := by unfold Addr.add; split <;> simp_all
    have := hcell i (by omega);rw [e] at this
    simpa [iC] using this
  ·show 0 ≤ zs.getD i 0 ∧ zs.getD i 0 ≤ 255;by_cases hi : i < zs.length
   ·exact bounds_u8 (hwz (zs.getD i 0) (by simp [hi]))
   ·simp [List.getD, List.getElem?_eq_none (by omega : zs.length ≤ i)]

theorem handed_and_shaped {H : Type} {enc : TypeId × Value → H} {a : Assume} {C : Checked} {os : Os} {f : FuncId} {fn : Func} {s : ChangeSpec} {conds : List PathCond} {apart fresh handsOn again : Bool} {X : World → Array Value → Prop}
  (hX : ∀ (w w' : World) (args : Array Value), w.heap = w'.heap → X w args → X w' args)
  (own : ownKnob C.prog.godebug = none) (started : os.Started) (noInit : C.prog.inits.idxOf? f = none) (hfn : C.prog.funcs[f]? = some fn)
  (witness : ∃ (w : World) (tape : Tape) (i : Input), w.os = os ∧ (w.forCall tape i).Shaped C.prog ∧ i.vars = [] ∧ Input.okWide C.prog (w.forCall tape i) .any w.heap.size f i ∧
   ((s.pre enc C.prog fn conds apart (w.forCall tape i).memory i.args ∧ X (w.forCall tape i).memory i.args) ∧ sizedMet enc C.prog fn (OpenSpec.ofChange s) apart (w.forCall tape i).memory i.args) ∧ a.holds C.prog (lone (Frame.enter C.prog f i.args .normal) [] (w.forCall tape i)))
  (contract : ∀ (W : World) (base : Nat) (args : Array Value) (ds gs : List (DataW H)) (before : List MemPlace),
   (∀ (j : Nat) t v, fn.params[j]? = some t → args[j]? = some v → Value.okWide C.prog W .any base t v) →
   DataW.Whole enc C.prog fn.params.toList s.vars apart W args.toList ds gs before → W.ShapedOpen C.prog → X W args →
   Calls C.prog f args W fun e W' => ∃ v, e = .returned v ∧ s.post enc C.prog fn apart fresh handsOn again W args v W') :
  ReturnsInHanded a C os f .any (fun w args => (s.pre enc C.prog fn conds apart w args ∧ X w args) ∧ sizedMet enc C.prog fn (OpenSpec.ofChange s) apart w args) (s.post enc C.prog fn apart fresh handsOn again) := by
 refine returnsInHanded_of_calls own started noInit witness ?_;intro w tape i _ hsh _ hok hpre hholds;obtain ⟨_, _, _, fn', hfn', _, _, _, _, hval⟩ := hok;have e : fn' = fn := Option.some.inj (hfn'.symm.trans hfn);subst e;obtain ⟨⟨⟨ds, gs, before, hw, hc⟩, hx⟩, hz⟩ := hpre;have hw' := DataW.Whole.of_heap (w' := w.forCall tape i) (by rfl) hw;refine (contract (w.forCall tape i) w.heap.size i.args ds gs before hval hw' hsh (hX _ _ _ (by rfl) hx)).mono fun e W' ⟨v, he, hp⟩ => ?_;subst he;exact ChangeSpec.post_blind hp
theorem list_lifted (os : Os) (started : os.Started) (H : Type) (enc : TypeId × Value → H) :
  ReturnsInHanded {} Tryz.checked os 3 .any (fun w args => (Rows.fnListSpec.pre enc Tryz.prog Tryz.f3 [] false w args ∧ laidMetH Tryz.prog lsLaid w) ∧ sizedMet enc Tryz.prog Tryz.f3 (OpenSpec.ofChange Rows.fnListSpec) false w args)
   (Rows.fnListSpec.post enc Tryz.prog Tryz.f3 false true false false) := by
 refine handed_and_shaped (C := Tryz.checked) (X := fun w _ => laidMetH Tryz.prog lsLaid w) (fun _ _ _ hh h => h.of_heap hh) own started (by kernel_rfl) Tryz.func3
  (ChangeSpec.witness_shaped (enc := enc) (C := Tryz.checked) (os := os) (X := fun w _ => laidMetH Tryz.prog lsLaid w) false (doorPin os) #[.slice none 0 0] 8 rfl (World.shaped_of_RefB (by kernel_rfl) (by kernel_rfl)) (by kernel_rfl) (by kernel_rfl) (by kernel_rfl) (door_met os _)) ?_
 intro W base args ds gs before hval0 hW hsh hL;have hval : ∀ (j : Nat) t v, Tryz.f3.params[j]? = some t → args[j]? = some v → Value.okWide Tryz.prog W .any base t v := hval0;have hW' := hW;obtain ⟨p, q, hA0, hV0, rfl, hfz, hnd⟩ := hW;have hA : DataW.TrodAll enc Tryz.prog W 0 (fun _ => true) true Tryz.f3.params.toList args.toList ds p := hA0;have hV : DataW.TrodVars enc Tryz.prog W (fun _ => true) ["loop.example/s02979/impl.spans", "loop.example/s02979/impl.opNames"] gs q := hV0;rw [Tryz.params3] at hA hval;obtain ⟨v0, vs0, d0, ds0, p0, q0, hargs, rfl, rfl, h0, r0⟩ := trodAll_cons hA;obtain ⟨rfl, rfl, rfl⟩ := trodAll_nil r0;obtain rfl : args = #[v0] := by cases args; simp_all
 obtain ⟨a0, len0, cap0, rfl⟩ := okWide_slice Tryz.underlying22 (hval 0 22 v0 rfl rfl);have lt0 : ∀ x ∈ p0, x.block < W.heap.size := by obtain ⟨m, hm⟩ := h0; exact DataW.trod_lt m _ _ _ hm
 obtain ⟨hmx, c, hcn, hci, hcb⟩ := code_of h0;have hvw := spans_of hL;have hvn := names_of hL;have hpt := powTab_of hL;have hev := errV_of hL;obtain ⟨mm, hml⟩ := maxLen_of hsh;obtain ⟨g, tg, cs, f0, dd, p1, g1, tg1, cs1, f1, dd1, p2, rfl, hg, htg, hvar, hd, hg1, htg1, hvar1, hd1, rfl⟩ := trodVars_two hV;obtain rfl := Option.some.inj (gSpans.symm.trans hg);obtain rfl := Option.some.inj (tSpans.symm.trans htg);obtain rfl : cs = cells8 := Option.some.inj (hvar.symm.trans hvw);obtain ⟨rfl, rfl⟩ := DataW.Trod.unique (v := .agg cells8) ⟨f0, hd⟩ ⟨4, reads_spans enc W _⟩;obtain rfl := Option.some.inj (gNames.symm.trans hg1);obtain rfl := Option.some.inj (tNames.symm.trans htg1);obtain rfl : cs1 = qd0 := Option.some.inj (hvar1.symm.trans hvn);obtain ⟨rfl, rfl⟩ := DataW.Trod.unique (v := .agg qd0) ⟨f1, hd1⟩ ⟨4, reads_names enc W _⟩;clear hA0 hV0 hval0;have hpos := (spans_of_var hvw).pos;have hpos1 := (named_of_var hvn).pos;have hlt : 2 < W.heap.size := World.block_lt_of_cell? W _ hml
 have hlaw : Calls Tryz.prog 3 #[.slice a0 len0 cap0] W fun e w' => e = .returned (.bool true) ∧ Below W.heap.size W w' := by
  by_cases hbig : 1048576 < len0
  ·exact list_long a0 len0 cap0 W hbig hmx
  ·exact list_law c _ W ⟨hci, hcb, by omega⟩ mm ⟨named_of_var hvn, ⟨hpt, hev, spans_of_var hvw⟩, hml, hlt⟩
 refine hlaw.mono fun e W' ⟨he, bel⟩ => ?_;subst he;have hv' := var?_below bel gSpans hpos hvw;have hn' := var?_below bel gNames hpos1 hvn
 exact ⟨_, rfl, _, _, _, [], _, _, hW', trodAll_mk1 (shut_bool Tryz.underlying4 _),
  (trodAll_cons_mk (Below.trod laidOut reads22 is22 h0 bel lt0) trodAll_mk0), vars_again enc hv' hn' _, bel.frame _, fun h => by cases h⟩
theorem list_said : Rows.FnListSaid :=
 OpenClaim.holds_of_wide 3 Tryz.f3 rfl rfl rfl rfl rfl rfl rfl ⟨rfl, rfl, rfl, rfl, rfl⟩ rfl rfl rfl rfl rfl vg4 Tryz.func3 vf_joined
  (of_decide_eq_true (by kernel_rfl)) (by unfold Func.isWrapper; first | (rw [if_pos (by decide +kernel)]; kernel_rfl) | (rw [if_neg (by decide +kernel)]; exact ⟨rfl, rfl⟩))
  (fun os started H enc _ => list_lifted os started H enc)
theorem fnList_holds : Rows.FnListCardSaid :=
 tied_goes .later [.data, .data, .data, .data, .sentinel, .sentinel, .data, .data, .pinned] true (true, "b6ce46d6c1b52561cfc9dd5b1538175a5c4c8ed1cabd3ba540be2b1985cfa479") true false
  list_said vg2 fnList_row_tie rfl ⟨rfl, rfl⟩ vg3 rfl
  (fun f fn hf hfn => by
   obtain rfl : f = 3 := Option.some.inj (vg4.symm.trans hf) |>.symm;obtain rfl : fn = Tryz.f3 := (Option.some.inj (Tryz.func3.symm.trans hfn)).symm
   exact ⟨vg1, fun j t ht => by
    rw [Tryz.params3] at ht;have hm : t ∈ [22] := by simpa using Array.mem_of_getElem? ht
    exact (show Tryz.prog.wantsStandIn t = false by simpa using List.all_eq_true.1 vg5 t hm)⟩)
  vg0
#print axioms fnList_holds
end Go.Proofs.YtplijnfaiofckaaGreatDoor

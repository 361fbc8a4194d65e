import Derived.Test.YtgcbkfckfgiigaaGreatDoorGz
import Derived.Test.YtgcbkfckfgiigaaGreatDoorLaidG
import Derived.Test.YtgcbkfckfgiigaaGreatDoorGf
import Derived.Test.YtgcbkfckfgiigaaGreatDoorTie
import Derived.Test.YtgcbkfckfgiigaaGreatDoorCards
import Derived.ShutString
import Derived.ChangeOld
import Derived.Below
import Derived.Carry
namespace Go.Proofs.YtgcbkfckfgiigaaGreatDoor
open Go.ChangeShapes Go.WideShapes Go.ChangeAt Go.RowKit
open Go.ChangeMaps (open_string shut_string)
set_option linter.unusedVariables false
set_option linter.unusedSimpArgs false
set_option maxRecDepth 100000
set_option maxHeartbeats 9000000
theorem laidOut : laidOutB Tryz.prog = true := vj4
theorem reads22 : Tryz.prog.readableRec 22 = true := by kernel_rfl
theorem is22 : 22 < Tryz.prog.types.size := of_decide_eq_true (by kernel_rfl)
theorem code_of {H : Type} {enc : TypeId × Value → H} {W : World} {a : Option Addr} {len cap : Nat} {d : DataW H} {p : List MemPlace}
  (h : DataW.Trod enc Tryz.prog W 0 (fun _ => true) true 22 (.slice a len cap) d p) : len ≤ 9223372036854775807 ∧ ∃ c : Sl Int, c.n = len ∧ IsInts .u8 (· < W.heap.size) W (.slice a len cap) c ∧ ∀ i, 0 ≤ c.f i ∧ c.f i ≤ 255 := by
 obtain ⟨fuel, hf⟩ := h;rcases open_ints Tryz.underlying22 Tryz.underlying5 (by kernel_rfl) hf with ⟨hcs, _⟩ | ⟨x, l, c, zs, hcs, _, hl, hm, hz, _, hcell, hwz⟩
 ·simp [Value.cells] at hcs;obtain ⟨rfl, rfl, rfl⟩ := hcs;exact ⟨by omega, ⟨0, fun _ => 0⟩, rfl, ⟨none, 0, rfl, by show 0 ≤ _; omega, fun h => absurd h (by show ¬ 0 < 0; omega)⟩, fun i => ⟨by show (0 : Int) ≤ 0; omega, by show (0 : Int) ≤ 255; omega⟩⟩
 ·simp [Value.cells] at hcs;obtain ⟨rfl, rfl, rfl⟩ := hcs;have hmm : len ≤ 9223372036854775807 := by simp only [maxLen] at hm; omega
  refine ⟨hmm, ⟨len, fun i => zs.getD i 0⟩, rfl, ⟨_, _, rfl, hmm, fun h0 => ?_⟩, fun i => ?_⟩
  ·obtain ⟨b, off, spot⟩ := x;have h0' : 0 < len := h0;have hz' : zs.length = cap := by simpa using hz
   have hc := hcell 0 (by omega);have hspot : spot = none := by simpa [Addr.add] using World.cell?_spot hc
   subst hspot;refine ⟨b, off, rfl, ?_, fun i hi j hj => ?_⟩
   ·have := World.block_lt_of_cell? W _ hc
    simpa [Addr.add] using this
   ·have hi' : i < len := hi;obtain rfl : j = 0 := by omega
    have e : (⟨b, off, none⟩ : Addr).add i = ⟨b, off + i, none⟩ := by unfold Addr.add; split <;> simp_all
    have := hcell i (by omega);rw [e] at this
    simpa [iC] using this
  ·show 0 ≤ zs.getD i 0 ∧ zs.getD i 0 ≤ 255;by_cases hi : i < zs.length
   ·exact bounds_u8 (hwz (zs.getD i 0) (by simp [hi]))
   ·simp [List.getD, List.getElem?_eq_none (by omega : zs.length ≤ i)]

theorem tops_lifted (os : Os) (started : os.Started) (H : Type) (enc : TypeId × Value → H) :
  ReturnsInHanded {} Tryz.checked os 3 .any (fun w args => (Rows.fnTopsSpec.pre enc Tryz.prog Tryz.f3 [] false w args ∧ laidMetH Tryz.prog [("loop.example/s02979/impl.spans", Rows.laid_loop_example_s02979_impl_spans)] w) ∧ sizedMet enc Tryz.prog Tryz.f3 (OpenSpec.ofChange Rows.fnTopsSpec) false w args)
   (Rows.fnTopsSpec.post enc Tryz.prog Tryz.f3 false true false false) := by
 refine returnsInHanded_of_change_and (C := Tryz.checked) (X := fun w _ => laidMetH Tryz.prog [("loop.example/s02979/impl.spans", Rows.laid_loop_example_s02979_impl_spans)] w) (fun _ _ _ hh h => h.of_heap hh) own started (by kernel_rfl) Tryz.func3
  (ChangeSpec.witness_shaped (enc := enc) (C := Tryz.checked) (os := os) (X := fun w _ => laidMetH Tryz.prog [("loop.example/s02979/impl.spans", Rows.laid_loop_example_s02979_impl_spans)] w) false (World.doorLaid Tryz.prog 400 os) #[.slice none 0 0] 8 rfl (World.shaped_of_RefB (by kernel_rfl) (by kernel_rfl)) (by kernel_rfl) (by kernel_rfl) (by kernel_rfl) (door_met os _)) ?_
 intro W base args ds gs before hval0 hW _ _ hL _;have hval : ∀ (j : Nat) t v, Tryz.f3.params[j]? = some t → args[j]? = some v → Value.okWide Tryz.prog W .any base t v := hval0;have hW' := hW;obtain ⟨p, q, hA0, hV0, rfl, hfz, hnd⟩ := hW;have hA : DataW.TrodAll enc Tryz.prog W 0 (fun _ => true) true Tryz.f3.params.toList args.toList ds p := hA0;have hV : DataW.TrodVars enc Tryz.prog W (fun _ => true) ["loop.example/s02979/impl.spans"] gs q := hV0;rw [Tryz.params3] at hA hval;obtain ⟨v0, vs0, d0, ds0, p0, q0, hargs, rfl, rfl, h0, r0⟩ := trodAll_cons hA;obtain ⟨rfl, rfl, rfl⟩ := trodAll_nil r0;obtain rfl : args = #[v0] := by cases args; simp_all
 have lt0 : ∀ x ∈ p0, x.block < W.heap.size := by obtain ⟨m, hm⟩ := h0; exact DataW.trod_lt m _ _ _ hm
 obtain ⟨a0, len0, cap0, rfl⟩ := okWide_slice Tryz.underlying22 (hval 0 22 v0 rfl rfl);obtain ⟨hmx, c, hcn, hci, hcb⟩ := code_of h0;have hvw := cells_of_laid hL;obtain ⟨g, t, cs, fuel, d, p', rfl, hg, ht, hvar, hd, rfl⟩ := trodVars_one hV;obtain rfl := Option.some.inj (gSpans.symm.trans hg);obtain rfl := Option.some.inj (tSpans.symm.trans ht);obtain rfl : cs = cells8 := Option.some.inj (hvar.symm.trans hvw);obtain ⟨rfl, rfl⟩ := DataW.Trod.unique (v := .agg cells8) ⟨fuel, hd⟩ ⟨4, reads_table enc W _⟩;clear hA0 hV0 hval0;have hpos := (spans_of_var hvw).pos
 have hlaw : Calls Tryz.prog 3 #[.slice a0 len0 cap0] W fun e w' => e = .returned (.bool true) ∧ Below W.heap.size W w' := by
  by_cases hbig : 1048576 < len0
  ·exact tops_long a0 len0 cap0 W hbig hmx
  ·exact tops_law c _ W ⟨hci, hcb, by omega⟩ (spans_of_var hvw)
 refine hlaw.mono fun e W' ⟨he, bel⟩ => ?_;subst he;have hv' := var?_below bel gSpans hpos hvw
 exact ⟨_, rfl, _, _, _, [], _, (MemPlace.row ⟨0, 0, none⟩ cells8.size ++ [] ++ []), hW', trodAll_mk1 (shut_bool Tryz.underlying4 _),
  (trodAll_cons_mk (Below.trod laidOut reads22 is22 h0 bel lt0) trodAll_mk0), vars_again enc hv' _, bel.frame _, fun h => by cases h⟩
theorem tops_said : Rows.FnTopsSaid :=
 OpenClaim.holds_of_wide 3 Tryz.f3 rfl rfl rfl rfl rfl rfl rfl ⟨rfl, rfl, rfl, rfl, rfl⟩ rfl rfl rfl rfl rfl vg4 Tryz.func3 vf_joined
  (of_decide_eq_true (by kernel_rfl)) (by unfold Func.isWrapper; first | (rw [if_pos (by decide +kernel)]; kernel_rfl) | (rw [if_neg (by decide +kernel)]; exact ⟨rfl, rfl⟩))
  (fun os started H enc _ => tops_lifted os started H enc)
theorem fnTops_holds : Rows.FnTopsCardSaid :=
 tied_goes .later [.data] true (true, "e4718e3982fa6edf620aee8faf56c5eb097463f12fe471e07cf0c9c46ebe02ce") false false
  tops_said vg2 fnTops_row_tie rfl ⟨rfl, rfl⟩ vg3 rfl
  (fun f fn hf hfn => by
   obtain rfl : f = 3 := Option.some.inj (vg4.symm.trans hf) |>.symm;obtain rfl : fn = Tryz.f3 := (Option.some.inj (Tryz.func3.symm.trans hfn)).symm
   exact ⟨vg1, fun j t ht => by
    rw [Tryz.params3] at ht;have hm : t ∈ [22] := by simpa using Array.mem_of_getElem? ht
    exact (show Tryz.prog.wantsStandIn t = false by simpa using List.all_eq_true.1 vg5 t hm)⟩)
  vg0
#print axioms fnTops_holds
end Go.Proofs.YtgcbkfckfgiigaaGreatDoor

import Derived.Test.YtnhanccjnhgjoaaGreatDoorDvH
import Derived.Test.YtnhanccjnhgjoaaGreatDoorGy
import Derived.Test.YtnhanccjnhgjoaaGreatDoorGh
import Derived.Test.YtnhanccjnhgjoaaGreatDoorTie
import Derived.Test.YtnhanccjnhgjoaaGreatDoorCards
import Derived.ShutString
import Derived.ChangeOld
import Derived.Below
import Derived.Carry
namespace Go.Proofs.YtnhanccjnhgjoaaGreatDoor
open Go.ChangeShapes Go.WideShapes Go.ChangeAt Go.RowKit
open Go.ChangeMaps (open_string shut_string)
set_option linter.unusedVariables false
set_option linter.unusedSimpArgs false
theorem laidOut : laidOutB Tryz.prog = true := by kernel_rfl
theorem reads22 : Tryz.prog.readableRec 22 = true := by kernel_rfl
theorem is22 : 22 < Tryz.prog.types.size := of_decide_eq_true (by kernel_rfl)
theorem code_of {H : Type} {enc : TypeId × Value → H} {W : World} {a : Option Addr} {len cap : Nat} {d : DataW H} {p : List MemPlace}
  (h : DataW.Trod enc Tryz.prog W 0 (fun _ => true) true 22 (.slice a len cap) d p) : len ≤ 9223372036854775807 ∧ ∃ c : Sl Int, c.n = len ∧ IsInts .u8 (· < W.heap.size) W (.slice a len cap) c ∧ ∀ i, 0 ≤ c.f i ∧ c.f i ≤ 255 := by
 obtain ⟨fuel, hf⟩ := h;rcases open_ints Tryz.underlying22 Tryz.underlying5 (by kernel_rfl) hf with ⟨hcs, _⟩ | ⟨x, l, c, zs, hcs, _, hl, hm, hz, _, hcell, hwz⟩
 ·simp [Value.cells] at hcs;obtain ⟨rfl, rfl, rfl⟩ := hcs;exact ⟨by omega, ⟨0, fun _ => 0⟩, rfl, ⟨none, 0, rfl, by show 0 ≤ _; omega, fun h => absurd h (by show ¬ 0 < 0; omega)⟩, fun i => ⟨by show (0 : Int) ≤ 0; omega, by show (0 : Int) ≤ 255; omega⟩⟩
 ·simp [Value.cells] at hcs;obtain ⟨rfl, rfl, rfl⟩ := hcs;have hmm : len ≤ 9223372036854775807 := by simp only [maxLen] at hm; omega
  refine ⟨hmm, ⟨len, fun i => zs.getD i 0⟩, rfl, ⟨_, _, rfl, hmm, fun h0 => ?_⟩, fun i => ?_⟩
  ·obtain ⟨b, off, spot⟩ := x;have h0' : 0 < len := h0;have hz' : zs.length = cap := by simpa using hz
   have hc := hcell 0 (by omega);have hspot : spot = none := by simpa [Addr.add] using World.cell?_spot hc
   subst hspot;refine ⟨b, off, rfl, ?_, fun i hi j hj => ?_⟩
   ·have := World.block_lt_of_cell? W _ hc
    simpa [Addr.add] using this
   ·have hi' : i < len := hi;obtain rfl : j = 0 := by omega
    have e : (⟨b, off, none⟩ : Addr).add i = ⟨b, off + i, none⟩ := by unfold Addr.add; split <;> simp_all
    have := hcell i (by omega);rw [e] at this
    simpa [iC] using this
  ·show 0 ≤ zs.getD i 0 ∧ zs.getD i 0 ≤ 255;by_cases hi : i < zs.length
   ·exact bounds_u8 (hwz (zs.getD i 0) (by simp [hi]))
   ·simp [List.getD, List.getElem?_eq_none (by omega : zs.length ≤ i)]
set_option maxRecDepth 100000 in
theorem load_lifted (os : Os) (started : os.Started) (H : Type) (enc : TypeId × Value → H) :
  ReturnsInHanded {} Tryz.checked os 3 .any (fun w args => (Rows.fnLoadSpec.pre enc Tryz.prog Tryz.f3 [] false w args ∧ laidMetH Tryz.prog [("errors.errorType", Rows.laid_errors_errorType)] w) ∧ sizedMet enc Tryz.prog Tryz.f3 (OpenSpec.ofChange Rows.fnLoadSpec) false w args)
   (Rows.fnLoadSpec.post enc Tryz.prog Tryz.f3 false true false false) := by
 refine returnsInHanded_of_change_and (C := Tryz.checked) (X := fun w _ => laidMetH Tryz.prog [("errors.errorType", Rows.laid_errors_errorType)] w) (fun _ _ _ hh h => h.of_heap hh) own started (by kernel_rfl) Tryz.func3
  (ChangeSpec.witness_shaped (enc := enc) (C := Tryz.checked) (os := os) (X := fun w _ => laidMetH Tryz.prog [("errors.errorType", Rows.laid_errors_errorType)] w) false (World.doorLaid Tryz.prog 400 os) #[.slice none 0 0, .slice none 0 0] 8 rfl (World.shaped_of_RefB (by kernel_rfl) (by kernel_rfl)) (by kernel_rfl) (by kernel_rfl) (by kernel_rfl) (door_met os _)) ?_
 intro W base args ds gs before hval0 hW _ _ hL _;have hval : ∀ (j : Nat) t v, Tryz.f3.params[j]? = some t → args[j]? = some v → Value.okWide Tryz.prog W .any base t v := hval0;have hW' := hW;obtain ⟨p, q, hA0, hV0, rfl, hfz, hnd⟩ := hW;have hA : DataW.TrodAll enc Tryz.prog W 0 (fun _ => true) true Tryz.f3.params.toList args.toList ds p := hA0;have hV : DataW.TrodVars enc Tryz.prog W (fun _ => true) [] gs q := hV0;rw [Tryz.params3] at hA hval;obtain ⟨v0, vs0, d0, ds0, p0, q0, hargs, rfl, rfl, h0, r0⟩ := trodAll_cons hA;obtain ⟨v1, vs1, d1, ds1, p1, q1, hargs1, rfl, rfl, h1, r1⟩ := trodAll_cons r0;obtain ⟨rfl, rfl, rfl⟩ := trodAll_nil r1;obtain rfl : args = #[v0, v1] := by cases args; simp_all
 obtain ⟨a0, len0, cap0, rfl⟩ := okWide_slice Tryz.underlying22 (hval 0 22 v0 rfl rfl);obtain ⟨a1, len1, cap1, rfl⟩ := okWide_slice Tryz.underlying22 (hval 1 22 v1 rfl rfl);have lt0 : ∀ x ∈ p0, x.block < W.heap.size := by obtain ⟨m, hm⟩ := h0; exact DataW.trod_lt m _ _ _ hm
 have lt1 : ∀ x ∈ p1, x.block < W.heap.size := by obtain ⟨m, hm⟩ := h1; exact DataW.trod_lt m _ _ _ hm
 obtain ⟨hmx, c, hcn, hci, hcb⟩ := code_of h0;obtain ⟨hmx1, c', hcn1, hci1, hcb1⟩ := code_of h1;have hE := errT_of_laid hL;obtain ⟨rfl, rfl⟩ := trodVars_none hV;clear hA0 hV0 hval0
 have hlaw : Calls Tryz.prog 3 #[.slice a0 len0 cap0, .slice a1 len1 cap1] W fun e w' => e = .returned (.bool true) ∧ Below W.heap.size W w' := by
  by_cases hbig : 1048576 < len0 ∨ 1048576 < len1
  ·exact load_long a0 a1 len0 cap0 len1 cap1 W hbig hmx hmx1
  ·exact load_law c c' _ _ W ⟨hci, hcb, by omega⟩ ⟨hci1, hcb1, by omega⟩ hE
 refine hlaw.mono fun e W' ⟨he, bel⟩ => ?_;subst he
 exact ⟨_, rfl, _, _, _, [], _, [], hW', trodAll_mk1 (shut_bool Tryz.underlying4 _),
  (trodAll_cons_mk (Below.trod laidOut reads22 is22 h0 bel lt0) (trodAll_cons_mk (Below.trod laidOut reads22 is22 h1 bel lt1) trodAll_mk0)), rfl, bel.frame _, fun h => by cases h⟩
theorem load_said : Rows.FnLoadSaid :=
 OpenClaim.holds_of_wide 3 Tryz.f3 rfl rfl rfl rfl rfl rfl rfl ⟨rfl, rfl, rfl, rfl, rfl⟩ rfl rfl rfl rfl rfl vg4 Tryz.func3 vf_joined
  (of_decide_eq_true (by kernel_rfl)) (by unfold Func.isWrapper; first | (rw [if_pos (by decide +kernel)]; kernel_rfl) | (rw [if_neg (by decide +kernel)]; exact ⟨rfl, rfl⟩))
  (fun os started H enc _ => load_lifted os started H enc)
theorem fnLoad_holds : Rows.FnLoadCardSaid :=
 tied_goes .later [.handle] true (true, "1ab3f38a7b1e64dfefa3a7f3e3db3476cca546735fbea6d3889cb555febba109") true false
  load_said vg2 fnLoad_row_tie rfl ⟨rfl, rfl⟩ vg3 rfl
  (fun f fn hf hfn => by
   obtain rfl : f = 3 := Option.some.inj (vg4.symm.trans hf) |>.symm;obtain rfl : fn = Tryz.f3 := (Option.some.inj (Tryz.func3.symm.trans hfn)).symm
   exact ⟨vg1, fun j t ht => by
    rw [Tryz.params3] at ht;have hm : t ∈ [22] := by simpa using Array.mem_of_getElem? ht
    exact (show Tryz.prog.wantsStandIn t = false by simpa using List.all_eq_true.1 vg5 t hm)⟩)
  vg0
#print axioms fnLoad_holds
end Go.Proofs.YtnhanccjnhgjoaaGreatDoor

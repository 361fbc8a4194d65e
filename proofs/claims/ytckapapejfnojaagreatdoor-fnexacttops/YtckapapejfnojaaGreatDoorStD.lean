import Derived.Test.YtckapapejfnojaaGreatDoorStC
namespace Go.Proofs.YtckapapejfnojaaGreatDoor
open Go.RowKit
set_option linter.unusedVariables false
set_option linter.unusedSimpArgs false
theorem markChunk_in (n : Nat) (v : Value) (f : Nat → PD) (w : World) (lo hi B0 : Nat) (rng : Nat → Nat) (a : Nat → Nat → Value) (b : Nat → Nat → Nat) (hv : COwn w v n f lo hi B0 rng a b) (hhi : hi ≤ w.heap.size)
    (hs : SmallC ⟨n, f⟩) (hkb : ∀ i, i ≤ n → 1 ≤ kAt 1 f i ∧ kAt 1 f i ≤ 576460752303423488) :
    Calls Tryz.prog 9 #[.agg #[v], .int .i64 1] w fun e w' => e = .returned (.int .i64 (kAt 1 f n)) ∧ COwn w' v n (fun i => mkP (kAt 1 f i) (f i)) lo hi B0 rng a b ∧ Fr B0 (rng 0) hi w w' := by
  have hv' : Hid _ := hv
  have hk' : Hid _ := hkb
  obtain ⟨⟨ao, cap, rfl, -, -⟩, -, -, -, -, -⟩ := hv
  clear hkb
  go_enter Tryz.func9, Tryz.ntmps9
  go_wp2_with fail
  have hb0 : Below w.heap.size w (w.alloc (.cells #[.slice ao n cap] 24)) := by go_grown
  generalize w.alloc (.cells #[.slice ao n cap] 24) = w0 at hb0 ⊢
  have hC : COwn w0 (.slice ao n cap) n f lo hi B0 rng a b := by
    obtain ⟨c1, c2, c3, c4, c5, c6⟩ := hv'.out
    refine ⟨c1.keep fun hp => hb0.block _ (c1.lt hp), c2, c3, c4, c5, fun i hi2 => (c6 i hi2).keep fun c h1 h2 h3 => hb0.block _ h3⟩
  refine (markProtoS_in n _ f 1 _ lo hi B0 rng a b hC hs (by omega) hk'.out).mono ?_
  rintro e w1 ⟨rfl, hC1, hF⟩
  have hF' : Hid (Fr B0 (rng 0) hi w w1) := (Fr.of_below hb0).trans hF
  have hC1' : Hid _ := hC1
  clear hv' hk' hC hC1 hF
  go_wp2_with fail
  go_ret
  exact ⟨rfl, hC1'.out, hF'.out⟩
end Go.Proofs.YtckapapejfnojaaGreatDoor

import Derived.Test.YtckapapejfnojaaGreatDoorVmOV
import Derived.Test.YtckapapejfnojaaGreatDoorVmPV
namespace Go.Proofs.YtckapapejfnojaaGreatDoor
open Go.RowKit
set_option linter.unusedVariables false
set_option linter.unusedSimpArgs false
theorem IsProtos.old {lo : Nat} {w : World} {v : Value} {s : Sl PD} (h : IsProtos (fun b => lo ≤ b ∧ b < w.heap.size) w v s) : IsProtos (· < w.heap.size) w v s := h.mono fun _ hb => hb.2
set_option maxRecDepth 100000 in
theorem eqReport_in (a b c : Int) (w : World) : Calls Tryz.prog 20 #[.agg #[.int .i64 a, .int .i64 b, .int .i64 c], .agg #[.int .i64 a, .int .i64 b, .int .i64 c]] w fun e w' => e = .returned (.bool true) ∧ Below w.heap.size w w' := by
  go_enter Tryz.func20, Tryz.ntmps20
  go_wp2_with fail
  go_ret
  exact ⟨rfl, by go_grown⟩
theorem implVerify_in (s : Sl PD) (v : Value) (w : World) (hv : IsProtos (· < w.heap.size) w v s) (hC : CodeB s) (hS : Spans w) :
    Calls Tryz.prog 19 #[.agg #[v]] w fun e w' => (∃ c pr pc, e = .returned (.agg #[.int .i64 c, .int .i64 pr, .int .i64 pc]) ∧ VerD s c pr pc) ∧ Below w.heap.size w w' := by
  by_cases hw : Wf s
  · exact (implVerify_yes s v w hv hw hC hS).mono fun e w' ⟨⟨c, pr, pc, he, hR⟩, hb⟩ => ⟨⟨c, pr, pc, he, .inr ⟨hw, hR⟩⟩, hb⟩
  · exact implVerify_no s v w hv hw
set_option maxRecDepth 100000 in
set_option maxHeartbeats 4000000 in
theorem verify_law (s : Sl PD) (v : Value) (w : World) (hv : IsProtos (· < w.heap.size) w v s) (hC : CodeB s) (hS : Spans w) :
    Calls Tryz.prog 5 #[.agg #[v]] w fun e w' => e = .returned (.bool true) ∧ Below w.heap.size w w' := by
  have hv' : Hid (IsProtos (· < w.heap.size) w v s) := hv
  obtain ⟨-, -, -, -, -, ⟨ao, cap, rfl, -, -⟩, -⟩ := hv
  replace hC : Hid (CodeB s) := hC
  replace hS : Hid (Spans w) := hS
  go_enter Tryz.func5, Tryz.ntmps5
  go_wp2_with fail
  have R0 := RowL.new w [.slice ao s.n cap] 32
  have bw : Below w.heap.size w (w.alloc (.cells #[.slice ao s.n cap] 32)) := by go_grown
  generalize w.alloc (.cells #[.slice ao s.n cap] 32) = w0 at R0 bw ⊢
  refine (szChunk_in s _ _ (hv'.out.later bw)).mono ?_
  rintro e w1 ⟨⟨r, rfl, hr⟩, b1⟩
  replace R0 := R0.call b1
  replace bw := bw.trans (b1.mono bw.size)
  clear b1
  by_cases hr0 : r < 0
  · clear hr
    go_wp2_with fail
    go_ret
    exact ⟨rfl, bw⟩
  have hs : Hid (SmallC s) := hr (by omega)
  clear hr
  have r0 := R0.cell 0 rfl
  go_wp2_with fail
  clear r0
  refine (toChunk_in s _ _ (hv'.out.later bw) hs.out).mono ?_
  rintro e w2 ⟨⟨v1, rfl, h1⟩, b2⟩
  replace R0 := R0.call b2
  replace bw := bw.trans (b2.mono bw.size)
  clear b2
  have h1' : Hid (IsProtos (· < w2.heap.size) w2 v1 s) := h1.old
  clear h1
  go_wp2_with fail
  refine (specVerify_in s v1 _ h1'.out hC.out).mono ?_
  rintro e w3 ⟨⟨c0, p0, q0, rfl, hq0⟩, b3⟩
  replace R0 := R0.call b3
  replace bw := bw.trans (b3.mono bw.size)
  clear b3 h1'
  have hq0' : Hid (VerD s c0 p0 q0) := hq0
  clear hq0
  have b4 : Below w3.heap.size w3 (w3.alloc (.cells #[.int .i64 c0, .int .i64 p0, .int .i64 q0] 41)) := (Below.refl _ _).alloc (Nat.le_refl _) _
  have G0 := RowL.new w3 [.int .i64 c0, .int .i64 p0, .int .i64 q0] 41
  replace R0 := R0.call b4
  replace bw := bw.trans (b4.mono bw.size)
  clear b4
  have r0 := R0.cell 0 rfl
  go_wp2_with fail
  clear r0
  generalize w3.alloc (.cells #[.int .i64 c0, .int .i64 p0, .int .i64 q0] 41) = w3' at R0 bw G0 ⊢
  generalize w3.heap.size = GB at G0 ⊢
  refine (toChunk_in s _ _ (hv'.out.later bw) hs.out).mono ?_
  rintro e w4 ⟨⟨v2, rfl, h2⟩, b4⟩
  replace R0 := R0.call b4
  replace G0 := G0.call b4
  replace bw := bw.trans (b4.mono bw.size)
  clear b4
  have h2' : Hid (IsProtos (· < w4.heap.size) w4 v2 s) := h2.old
  obtain ⟨-, -, -, -, -, ⟨ao2, cap2, rfl, -, -⟩, -⟩ := h2
  go_wp2_with fail
  have R1 := RowL.new w4 [.slice ao2 s.n cap2] 24
  replace R0 := R0.alloc (.cells #[.slice ao2 s.n cap2] 24)
  have bx : Below w4.heap.size w4 (w4.alloc (.cells #[.slice ao2 s.n cap2] 24)) := by go_grown
  replace G0 := G0.call bx
  replace bw := bw.trans (bx.mono bw.size)
  generalize hB : w4.heap.size = B at R1 ⊢
  generalize hW5 : w4.alloc (.cells #[.slice ao2 s.n cap2] 24) = w5 at R0 R1 bx bw G0 ⊢
  have h5 : Hid (IsProtos (· < w5.heap.size) w5 (.slice ao2 s.n cap2) s) := h2'.out.later bx
  clear h2' bx hW5 hB
  refine (implVerify_in s _ _ h5.out hC.out (hS.out.below bw)).mono ?_
  rintro e w6 ⟨⟨c1, p1, q1, rfl, hq1⟩, b6⟩
  obtain ⟨rfl, rfl, rfl⟩ := hq1.det hq0'.out
  clear hq1 hq0'
  replace R0 := R0.call b6
  replace R1 := R1.call b6
  replace G0 := G0.call b6
  replace bw := bw.trans (b6.mono bw.size)
  have h6 : Hid (IsProtos (· < w6.heap.size) w6 (.slice ao2 s.n cap2) s) := h5.out.later b6
  clear b6 h5
  have b7 : Below w6.heap.size w6 (w6.alloc (.cells #[.int .i64 c1, .int .i64 p1, .int .i64 q1] 41)) := (Below.refl _ _).alloc (Nat.le_refl _) _
  have H0 := RowL.new w6 [.int .i64 c1, .int .i64 p1, .int .i64 q1] 41
  replace R0 := R0.call b7
  replace R1 := R1.call b7
  replace G0 := G0.call b7
  replace bw := bw.trans (b7.mono bw.size)
  replace h6 : Hid (IsProtos (· < (w6.alloc (.cells #[.int .i64 c1, .int .i64 p1, .int .i64 q1] 41)).heap.size) (w6.alloc (.cells #[.int .i64 c1, .int .i64 p1, .int .i64 q1] 41)) (.slice ao2 s.n cap2) s) := h6.out.later b7
  clear b7
  have g0 := G0.cell 0 rfl
  have g1 := G0.cell 1 rfl
  have g2 := G0.cell 2 rfl
  have gl := G0.lt
  go_wp2_with fail
  clear g0 g1 g2 gl
  generalize w6.alloc (.cells #[.int .i64 c1, .int .i64 p1, .int .i64 q1] 41) = w7 at R0 R1 bw h6 H0 G0 ⊢
  generalize w6.heap.size = HB at H0 ⊢
  refine (eqReport_in c1 p1 q1 w7).mono ?_
  rintro e w8 ⟨rfl, b8⟩
  replace R0 := R0.call b8
  replace R1 := R1.call b8
  replace bw := bw.trans (b8.mono bw.size)
  replace h6 : Hid (IsProtos (· < w8.heap.size) w8 (.slice ao2 s.n cap2) s) := h6.out.later b8
  clear b8 H0 G0
  have r0 := R0.cell 0 rfl
  have r1 := R1.cell 0 rfl
  have hk : Hid (∀ y, Below w8.heap.size w8 y → (y.cell? ⟨B, 0, none⟩ = some (.slice ao2 s.n cap2) ∧ y.cell? ⟨w.heap.size, 0, none⟩ = some (.slice ao s.n cap))) := fun y hy =>
    ⟨(R1.call hy).cell 0 rfl, (R0.call hy).cell 0 rfl⟩
  have hto : Hid (∀ y, Below w8.heap.size w8 y → Calls Tryz.prog 13 #[.agg #[.slice ao s.n cap]] y fun e w' => (∃ v', e = .returned (.agg #[v']) ∧ IsProtos (· < w'.heap.size) w' v' s ∧ IsProtos (· < w'.heap.size) w' (.slice ao2 s.n cap2) s) ∧ Below w8.heap.size w8 w') := fun y hy =>
    (toChunk_in s _ y (hv'.out.later (bw.trans (hy.mono bw.size))) hs.out).mono fun e w' ⟨⟨v', he, hp⟩, hb⟩ => ⟨⟨v', he, hp.old, (h6.out.later hy).later hb⟩, hy.trans (hb.mono hy.size)⟩
  clear R0 R1 h6 hv' hs hC hS
  go_wp2_with fail
  go_region_held3 (fun y => y.cell? ⟨B, 0, none⟩ = some (.slice ao2 s.n cap2) ∧ y.cell? ⟨w.heap.size, 0, none⟩ = some (.slice ao s.n cap)) (first | exact hk.out _ (Below.refl _ _).drew | assumption)
    (first | (go_at_call 13; refine (hto.out _ (Below.refl _ _).drew).mono ?_; rintro e y ⟨⟨v3, rfl, hp3, hx3⟩, hy3⟩; have hs3 := hk.out y hy3) | (go_at_call 8; refine (eqChunk_in s _ _ _ (by assumption) (by assumption)).mono ?_; rintro e z ⟨rfl, hz⟩; have hz3 := hk.out z (Below.trans (by assumption) (hz.mono (Below.size (by assumption))))))
  have hfin : Below w.heap.size w z := bw.trans ((hy3.trans (hz.mono hy3.size)).mono bw.size)
  clear hk hto
  go_wp2_with fail
  go_ret
  exact ⟨rfl, hfin⟩
end Go.Proofs.YtckapapejfnojaaGreatDoor

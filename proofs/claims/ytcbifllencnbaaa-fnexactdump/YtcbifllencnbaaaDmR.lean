import Derived.Test.YtcbifllencnbaaaImG
namespace Go.Proofs.Ytcbifllencnbaaa
open Go.RowKit
set_option linter.unusedVariables false
set_option linter.unusedSimpArgs false
theorem IsProtos.old {lo : Nat} {w : World} {v : Value} {s : Sl PD} (h : IsProtos (fun b => lo ≤ b ∧ b < w.heap.size) w v s) : IsProtos (· < w.heap.size) w v s := h.mono fun _ hb => hb.2
/-- both answer so. -/
theorem dump_same {s : Sl PD} {T : Value} (hT : T = .tuple #[.string (chunkB s), .bool true] ∧ Wf s ∨ T = .tuple #[.string ⟨#[]⟩, .bool false] ∧ ¬ Wf s) {e : Ending} (he : (Wf s ∧ e = .returned (.tuple #[.string (chunkB s), .bool true])) ∨ (¬ Wf s ∧ e = .returned (.tuple #[.string ⟨#[]⟩, .bool false]))) : e = .returned T := by
  rcases hT with ⟨rfl, h⟩ | ⟨rfl, h⟩ <;> rcases he with ⟨h2, rfl⟩ | ⟨h2, rfl⟩ <;> first | rfl | exact absurd h2 h | exact absurd h h2
set_option maxRecDepth 100000 in
set_option maxHeartbeats 4000000 in
theorem dump_law (s : Sl PD) (v : Value) (w : World) (hv : IsProtos (· < w.heap.size) w v s) (hbd : Bnd s) :
    Calls Try.prog 3 #[.agg #[v]] w fun e w' => e = .returned (.bool true) ∧ Below w.heap.size w w' := by
  have hv' : Hid (IsProtos (· < w.heap.size) w v s) := hv
  obtain ⟨-, -, -, -, -, ⟨ao, cap, rfl, -, -⟩, -⟩ := hv
  obtain ⟨D, f, hT⟩ : ∃ (D : ByteArray) (f : Bool), Hid ((Value.tuple #[.string D, .bool f] = .tuple #[.string (chunkB s), .bool true] ∧ Wf s) ∨ (Value.tuple #[.string D, .bool f] = .tuple #[.string ⟨#[]⟩, .bool false] ∧ ¬ Wf s)) := by
    by_cases h : Wf s
    · exact ⟨_, _, .inl ⟨rfl, h⟩⟩
    · exact ⟨_, _, .inr ⟨rfl, h⟩⟩
  go_enter Try.func3, Try.ntmps3
  go_wp2_with fail
  have R0 := RowL.new w [.slice ao s.n cap] 24
  have bw : Below w.heap.size w (w.alloc (.cells #[.slice ao s.n cap] 24)) := by go_grown
  generalize w.alloc (.cells #[.slice ao s.n cap] 24) = w0 at R0 bw ⊢
  refine (szChunk_in s _ _ (hv'.out.later bw)).mono ?_
  rintro e w1 ⟨⟨r, rfl, hr⟩, b1⟩
  replace R0 := R0.call b1
  replace bw := bw.trans (b1.mono bw.size)
  clear b1
  by_cases hr0 : r < 0
  · clear hr
    go_wp2_with fail
    go_ret
    exact ⟨rfl, bw⟩
  have hs : Hid (SmallC s) := hr (by omega)
  clear hr
  have r0 := R0.cell 0 rfl
  go_wp2_with fail
  clear r0
  refine (toChunk_in s _ _ (hv'.out.later bw) hs.out).mono ?_
  rintro e w2 ⟨⟨v1, rfl, h1⟩, b2⟩
  replace R0 := R0.call b2
  replace bw := bw.trans (b2.mono bw.size)
  clear b2
  have h1' : Hid (IsProtos (· < w2.heap.size) w2 v1 s) := h1.old
  clear h1
  go_wp2_with fail
  refine (specDump_in s v1 _ h1'.out hbd).mono ?_
  rintro e w3 ⟨he, b3⟩
  obtain rfl := dump_same hT.out he
  replace R0 := R0.call b3
  replace bw := bw.trans (b3.mono bw.size)
  clear b3 h1' he
  have r0 := R0.cell 0 rfl
  go_wp2_with fail
  clear r0
  refine (toChunk_in s _ _ (hv'.out.later bw) hs.out).mono ?_
  rintro e w4 ⟨⟨v2, rfl, h2⟩, b4⟩
  replace R0 := R0.call b4
  replace bw := bw.trans (b4.mono bw.size)
  clear b4
  have h2' : Hid (IsProtos (· < w4.heap.size) w4 v2 s) := h2.old
  obtain ⟨-, -, -, -, -, ⟨ao2, cap2, rfl, -, -⟩, -⟩ := h2
  go_wp2_with fail
  have R1 := RowL.new w4 [.slice ao2 s.n cap2] 30
  replace R0 := R0.alloc (.cells #[.slice ao2 s.n cap2] 30)
  have bx : Below w4.heap.size w4 (w4.alloc (.cells #[.slice ao2 s.n cap2] 30)) := by go_grown
  replace bw := bw.trans (bx.mono bw.size)
  generalize hB : w4.heap.size = B at R1 ⊢
  generalize hW5 : w4.alloc (.cells #[.slice ao2 s.n cap2] 30) = w5 at R0 R1 bx bw ⊢
  have h5 : Hid (IsProtos (· < w5.heap.size) w5 (.slice ao2 s.n cap2) s) := h2'.out.later bx
  clear h2' bx hW5 hB
  refine (implDump_in s _ _ h5.out hbd).mono ?_
  rintro e w6 ⟨he, b6⟩
  obtain rfl := dump_same hT.out he
  replace R0 := R0.call b6
  replace R1 := R1.call b6
  replace bw := bw.trans (b6.mono bw.size)
  have h6 : Hid (IsProtos (· < w6.heap.size) w6 (.slice ao2 s.n cap2) s) := h5.out.later b6
  clear b6 h5 he
  have r0 := R0.cell 0 rfl
  have r1 := R1.cell 0 rfl
  have hk : Hid (∀ y, Below w6.heap.size w6 y → (y.cell? ⟨B, 0, none⟩ = some (.slice ao2 s.n cap2) ∧ y.cell? ⟨w.heap.size, 0, none⟩ = some (.slice ao s.n cap))) := fun y hy =>
    ⟨(R1.call hy).cell 0 rfl, (R0.call hy).cell 0 rfl⟩
  have hto : Hid (∀ y, Below w6.heap.size w6 y → Calls Try.prog 6 #[.agg #[.slice ao s.n cap]] y fun e w' => (∃ v', e = .returned (.agg #[v']) ∧ IsProtos (· < w'.heap.size) w' v' s ∧ IsProtos (· < w'.heap.size) w' (.slice ao2 s.n cap2) s) ∧ Below w6.heap.size w6 w') := fun y hy =>
    (toChunk_in s _ y (hv'.out.later (bw.trans (hy.mono bw.size))) hs.out).mono fun e w' ⟨⟨v', he, hp⟩, hb⟩ => ⟨⟨v', he, hp.old, (h6.out.later hy).later hb⟩, hy.trans (hb.mono hy.size)⟩
  clear R0 R1 h6 hv' hs hT
  go_wp2_with fail
  go_region_held3 (fun y => y.cell? ⟨B, 0, none⟩ = some (.slice ao2 s.n cap2) ∧ y.cell? ⟨w.heap.size, 0, none⟩ = some (.slice ao s.n cap)) (first | exact hk.out _ (Below.refl _ _).drew | assumption)
    (first | (go_at_call 6; refine (hto.out _ (Below.refl _ _).drew).mono ?_; rintro e y ⟨⟨v3, rfl, hp3, hx3⟩, hy3⟩; have hs3 := hk.out y hy3) | (go_at_call 8; refine (eqChunk_in s _ _ _ (by assumption) (by assumption)).mono ?_; rintro e z ⟨rfl, hz⟩; have hz3 := hk.out z (Below.trans (by assumption) (hz.mono (Below.size (by assumption))))))
  have hfin : Below w.heap.size w z := bw.trans ((hy3.trans (hz.mono hy3.size)).mono bw.size)
  clear hk hto
  go_wp2_with fail
  go_ret
  exact ⟨rfl, hfin⟩
end Go.Proofs.Ytcbifllencnbaaa

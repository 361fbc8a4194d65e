import Derived.Test.YtndpbdpngniepaaStH
namespace Go.Proofs.Ytndpbdpngniepaa
open Go.RowKit
set_option linter.unusedVariables false
set_option linter.unusedSimpArgs false
theorem take_dst {P : Program} {ops : Array Oper} {Q : Exit → Act → World → Prop} {md : Region.Mode} {S : World → Prop} (i d : Nat) (v : Value) {oi : Oper} {fuel : Nat} {listed : Array Bool} {a : Act} {w : World} (hi : ops[i]? = some oi)
    (hs : Region.noSelect ops = true) (hf : Region.free md ops listed i = true) (hr : (Region.ready md ops listed).contains i = true)
    (hQ : ∀ c a w, Q (.panic c) (a.put oi.dst v) w → Q (.panic c) a w) (hy : YieldsIf P ops S oi v a) (hS : S w) (hd : oi.dst = some d)
    (h : wpAnyH P md ops Q S fuel (listed.setIfInBounds i true) (a.put (some d) v) w) : wpAnyH P md ops Q S (fuel + 1) listed a w :=
  wpAnyH_take hi hs hf hr hQ hy hS (by rw [hd]; exact h)
/-- a prototype without its debug texts. -/
def stripP (p : PD) : PD := { p with name := ⟨#[]⟩, lines := ⟨0, fun _ => 0⟩, upNames := ⟨0, fun _ => ⟨#[]⟩⟩ }
set_option maxRecDepth 100000 in
set_option maxHeartbeats 8000000 in
theorem stripped_in (p : PD) (a3 a4 a5 a8 a9 : Value) (w : World) (hp : IsProto (· < w.heap.size) w a3 a4 a5 a8 a9 p) (hs : SmallP p) :
    Calls Try.prog 40 #[pAgg p a3 a4 a5 a8 a9] w fun e w' =>
      ∃ b3 b4 b5 b8 b9 B3 B4 B5 B8 B9, e = .returned (pAgg (stripP p) b3 b4 b5 b8 b9) ∧ OwnProto w' w.heap.size w'.heap.size b3 b4 b5 b8 b9 B3 B4 B5 B8 B9 (stripP p) ∧ Below w.heap.size w w' := by
  have hp' : Hid (IsProto (· < w.heap.size) w a3 a4 a5 a8 a9 p) := hp
  obtain ⟨s3, s4, s5, s8, s9⟩ := hs
  obtain ⟨p3, p4, p5, p8, p9, -⟩ := hp
  obtain ⟨o3, c3, rfl, -, -⟩ := p3
  obtain ⟨o5, c5, rfl, -, -⟩ := p5
  obtain ⟨o8, c8, rfl, -, -⟩ := p8
  obtain ⟨⟨o4, c4, rfl, -, -⟩, -⟩ := p4
  obtain ⟨⟨o9, c9, rfl, -, -⟩, -⟩ := p9
  unfold pAgg
  go_enter Try.func40, Try.ntmps40
  go_wp2_with fail
  have R0 : RowL ((w.alloc (.cells #[.int .i64 p.params, .bool p.vararg, .int .i64 p.regs, .slice o3 p.code.n c3, .slice o4 p.consts.n c4, .slice o5 p.ups.n c5, .int .i64 p.kids, .string p.name, .slice o8 p.lines.n c8, .slice o9 p.upNames.n c9] 61)).alloc (.cells #[.int .i64 0, .bool false, .int .i64 0, .slice none 0 0, .slice none 0 0, .slice none 0 0, .int .i64 0, .string ⟨#[]⟩, .slice none 0 0, .slice none 0 0] 61)) w.heap.size 61 [.int .i64 p.params, .bool p.vararg, .int .i64 p.regs, .slice o3 p.code.n c3, .slice o4 p.consts.n c4, .slice o5 p.ups.n c5, .int .i64 p.kids, .string p.name, .slice o8 p.lines.n c8, .slice o9 p.upNames.n c9] := (RowL.new w _ 61).alloc _
  have R1 : RowL ((w.alloc (.cells #[.int .i64 p.params, .bool p.vararg, .int .i64 p.regs, .slice o3 p.code.n c3, .slice o4 p.consts.n c4, .slice o5 p.ups.n c5, .int .i64 p.kids, .string p.name, .slice o8 p.lines.n c8, .slice o9 p.upNames.n c9] 61)).alloc (.cells #[.int .i64 0, .bool false, .int .i64 0, .slice none 0 0, .slice none 0 0, .slice none 0 0, .int .i64 0, .string ⟨#[]⟩, .slice none 0 0, .slice none 0 0] 61)) (w.heap.size + 1) 61 [.int .i64 0, .bool false, .int .i64 0, .slice none 0 0, .slice none 0 0, .slice none 0 0, .int .i64 0, .string ⟨#[]⟩, .slice none 0 0, .slice none 0 0] := by
    have := RowL.new (w.alloc (.cells #[.int .i64 p.params, .bool p.vararg, .int .i64 p.regs, .slice o3 p.code.n c3, .slice o4 p.consts.n c4, .slice o5 p.ups.n c5, .int .i64 p.kids, .string p.name, .slice o8 p.lines.n c8, .slice o9 p.upNames.n c9] 61)) [.int .i64 0, .bool false, .int .i64 0, .slice none 0 0, .slice none 0 0, .slice none 0 0, .int .i64 0, .string ⟨#[]⟩, .slice none 0 0, .slice none 0 0] 61
    rwa [World.size_alloc] at this
  have bw : Below w.heap.size w ((w.alloc (.cells #[.int .i64 p.params, .bool p.vararg, .int .i64 p.regs, .slice o3 p.code.n c3, .slice o4 p.consts.n c4, .slice o5 p.ups.n c5, .int .i64 p.kids, .string p.name, .slice o8 p.lines.n c8, .slice o9 p.upNames.n c9] 61)).alloc (.cells #[.int .i64 0, .bool false, .int .i64 0, .slice none 0 0, .slice none 0 0, .slice none 0 0, .int .i64 0, .string ⟨#[]⟩, .slice none 0 0, .slice none 0 0] 61)) := by go_grown
  have sz : w.heap.size + 2 = ((w.alloc (.cells #[.int .i64 p.params, .bool p.vararg, .int .i64 p.regs, .slice o3 p.code.n c3, .slice o4 p.consts.n c4, .slice o5 p.ups.n c5, .int .i64 p.kids, .string p.name, .slice o8 p.lines.n c8, .slice o9 p.upNames.n c9] 61)).alloc (.cells #[.int .i64 0, .bool false, .int .i64 0, .slice none 0 0, .slice none 0 0, .slice none 0 0, .int .i64 0, .string ⟨#[]⟩, .slice none 0 0, .slice none 0 0] 61)).heap.size := by simp
  generalize (w.alloc (.cells #[.int .i64 p.params, .bool p.vararg, .int .i64 p.regs, .slice o3 p.code.n c3, .slice o4 p.consts.n c4, .slice o5 p.ups.n c5, .int .i64 p.kids, .string p.name, .slice o8 p.lines.n c8, .slice o9 p.upNames.n c9] 61)).alloc (.cells #[.int .i64 0, .bool false, .int .i64 0, .slice none 0 0, .slice none 0 0, .slice none 0 0, .int .i64 0, .string ⟨#[]⟩, .slice none 0 0, .slice none 0 0] 61) = wx at R0 R1 bw sz ⊢
  have hk : Hid (∀ y, Below wx.heap.size wx y → (y.cell? ⟨w.heap.size, 0, none⟩ = some (.int .i64 p.params) ∧ y.cell? ⟨w.heap.size, 1, none⟩ = some (.bool p.vararg) ∧ y.cell? ⟨w.heap.size, 2, none⟩ = some (.int .i64 p.regs) ∧ y.cell? ⟨w.heap.size, 3, none⟩ = some (.slice o3 p.code.n c3) ∧ y.cell? ⟨w.heap.size, 4, none⟩ = some (.slice o4 p.consts.n c4) ∧ y.cell? ⟨w.heap.size, 5, none⟩ = some (.slice o5 p.ups.n c5) ∧ y.cell? ⟨w.heap.size, 6, none⟩ = some (.int .i64 p.kids))) := fun y hy => ⟨(R0.call hy).cell 0 rfl, (R0.call hy).cell 1 rfl, (R0.call hy).cell 2 rfl, (R0.call hy).cell 3 rfl, (R0.call hy).cell 4 rfl, (R0.call hy).cell 5 rfl, (R0.call hy).cell 6 rfl⟩
  have hz : Hid (∀ y, Below wx.heap.size wx y → (y.cell? ⟨w.heap.size + 1, 0, none⟩ = some (.int .i64 0) ∧ y.cell? ⟨w.heap.size + 1, 1, none⟩ = some (.bool false) ∧ y.cell? ⟨w.heap.size + 1, 2, none⟩ = some (.int .i64 0) ∧ y.cell? ⟨w.heap.size + 1, 3, none⟩ = some (.slice none 0 0) ∧ y.cell? ⟨w.heap.size + 1, 4, none⟩ = some (.slice none 0 0) ∧ y.cell? ⟨w.heap.size + 1, 5, none⟩ = some (.slice none 0 0) ∧ y.cell? ⟨w.heap.size + 1, 6, none⟩ = some (.int .i64 0) ∧ y.cell? ⟨w.heap.size + 1, 7, none⟩ = some (.string ⟨#[]⟩) ∧ y.cell? ⟨w.heap.size + 1, 8, none⟩ = some (.slice none 0 0) ∧ y.cell? ⟨w.heap.size + 1, 9, none⟩ = some (.slice none 0 0) ∧ y.frozen? ⟨w.heap.size + 1, 0, none⟩ = false ∧ y.frozen? ⟨w.heap.size + 1, 1, none⟩ = false ∧ y.frozen? ⟨w.heap.size + 1, 2, none⟩ = false ∧ y.frozen? ⟨w.heap.size + 1, 3, none⟩ = false ∧ y.frozen? ⟨w.heap.size + 1, 4, none⟩ = false ∧ y.frozen? ⟨w.heap.size + 1, 5, none⟩ = false ∧ y.frozen? ⟨w.heap.size + 1, 6, none⟩ = false ∧ y.frozen? ⟨w.heap.size + 1, 7, none⟩ = false ∧ y.frozen? ⟨w.heap.size + 1, 8, none⟩ = false ∧ y.frozen? ⟨w.heap.size + 1, 9, none⟩ = false)) := fun y hy => ⟨(R1.call hy).cell 0 rfl, (R1.call hy).cell 1 rfl, (R1.call hy).cell 2 rfl, (R1.call hy).cell 3 rfl, (R1.call hy).cell 4 rfl, (R1.call hy).cell 5 rfl, (R1.call hy).cell 6 rfl, (R1.call hy).cell 7 rfl, (R1.call hy).cell 8 rfl, (R1.call hy).cell 9 rfl, (R1.call hy).frozen 0, (R1.call hy).frozen 1, (R1.call hy).frozen 2, (R1.call hy).frozen 3, (R1.call hy).frozen 4, (R1.call hy).frozen 5, (R1.call hy).frozen 6, (R1.call hy).frozen 7, (R1.call hy).frozen 8, (R1.call hy).frozen 9⟩
  have hR1 : Hid (RowL wx (w.heap.size + 1) 61 [.int .i64 0, .bool false, .int .i64 0, .slice none 0 0, .slice none 0 0, .slice none 0 0, .int .i64 0, .string ⟨#[]⟩, .slice none 0 0, .slice none 0 0]) := R1
  have k3 : Hid (∀ y, Below wx.heap.size wx y → Calls Try.prog 59 #[.slice o3 p.code.n c3] y fun e y' => (∃ q d B, e = .returned (.slice q p.code.n d) ∧ Hid (OwnArr y' (.slice q p.code.n d) 1 p.code.n (iC .u32 p.code.f) B ∧ (0 < p.code.n → y.heap.size ≤ B ∧ B < y'.heap.size)) ∧ Hid (Below y.heap.size y y')) ∧ Below wx.heap.size wx y') := fun y hy =>
    (cloneInts_in p.code _ y ((hp'.out.later (bw.trans (hy.mono bw.size))).code) s3).mono fun e y' ⟨⟨v, B, he, ho, hr⟩, hb⟩ => by
      obtain ⟨q, d, rfl, h1, h2⟩ := ho
      exact ⟨⟨q, d, B, he, ⟨⟨q, d, rfl, h1, h2⟩, hr⟩, hb⟩, hy.trans (hb.mono hy.size)⟩
  have k4 : Hid (∀ y, Below wx.heap.size wx y → Calls Try.prog 60 #[.slice o4 p.consts.n c4] y fun e y' => (∃ q d B, e = .returned (.slice q p.consts.n d) ∧ Hid (OwnArr y' (.slice q p.consts.n d) 3 p.consts.n (vC p.consts.f) B ∧ (0 < p.consts.n → y.heap.size ≤ B ∧ B < y'.heap.size)) ∧ Hid (Below y.heap.size y y')) ∧ Below wx.heap.size wx y') := fun y hy =>
    (cloneVals_in p.consts _ y ((hp'.out.later (bw.trans (hy.mono bw.size))).consts) s4).mono fun e y' ⟨⟨v, B, he, ho, hr⟩, hb⟩ => by
      obtain ⟨q, d, rfl, h1, h2⟩ := ho
      exact ⟨⟨q, d, B, he, ⟨⟨q, d, rfl, h1, h2⟩, hr⟩, hb⟩, hy.trans (hb.mono hy.size)⟩
  have k5 : Hid (∀ y, Below wx.heap.size wx y → Calls Try.prog 61 #[.slice o5 p.ups.n c5] y fun e y' => (∃ q d B, e = .returned (.slice q p.ups.n d) ∧ Hid (OwnArr y' (.slice q p.ups.n d) 2 p.ups.n (uC p.ups.f) B ∧ (0 < p.ups.n → y.heap.size ≤ B ∧ B < y'.heap.size)) ∧ Hid (Below y.heap.size y y')) ∧ Below wx.heap.size wx y') := fun y hy =>
    (cloneUps_in p.ups _ y ((hp'.out.later (bw.trans (hy.mono bw.size))).ups) s5).mono fun e y' ⟨⟨v, B, he, ho, hr⟩, hb⟩ => by
      obtain ⟨q, d, rfl, h1, h2⟩ := ho
      exact ⟨⟨q, d, B, he, ⟨⟨q, d, rfl, h1, h2⟩, hr⟩, hb⟩, hy.trans (hb.mono hy.size)⟩
  have hd0 : Below wx.heap.size wx wx.drew := (Below.refl _ _).drew
  have hR0 : Hid (RowL wx w.heap.size 61 [.int .i64 p.params, .bool p.vararg, .int .i64 p.regs, .slice o3 p.code.n c3, .slice o4 p.consts.n c4, .slice o5 p.ups.n c5, .int .i64 p.kids, .string p.name, .slice o8 p.lines.n c8, .slice o9 p.upNames.n c9]) := R0
  clear R0 R1 hp' s8 s9
  refine wp_region_held_drew (S := fun y => y.cell? ⟨w.heap.size, 0, none⟩ = some (.int .i64 p.params) ∧ y.cell? ⟨w.heap.size, 1, none⟩ = some (.bool p.vararg) ∧ y.cell? ⟨w.heap.size, 2, none⟩ = some (.int .i64 p.regs) ∧ y.cell? ⟨w.heap.size, 3, none⟩ = some (.slice o3 p.code.n c3) ∧ y.cell? ⟨w.heap.size, 4, none⟩ = some (.slice o4 p.consts.n c4) ∧ y.cell? ⟨w.heap.size, 5, none⟩ = some (.slice o5 p.ups.n c5) ∧ y.cell? ⟨w.heap.size, 6, none⟩ = some (.int .i64 p.kids)) (by kernel_rfl) (hk.out _ hd0) (fun hHeld => ?_)
  refine take_dst 0 3 (.pointer (some ⟨w.heap.size, 0, none⟩)) rfl (by kernel_rfl) (by kernel_rfl) (by kernel_rfl) (fun _ _ _ h => h) (Or.inl ⟨by rfl, by intro wv hSv; (try dsimp only at hSv); go_simp⟩) hHeld rfl ?_
  try simp only [Act.put, List.setIfInBounds_toArray, List.set_cons_zero, List.set_cons_succ]
  refine take_dst 1 4 (.int .i64 p.params) rfl (by kernel_rfl) (by kernel_rfl) (by kernel_rfl) (fun _ _ _ h => h) (Or.inl ⟨by rfl, by intro wv hSv; (try dsimp only at hSv); go_simp⟩) hHeld rfl ?_
  try simp only [Act.put, List.setIfInBounds_toArray, List.set_cons_zero, List.set_cons_succ]
  refine take_dst 2 5 (.pointer (some ⟨w.heap.size, 1, none⟩)) rfl (by kernel_rfl) (by kernel_rfl) (by kernel_rfl) (fun _ _ _ h => h) (Or.inl ⟨by rfl, by intro wv hSv; (try dsimp only at hSv); go_simp⟩) hHeld rfl ?_
  try simp only [Act.put, List.setIfInBounds_toArray, List.set_cons_zero, List.set_cons_succ]
  refine take_dst 3 6 (.bool p.vararg) rfl (by kernel_rfl) (by kernel_rfl) (by kernel_rfl) (fun _ _ _ h => h) (Or.inl ⟨by rfl, by intro wv hSv; (try dsimp only at hSv); go_simp⟩) hHeld rfl ?_
  try simp only [Act.put, List.setIfInBounds_toArray, List.set_cons_zero, List.set_cons_succ]
  refine take_dst 4 7 (.pointer (some ⟨w.heap.size, 2, none⟩)) rfl (by kernel_rfl) (by kernel_rfl) (by kernel_rfl) (fun _ _ _ h => h) (Or.inl ⟨by rfl, by intro wv hSv; (try dsimp only at hSv); go_simp⟩) hHeld rfl ?_
  try simp only [Act.put, List.setIfInBounds_toArray, List.set_cons_zero, List.set_cons_succ]
  refine take_dst 5 8 (.int .i64 p.regs) rfl (by kernel_rfl) (by kernel_rfl) (by kernel_rfl) (fun _ _ _ h => h) (Or.inl ⟨by rfl, by intro wv hSv; (try dsimp only at hSv); go_simp⟩) hHeld rfl ?_
  try simp only [Act.put, List.setIfInBounds_toArray, List.set_cons_zero, List.set_cons_succ]
  refine take_dst 6 9 (.pointer (some ⟨w.heap.size, 3, none⟩)) rfl (by kernel_rfl) (by kernel_rfl) (by kernel_rfl) (fun _ _ _ h => h) (Or.inl ⟨by rfl, by intro wv hSv; (try dsimp only at hSv); go_simp⟩) hHeld rfl ?_
  try simp only [Act.put, List.setIfInBounds_toArray, List.set_cons_zero, List.set_cons_succ]
  refine take_dst 7 10 (.slice o3 p.code.n c3) rfl (by kernel_rfl) (by kernel_rfl) (by kernel_rfl) (fun _ _ _ h => h) (Or.inl ⟨by rfl, by intro wv hSv; (try dsimp only at hSv); go_simp⟩) hHeld rfl ?_
  try simp only [Act.put, List.setIfInBounds_toArray, List.set_cons_zero, List.set_cons_succ]
  refine take_dst 9 12 (.pointer (some ⟨w.heap.size, 4, none⟩)) rfl (by kernel_rfl) (by kernel_rfl) (by kernel_rfl) (fun _ _ _ h => h) (Or.inl ⟨by rfl, by intro wv hSv; (try dsimp only at hSv); go_simp⟩) hHeld rfl ?_
  try simp only [Act.put, List.setIfInBounds_toArray, List.set_cons_zero, List.set_cons_succ]
  refine take_dst 10 13 (.slice o4 p.consts.n c4) rfl (by kernel_rfl) (by kernel_rfl) (by kernel_rfl) (fun _ _ _ h => h) (Or.inl ⟨by rfl, by intro wv hSv; (try dsimp only at hSv); go_simp⟩) hHeld rfl ?_
  try simp only [Act.put, List.setIfInBounds_toArray, List.set_cons_zero, List.set_cons_succ]
  refine take_dst 12 15 (.pointer (some ⟨w.heap.size, 5, none⟩)) rfl (by kernel_rfl) (by kernel_rfl) (by kernel_rfl) (fun _ _ _ h => h) (Or.inl ⟨by rfl, by intro wv hSv; (try dsimp only at hSv); go_simp⟩) hHeld rfl ?_
  try simp only [Act.put, List.setIfInBounds_toArray, List.set_cons_zero, List.set_cons_succ]
  refine take_dst 13 16 (.slice o5 p.ups.n c5) rfl (by kernel_rfl) (by kernel_rfl) (by kernel_rfl) (fun _ _ _ h => h) (Or.inl ⟨by rfl, by intro wv hSv; (try dsimp only at hSv); go_simp⟩) hHeld rfl ?_
  try simp only [Act.put, List.setIfInBounds_toArray, List.set_cons_zero, List.set_cons_succ]
  refine take_dst 15 18 (.pointer (some ⟨w.heap.size, 6, none⟩)) rfl (by kernel_rfl) (by kernel_rfl) (by kernel_rfl) (fun _ _ _ h => h) (Or.inl ⟨by rfl, by intro wv hSv; (try dsimp only at hSv); go_simp⟩) hHeld rfl ?_
  try simp only [Act.put, List.setIfInBounds_toArray, List.set_cons_zero, List.set_cons_succ]
  refine take_dst 16 19 (.int .i64 p.kids) rfl (by kernel_rfl) (by kernel_rfl) (by kernel_rfl) (fun _ _ _ h => h) (Or.inl ⟨by rfl, by intro wv hSv; (try dsimp only at hSv); go_simp⟩) hHeld rfl ?_
  try simp only [Act.put, List.setIfInBounds_toArray, List.set_cons_zero, List.set_cons_succ]

  refine wpAnyH_ready (rs := [8]) (by kernel_rfl) (by simp) ?_
  refine AllReadyH.cons rfl (fun K hK => ?_) AllReadyH.nil
  go_simp
  refine (k3.out _ hd0).mono ?_
  rintro e y3 ⟨⟨q3, d3, B3, rfl, O3, L3⟩, hy3⟩
  go_wp2_with fail
  refine hK.out _ _ (hk.out y3 hy3) (fun _ => ?_)
  clear hK K
  try simp only [Act.put, List.setIfInBounds_toArray, List.set_cons_zero, List.set_cons_succ]
  refine wpAnyH_ready (rs := [11]) (by kernel_rfl) (by simp) ?_
  refine AllReadyH.cons rfl (fun K hK => ?_) AllReadyH.nil
  go_simp
  refine (k4.out _ hy3).mono ?_
  rintro e y4 ⟨⟨q4, d4, B4, rfl, O4, L4⟩, hy4⟩
  go_wp2_with fail
  refine hK.out _ _ (hk.out y4 hy4) (fun _ => ?_)
  clear hK K
  try simp only [Act.put, List.setIfInBounds_toArray, List.set_cons_zero, List.set_cons_succ]
  refine wpAnyH_ready (rs := [14]) (by kernel_rfl) (by simp) ?_
  refine AllReadyH.cons rfl (fun K hK => ?_) AllReadyH.nil
  go_simp
  refine (k5.out _ hy4).mono ?_
  rintro e y5 ⟨⟨q5, d5, B5, rfl, O5, L5⟩, hy5⟩
  go_wp2_with fail
  refine hK.out _ _ (hk.out y5 hy5) (fun _ => ?_)
  clear hK K
  try simp only [Act.put, List.setIfInBounds_toArray, List.set_cons_zero, List.set_cons_succ]
  refine take_dst 17 20 (.agg #[.int .i64 p.params, .bool p.vararg, .int .i64 p.regs, .slice q3 p.code.n d3, .slice q4 p.consts.n d4, .slice q5 p.ups.n d5, .int .i64 p.kids, .string ⟨#[]⟩, .slice none 0 0, .slice none 0 0]) rfl (by kernel_rfl) (by kernel_rfl) (by kernel_rfl) (fun _ _ _ h => h) (Or.inl ⟨by rfl, by intro wv hSv; (try dsimp only at hSv); go_simp⟩) (hk.out y5 hy5) rfl ?_
  try simp only [Act.put, List.setIfInBounds_toArray, List.set_cons_zero, List.set_cons_succ]
  obtain ⟨z0, z1, z2, z3, z4, z5, z6, z7, z8, z9, z10, z11, z12, z13, z14, z15, z16, z17, z18, z19⟩ := hz.out y5 hy5
  refine wpAnyH_ready (rs := [18]) (by kernel_rfl) (by simp) ?_
  refine AllReadyH.cons rfl (fun K hK => ?_) AllReadyH.nil
  go_simp
  have T0 := hR0.out.call hy5
  have T1 := hR1.out.call hy5
  have bF := bw.trans (hy5.mono bw.size)
  replace T0 := T0.other (a := ⟨w.heap.size + 1, 0, none⟩) (by show w.heap.size ≠ w.heap.size + 1; omega) (.int .i64 p.params)
  replace T1 := T1.set 0 (.int .i64 p.params)
  replace bF := bF.setCell (p := ⟨w.heap.size + 1, 0, none⟩) (by show w.heap.size ≤ w.heap.size + 1; omega) (.int .i64 p.params)
  replace T0 := T0.other (a := ⟨w.heap.size + 1, 1, none⟩) (by show w.heap.size ≠ w.heap.size + 1; omega) (.bool p.vararg)
  replace T1 := T1.set 1 (.bool p.vararg)
  replace bF := bF.setCell (p := ⟨w.heap.size + 1, 1, none⟩) (by show w.heap.size ≤ w.heap.size + 1; omega) (.bool p.vararg)
  replace T0 := T0.other (a := ⟨w.heap.size + 1, 2, none⟩) (by show w.heap.size ≠ w.heap.size + 1; omega) (.int .i64 p.regs)
  replace T1 := T1.set 2 (.int .i64 p.regs)
  replace bF := bF.setCell (p := ⟨w.heap.size + 1, 2, none⟩) (by show w.heap.size ≤ w.heap.size + 1; omega) (.int .i64 p.regs)
  replace T0 := T0.other (a := ⟨w.heap.size + 1, 3, none⟩) (by show w.heap.size ≠ w.heap.size + 1; omega) (.slice q3 p.code.n d3)
  replace T1 := T1.set 3 (.slice q3 p.code.n d3)
  replace bF := bF.setCell (p := ⟨w.heap.size + 1, 3, none⟩) (by show w.heap.size ≤ w.heap.size + 1; omega) (.slice q3 p.code.n d3)
  replace T0 := T0.other (a := ⟨w.heap.size + 1, 4, none⟩) (by show w.heap.size ≠ w.heap.size + 1; omega) (.slice q4 p.consts.n d4)
  replace T1 := T1.set 4 (.slice q4 p.consts.n d4)
  replace bF := bF.setCell (p := ⟨w.heap.size + 1, 4, none⟩) (by show w.heap.size ≤ w.heap.size + 1; omega) (.slice q4 p.consts.n d4)
  replace T0 := T0.other (a := ⟨w.heap.size + 1, 5, none⟩) (by show w.heap.size ≠ w.heap.size + 1; omega) (.slice q5 p.ups.n d5)
  replace T1 := T1.set 5 (.slice q5 p.ups.n d5)
  replace bF := bF.setCell (p := ⟨w.heap.size + 1, 5, none⟩) (by show w.heap.size ≤ w.heap.size + 1; omega) (.slice q5 p.ups.n d5)
  replace T0 := T0.other (a := ⟨w.heap.size + 1, 6, none⟩) (by show w.heap.size ≠ w.heap.size + 1; omega) (.int .i64 p.kids)
  replace T1 := T1.set 6 (.int .i64 p.kids)
  replace bF := bF.setCell (p := ⟨w.heap.size + 1, 6, none⟩) (by show w.heap.size ≤ w.heap.size + 1; omega) (.int .i64 p.kids)
  replace T0 := T0.other (a := ⟨w.heap.size + 1, 7, none⟩) (by show w.heap.size ≠ w.heap.size + 1; omega) (.string ⟨#[]⟩)
  replace T1 := T1.set 7 (.string ⟨#[]⟩)
  replace bF := bF.setCell (p := ⟨w.heap.size + 1, 7, none⟩) (by show w.heap.size ≤ w.heap.size + 1; omega) (.string ⟨#[]⟩)
  replace T0 := T0.other (a := ⟨w.heap.size + 1, 8, none⟩) (by show w.heap.size ≠ w.heap.size + 1; omega) (.slice none 0 0)
  replace T1 := T1.set 8 (.slice none 0 0)
  replace bF := bF.setCell (p := ⟨w.heap.size + 1, 8, none⟩) (by show w.heap.size ≤ w.heap.size + 1; omega) (.slice none 0 0)
  replace T0 := T0.other (a := ⟨w.heap.size + 1, 9, none⟩) (by show w.heap.size ≠ w.heap.size + 1; omega) (.slice none 0 0)
  replace T1 := T1.set 9 (.slice none 0 0)
  replace bF := bF.setCell (p := ⟨w.heap.size + 1, 9, none⟩) (by show w.heap.size ≤ w.heap.size + 1; omega) (.slice none 0 0)
  have hkF : ∀ c, c ≠ w.heap.size + 1 → ((((((((((y5.setCell ⟨w.heap.size + 1, 0, none⟩ (.int .i64 p.params)).setCell ⟨w.heap.size + 1, 1, none⟩ (.bool p.vararg)).setCell ⟨w.heap.size + 1, 2, none⟩ (.int .i64 p.regs)).setCell ⟨w.heap.size + 1, 3, none⟩ (.slice q3 p.code.n d3)).setCell ⟨w.heap.size + 1, 4, none⟩ (.slice q4 p.consts.n d4)).setCell ⟨w.heap.size + 1, 5, none⟩ (.slice q5 p.ups.n d5)).setCell ⟨w.heap.size + 1, 6, none⟩ (.int .i64 p.kids)).setCell ⟨w.heap.size + 1, 7, none⟩ (.string ⟨#[]⟩)).setCell ⟨w.heap.size + 1, 8, none⟩ (.slice none 0 0)).setCell ⟨w.heap.size + 1, 9, none⟩ (.slice none 0 0)).heap[c]? = y5.heap[c]? := fun c hc => by rw [Below.heap_setCell _ _ _ _ hc, Below.heap_setCell _ _ _ _ hc, Below.heap_setCell _ _ _ _ hc, Below.heap_setCell _ _ _ _ hc, Below.heap_setCell _ _ _ _ hc, Below.heap_setCell _ _ _ _ hc, Below.heap_setCell _ _ _ _ hc, Below.heap_setCell _ _ _ _ hc, Below.heap_setCell _ _ _ _ hc, Below.heap_setCell _ _ _ _ hc]
  have hsF : ((((((((((y5.setCell ⟨w.heap.size + 1, 0, none⟩ (.int .i64 p.params)).setCell ⟨w.heap.size + 1, 1, none⟩ (.bool p.vararg)).setCell ⟨w.heap.size + 1, 2, none⟩ (.int .i64 p.regs)).setCell ⟨w.heap.size + 1, 3, none⟩ (.slice q3 p.code.n d3)).setCell ⟨w.heap.size + 1, 4, none⟩ (.slice q4 p.consts.n d4)).setCell ⟨w.heap.size + 1, 5, none⟩ (.slice q5 p.ups.n d5)).setCell ⟨w.heap.size + 1, 6, none⟩ (.int .i64 p.kids)).setCell ⟨w.heap.size + 1, 7, none⟩ (.string ⟨#[]⟩)).setCell ⟨w.heap.size + 1, 8, none⟩ (.slice none 0 0)).setCell ⟨w.heap.size + 1, 9, none⟩ (.slice none 0 0)).heap.size = y5.heap.size := by simp
  simp only [List.set] at T1
  generalize ((((((((((y5.setCell ⟨w.heap.size + 1, 0, none⟩ (.int .i64 p.params)).setCell ⟨w.heap.size + 1, 1, none⟩ (.bool p.vararg)).setCell ⟨w.heap.size + 1, 2, none⟩ (.int .i64 p.regs)).setCell ⟨w.heap.size + 1, 3, none⟩ (.slice q3 p.code.n d3)).setCell ⟨w.heap.size + 1, 4, none⟩ (.slice q4 p.consts.n d4)).setCell ⟨w.heap.size + 1, 5, none⟩ (.slice q5 p.ups.n d5)).setCell ⟨w.heap.size + 1, 6, none⟩ (.int .i64 p.kids)).setCell ⟨w.heap.size + 1, 7, none⟩ (.string ⟨#[]⟩)).setCell ⟨w.heap.size + 1, 8, none⟩ (.slice none 0 0)).setCell ⟨w.heap.size + 1, 9, none⟩ (.slice none 0 0)) = wf at T0 T1 bF hkF hsF ⊢
  refine hK.out _ _ ⟨T0.cell 0 rfl, T0.cell 1 rfl, T0.cell 2 rfl, T0.cell 3 rfl, T0.cell 4 rfl, T0.cell 5 rfl, T0.cell 6 rfl⟩ (fun _ => ?_)
  clear hK K z0 z1 z2 z3 z4 z5 z6 z7 z8 z9 z10 z11 z12 z13 z14 z15 z16 z17 z18 z19
  try simp only [Act.put, List.setIfInBounds_toArray, List.set_cons_zero, List.set_cons_succ]
  refine wpAnyH_done (by kernel_rfl) ?_ _
  have e3 := O3.out
  have e4 := O4.out
  have e5 := O5.out
  have l4 := L4.out
  have l5 := L5.out
  have hwx : wx.drew.heap.size = wx.heap.size := rfl
  have sz4 := l4.size
  have sz5 := l5.size
  have hOwn : Hid (OwnProto wf w.heap.size wf.heap.size (.slice q3 p.code.n d3) (.slice q4 p.consts.n d4) (.slice q5 p.ups.n d5) (.slice none 0 0) (.slice none 0 0) B3 B4 B5 0 0 (stripP p)) := by
    refine ⟨?_, ?_, ?_, ⟨none, 0, rfl, by show (0 : Nat) ≤ _; omega, fun h => absurd h (Nat.lt_irrefl 0)⟩, ⟨none, 0, rfl, by show (0 : Nat) ≤ _; omega, fun h => absurd h (Nat.lt_irrefl 0)⟩, ?_, ?_, ?_, fun h => absurd h (Nat.lt_irrefl 0), fun h => absurd h (Nat.lt_irrefl 0), ?_, ?_, fun _ h => absurd h (Nat.lt_irrefl 0), fun _ h => absurd h (Nat.lt_irrefl 0), ?_, fun _ h => absurd h (Nat.lt_irrefl 0), fun _ h => absurd h (Nat.lt_irrefl 0), fun _ h => absurd h (Nat.lt_irrefl 0), fun _ h => absurd h (Nat.lt_irrefl 0), fun h => absurd h (Nat.lt_irrefl 0)⟩
    · refine OwnArr.keep e3.1 fun hp => ?_
      have := e3.2 hp
      rw [hkF _ (by omega), l5.block _ (by omega), l4.block _ (by omega)]
    · refine OwnArr.keep e4.1 fun hp => ?_
      have := e4.2 hp
      have := hy3.size
      rw [hkF _ (by omega), l5.block _ (by omega)]
    · refine OwnArr.keep e5.1 fun hp => ?_
      have := e5.2 hp
      have := hy4.size
      rw [hkF _ (by omega)]
    · intro hp; have := e3.2 hp; omega
    · intro hp; have := e4.2 hp; have := hy3.size; omega
    · intro hp; have := e5.2 hp; have := hy4.size; omega
    · intro h1 h2; have := e3.2 h1; have := e4.2 h2; omega
    · intro h1 h2; have := e3.2 h1; have := e5.2 h2; omega
    · intro h1 h2; have := e4.2 h1; have := e5.2 h2; omega
  clear e3 e4 e5 l4 l5 O3 O4 O5 L3 L4 L5 hk hz k3 k4 k5 hR0 hR1 T0
  go_wp2_with fail
  have o0 := T1.cell 0 rfl
  have o1 := T1.cell 1 rfl
  have o2 := T1.cell 2 rfl
  have o3 := T1.cell 3 rfl
  have o4 := T1.cell 4 rfl
  have o5 := T1.cell 5 rfl
  have o6 := T1.cell 6 rfl
  have o7 := T1.cell 7 rfl
  have o8 := T1.cell 8 rfl
  have o9 := T1.cell 9 rfl
  refine bodyPost_ret (v := .agg #[.int .i64 p.params, .bool p.vararg, .int .i64 p.regs, .slice q3 p.code.n d3, .slice q4 p.consts.n d4, .slice q5 p.ups.n d5, .int .i64 p.kids, .string ⟨#[]⟩, .slice none 0 0, .slice none 0 0]) (by simp [results, Try.results40, go_sem, o0, o1, o2, o3, o4, o5, o6, o7, o8, o9]) rfl ?_
  exact ⟨_, _, _, _, _, _, _, _, _, _, rfl, hOwn.out, bF⟩

end Go.Proofs.Ytndpbdpngniepaa

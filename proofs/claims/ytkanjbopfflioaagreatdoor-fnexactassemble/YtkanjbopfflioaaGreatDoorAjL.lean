import Derived.Test.YtkanjbopfflioaaGreatDoorAjB
import Derived.Test.YtkanjbopfflioaaGreatDoorAtB
import Derived.Test.YtkanjbopfflioaaGreatDoorSgH
namespace Go.Proofs.YtkanjbopfflioaaGreatDoor
open Go.RowKit
set_option linter.unusedVariables false
set_option linter.unusedSimpArgs false
set_option maxRecDepth 100000
set_option maxHeartbeats 2000000
/-- the code and the chunk that both give back. -/
def AsmVal (s : ByteArray) (C : Int) (S : Sl PD) : Prop := (60000 < s.size ∧ C = 1 ∧ S = chunkOf []) ∨ (s.size ≤ 60000 ∧ ∃ R i, AsmR (linesOf s) R i ∧ (R = none → C = (i : Int) + 2 ∧ S = chunkOf []) ∧ ∀ L, R = some L → (¬ Wf (chunkOf L) → C = -1 ∧ S = chunkOf []) ∧ (Wf (chunkOf L) → C = 0 ∧ S = chunkOf L))
theorem AsmVal.det {s : ByteArray} {C D : Int} {S T : Sl PD} (h : AsmVal s C S) (k : AsmVal s D T) : C = D ∧ S = T := by
  rcases h with ⟨h1, h2, h3⟩ | ⟨h1, R, i, h2, h3, h4⟩ <;> rcases k with ⟨k1, k2, k3⟩ | ⟨k1, R', i', k2, k3, k4⟩
  · exact ⟨h2.trans k2.symm, h3.trans k3.symm⟩
  · omega
  · omega
  · obtain ⟨rfl, rfl⟩ := h2.det k2
    cases R with
    | none => exact ⟨(h3 rfl).1.trans (k3 rfl).1.symm, (h3 rfl).2.trans (k3 rfl).2.symm⟩
    | some L =>
      by_cases hw : Wf (chunkOf L)
      · exact ⟨((h4 L rfl).2 hw).1.trans ((k4 L rfl).2 hw).1.symm, ((h4 L rfl).2 hw).2.trans ((k4 L rfl).2 hw).2.symm⟩
      · exact ⟨((h4 L rfl).1 hw).1.trans ((k4 L rfl).1 hw).1.symm, ((h4 L rfl).1 hw).2.trans ((k4 L rfl).1 hw).2.symm⟩
theorem isProtos_nil (w : World) (av : Nat → Prop) : IsProtos av w (.slice none 0 0) (chunkOf []) :=
  ⟨fun _ => undef, fun _ => undef, fun _ => undef, fun _ => undef, fun _ => undef, ⟨none, 0, rfl, Nat.zero_le _, fun h => absurd h (by simp [chunkOf])⟩, fun i hi => absurd hi (by simp [chunkOf])⟩
theorem mine_nil (w : World) : Mine w (.slice none 0 0) (chunkOf []) w.heap.size w.heap.size :=
  ⟨w.heap.size, _, _, _, fun h0 => absurd h0 (by simp [chunkOf]), Nat.le_refl _, Nat.le_refl _, Nat.le_refl _, COwn.nil w _ w.heap.size⟩
theorem small_nil : SmallC (chunkOf []) := ⟨by simp [chunkOf], fun i hi => absurd hi (by simp [chunkOf])⟩
/-- the model's. -/
theorem specAsm_post (s : ByteArray) (w : World) : Calls Tryz.prog 4 #[.string s] w fun e w' => (∃ v C S, AsmVal s C S ∧ e = .returned (.tuple #[.agg #[v], .int .i64 C]) ∧ IsProtos (· < w'.heap.size) w' v S) ∧ Below w.heap.size w w' := by
  by_cases hs : s.size ≤ 60000
  · refine (specAsm_in s hs w).mono fun e w' ⟨hb, R, i, h1, h2, h3⟩ => ⟨?_, hb⟩
    cases R with
    | none => exact ⟨_, _, _, .inr ⟨hs, none, i, h1, fun _ => ⟨rfl, rfl⟩, fun L e => by cases e⟩, h2 rfl, isProtos_nil _ _⟩
    | some L =>
      by_cases hw : Wf (chunkOf L)
      · obtain ⟨v, he, hp⟩ := (h3 L rfl).2 hw
        exact ⟨v, _, _, .inr ⟨hs, some L, i, h1, fun e => (by cases e), fun L' e => by cases e; exact ⟨fun h => absurd hw h, fun _ => ⟨rfl, rfl⟩⟩⟩, he, hp⟩
      · exact ⟨_, _, _, .inr ⟨hs, some L, i, h1, fun e => (by cases e), fun L' e => by cases e; exact ⟨fun _ => ⟨rfl, rfl⟩, fun h => absurd h hw⟩⟩, (h3 L rfl).1 hw, isProtos_nil _ _⟩
  · exact (specAsm_long s (by omega) w).mono fun e w' ⟨he, hb⟩ => ⟨⟨_, _, _, .inl ⟨by omega, rfl, rfl⟩, he, isProtos_nil _ _⟩, hb⟩
/-- the program's. -/
theorem implAsm_post (s : ByteArray) (w : World) (hnm : Named w) (hv : Env w) (mm : Int) (hml : w.cell? ⟨2, 0, none⟩ = some (.int .i64 mm)) :
    Calls Tryz.prog 5 #[.string s] w fun e w' => (∃ v C S lo hi, AsmVal s C S ∧ w.heap.size ≤ lo ∧ e = .returned (.tuple #[.agg #[v], .int .i64 C]) ∧ Mine w' v S lo hi) ∧ Below w.heap.size w w' := by
  by_cases hs : s.size ≤ 60000
  · refine (implAsm_in s hs w hnm hv mm hml).mono fun e w' ⟨hb, R, i, h1, h2, h3⟩ => ⟨?_, hb⟩
    cases R with
    | none => exact ⟨_, _, _, _, _, .inr ⟨hs, none, i, h1, fun _ => ⟨rfl, rfl⟩, fun L e => by cases e⟩, hb.size, h2 rfl, mine_nil _⟩
    | some L =>
      by_cases hw : Wf (chunkOf L)
      · obtain ⟨v, lo, hlo, he, hp⟩ := (h3 L rfl).2 hw
        exact ⟨v, _, _, lo, _, .inr ⟨hs, some L, i, h1, fun e => (by cases e), fun L' e => by cases e; exact ⟨fun h => absurd hw h, fun _ => ⟨rfl, rfl⟩⟩⟩, hlo, he, hp⟩
      · exact ⟨_, _, _, _, _, .inr ⟨hs, some L, i, h1, fun e => (by cases e), fun L' e => by cases e; exact ⟨fun _ => ⟨rfl, rfl⟩, fun h => absurd h hw⟩⟩, hb.size, (h3 L rfl).1 hw, mine_nil _⟩
  · exact (implAsm_long s (by omega) w).mono fun e w' ⟨he, hb⟩ => ⟨⟨_, _, _, _, _, .inl ⟨by omega, rfl, rfl⟩, hb.size, he, mine_nil _⟩, hb⟩
theorem wf_small {S : Sl PD} (h : Wf S) : SmallC S := ⟨Nat.le_trans h.high (by omega), fun i hi => by
  have o := h.each i hi
  have h1 := o.code2
  have h2 := o.consts
  have h3 := o.ups
  have h4 := o.lines
  have h5 := o.upNames
  refine ⟨?_, ?_, ?_, ?_, ?_⟩ <;> omega⟩
theorem AsmVal.small {s : ByteArray} {C : Int} {S : Sl PD} (h : AsmVal s C S) : SmallC S := by
  rcases h with ⟨_, _, h3⟩ | ⟨_, R, i, _, h3, h4⟩
  · rw [h3]; exact small_nil
  · cases R with
    | none => rw [(h3 rfl).2]; exact small_nil
    | some L =>
      by_cases hw : Wf (chunkOf L)
      · rw [((h4 L rfl).2 hw).2]; exact wf_small hw
      · rw [((h4 L rfl).1 hw).2]; exact small_nil
theorem law_long (s : ByteArray) (w : World) (h : 1048576 < (s.size : Int)) :
    Calls Tryz.prog 3 #[.string s] w fun e w' => e = .returned (.bool true) ∧ Below w.heap.size w w' := by
  go_enter Tryz.func3, Tryz.ntmps3
  go_wp2_with fail
  go_ret
  exact ⟨rfl, Below.refl _ _⟩
theorem law_short (s : ByteArray) (hs : s.size ≤ 1048576) (w : World) (hnm : Named w) (hv : Env w) (mm : Int) (hml : w.cell? ⟨2, 0, none⟩ = some (.int .i64 mm)) :
    Calls Tryz.prog 3 #[.string s] w fun e w' => e = .returned (.bool true) ∧ Below w.heap.size w w' := by
  have hLd := hidR (fun (y : World) (hb : Below w.heap.size w y) => implAsm_post s y (hnm.below hb) (hv.below hb) mm ((hb.cell (p := ⟨2, 0, none⟩) (World.block_lt_of_cell? _ _ hml)).trans hml))
  have hsI : ¬ (s.size : Int) > 1048576 := by omega
  have hs1 := hidR (specAsm_post s w)
  clear hnm hv hml
  go_enter Tryz.func3, Tryz.ntmps3
  go_wp2_with fail
  refine Calls.mono hs1.out ?_
  rintro e y1 ⟨⟨vw, C, S, hval, rfl, hw1⟩, b1⟩
  clear hs1
  have hU : ∀ i, i < S.n → TextP (S.f i) := by
    obtain ⟨_, _, _, _, _, _, ht⟩ := hw1
    exact fun i hi => (ht i hi).text
  replace hU := hidR hU
  have hS := hidR hval.small
  obtain ⟨aw, cw, rfl⟩ : ∃ ao cap, vw = .slice ao S.n cap := by
    obtain ⟨_, _, _, _, _, ⟨ao, cap, e, _, _⟩, _⟩ := hw1
    exact ⟨ao, cap, e⟩
  replace hw1 := hidR hw1
  replace hval := hidR hval
  obtain ⟨y2, hy2⟩ : ∃ y2, y1.alloc (.cells #[.slice aw S.n cw] 24) = y2 := ⟨_, rfl⟩
  have b2 : Below y1.heap.size y1 y2 := by rw [← hy2]; exact (Below.refl _ _).alloc (Nat.le_refl _) _
  have RW := RowL.new y1 [.slice aw S.n cw] 24
  replace RW : RowL y2 y1.heap.size 24 [.slice aw S.n cw] := by rw [← hy2]; exact RW
  have hw2 := hidR (hw1.out.later b2)
  have bw2 := b1.trans (b2.mono b1.size)
  replace RW := hidR RW
  have hl2 := hidR (hLd.out y2 bw2)
  clear hw1
  go_wp2_with fail
  refine Calls.mono hl2.out ?_
  rintro e y3 ⟨⟨vg, C3, S3, lo, hi, hval3, hlo, rfl, m3⟩, b3⟩
  obtain ⟨rfl, rfl⟩ := hval3.det hval.out
  clear hl2 hval3
  have hhi3 : hi ≤ y3.heap.size := by obtain ⟨_, _, _, _, _, _, h3, _⟩ := m3; exact h3
  obtain ⟨ag, cg, rfl⟩ := m3.slice
  obtain ⟨y4, hy4⟩ : ∃ y4, y3.alloc (.cells #[.slice ag S3.n cg] 24) = y4 := ⟨_, rfl⟩
  have b4 : Below y3.heap.size y3 y4 := by rw [← hy4]; exact (Below.refl _ _).alloc (Nat.le_refl _) _
  have RG : RowL y4 y3.heap.size 24 [.slice ag S3.n cg] := by rw [← hy4]; exact RowL.new y3 [.slice ag S3.n cg] 24
  have m4 := hidR (m3.call b4)
  have bb4 := b3.trans (b4.mono b3.size)
  have cG := RG.cell 0 rfl
  have cW := (RW.out.call bb4).cell 0 rfl
  have hq4 := hidR (eqChunk_in S3 _ _ y4 (m4.out.is hU.out) (hw2.out.later bb4))
  replace RG := hidR RG
  clear m3
  go_wp2_with fail
  refine Calls.mono hq4.out ?_
  rintro e y5 ⟨rfl, b5⟩
  clear hq4 cG cW
  have RG5 := RG.out.call b5
  have m5 := m4.out.call b5
  have bb5 := bb4.trans (b5.mono bb4.size)
  have cG := RG5.cell 0 rfl
  have hmk := hidR (mark_post S3 _ y5 lo hi m5 hS.out)
  have hhi5 : hi ≤ y5.heap.size := by obtain ⟨_, _, _, _, _, _, h3, _⟩ := m5; exact h3
  replace RG5 := hidR RG5
  clear m4 RG
  go_wp2_with fail
  refine Calls.mono hmk.out ?_
  rintro e y6 ⟨rfl, m6, bt⟩
  clear hmk cG m5
  have RG6 := RowL.btw RG5.out bt (.inr hhi3)
  have bb6 := bb5.trans (bt.below hlo bb5.size)
  have cG := RG6.cell 0 rfl
  have hhd := hidR (held_post S3 _ y6 (m6.out.is fun _ _ => TextP.mark _ _) hS.out)
  have kc : 1 ≤ kAt 1 S3.f S3.n := (kAt_bound (n := S3.n) (f := S3.f) hS.out _ (Nat.le_refl _)).1
  generalize kAt 1 S3.f S3.n = kq at kc hhd ⊢
  have k1 : 0 ≤ kq := by omega
  have k1' : ¬ kq < 0 := by omega
  replace RG6 := hidR RG6
  clear RG5
  go_wp2_with fail
  refine Calls.mono hhd.out ?_
  rintro e y7 ⟨rfl, b7⟩
  clear hhd cG m6 RG6
  have bb7 := bb6.trans (b7.mono bb6.size)
  have bw7 := bw2.trans (bb7.mono bw2.size)
  have hl7 := hidR (hLd.out y7 bw7)
  go_wp2_with fail
  refine Calls.mono hl7.out ?_
  rintro e y8 ⟨⟨vh, C8, S8, lo2, hi2, hval8, -, rfl, m8⟩, b8⟩
  obtain ⟨rfl, rfl⟩ := hval8.det hval.out
  clear hl7 hval8
  obtain ⟨ah, ch, rfl⟩ := m8.slice
  obtain ⟨y9, hy9⟩ : ∃ y9, y8.alloc (.cells #[.slice ah S8.n ch] 24) = y9 := ⟨_, rfl⟩
  have b9 : Below y8.heap.size y8 y9 := by rw [← hy9]; exact (Below.refl _ _).alloc (Nat.le_refl _) _
  have RH : RowL y9 y8.heap.size 24 [.slice ah S8.n ch] := by rw [← hy9]; exact RowL.new y8 [.slice ah S8.n ch] 24
  have bb9 := (bb7.trans (b8.mono bb7.size)).trans (b9.mono (bb7.trans (b8.mono bb7.size)).size)
  have cH := RH.cell 0 rfl
  have cW := (RW.out.call bb9).cell 0 rfl
  have hq9 := hidR (eqChunk_in S8 _ _ y9 ((m8.call b9).is hU.out) (hw2.out.later bb9))
  replace RH := hidR RH
  replace m8 := hidR m8
  go_wp2_with fail
  refine Calls.mono hq9.out ?_
  rintro e ya ⟨rfl, ba⟩
  clear hq9 cH cW
  have bwa := (bw2.trans (bb9.mono bw2.size)).trans (ba.mono (bw2.trans (bb9.mono bw2.size)).size)
  go_wp2_with fail
  go_ret
  exact ⟨rfl, bwa⟩
/-- the law. -/
theorem asm_law (s : ByteArray) (hz : s.size ≤ 9223372036854775807) (w : World) (hnm : Named w) (hv : Env w) (mm : Int) (hml : w.cell? ⟨2, 0, none⟩ = some (.int .i64 mm)) :
    Calls Tryz.prog 3 #[.string s] w fun e w' => e = .returned (.bool true) ∧ Below w.heap.size w w' := by
  by_cases h : s.size ≤ 1048576
  · exact law_short s h w hnm hv mm hml
  · exact law_long s w (by omega)
end Go.Proofs.YtkanjbopfflioaaGreatDoor

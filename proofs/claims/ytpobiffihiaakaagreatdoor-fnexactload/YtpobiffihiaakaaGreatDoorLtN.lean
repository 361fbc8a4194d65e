import Derived.Test.YtpobiffihiaakaaGreatDoorLtM
import Derived.Test.YtpobiffihiaakaaGreatDoorSgH
namespace Go.Proofs.YtpobiffihiaakaaGreatDoor
open Go.RowKit
set_option linter.unusedVariables false
set_option linter.unusedSimpArgs false
set_option maxRecDepth 100000
set_option maxHeartbeats 2000000
/-- what the model's Load gives back. -/
def SpOk (s : ByteArray) (V : Nat → Option (Int × Nat)) : Prop := ∀ w, Calls Tryz.prog 4 #[.string s] w fun e w' =>
  (∃ v, e = .returned (.tuple #[.agg #[v], .int .i64 (rdCode s V)]) ∧ IsProtos (· < w'.heap.size) w' v (ldS s V)) ∧ Below w.heap.size w w'
theorem law_long (s : ByteArray) (w : World) (h : 1048576 < (s.size : Int)) :
    Calls Tryz.prog 3 #[.string s] w fun e w' => e = .returned (.bool true) ∧ Below w.heap.size w w' := by
  go_enter Tryz.func3, Tryz.ntmps3
  go_wp2_with fail
  go_ret
  exact ⟨rfl, Below.refl _ _⟩
theorem law_short (s : ByteArray) (V : Nat → Option (Int × Nat)) (hV : VrOk s V) (hsp : SpOk s V) (hs : s.size ≤ 1048576) (w : World) (hE : ErrT w) :
    Calls Tryz.prog 3 #[.string s] w fun e w' => e = .returned (.bool true) ∧ Below w.heap.size w w' := by
  have hU := hidR (ldS_text s V hs)
  have hS := hidR (ldS_small s V hV hs)
  have hLd := hidR (fun y hy => load_post s V hV hs y hy)
  have hsI : ¬ (s.size : Int) > 1048576 := by omega
  have hs1 := hidR (hsp w)
  replace hE := hidR hE
  clear hsp
  go_enter Tryz.func3, Tryz.ntmps3
  go_wp2_with fail
  refine Calls.mono hs1.out ?_
  rintro e y1 ⟨⟨vw, rfl, hw1⟩, b1⟩
  clear hs1
  obtain ⟨aw, cw, rfl⟩ : ∃ ao cap, vw = .slice ao (ldS s V).n cap := by
    obtain ⟨_, _, _, _, _, ⟨ao, cap, e, _, _⟩, _⟩ := hw1
    exact ⟨ao, cap, e⟩
  obtain ⟨S, hSe⟩ : ∃ S, ldS s V = S := ⟨_, rfl⟩
  rw [hSe] at hU hS hLd hw1 ⊢
  obtain ⟨C, hCe⟩ : ∃ C, rdCode s V = C := ⟨_, rfl⟩
  rw [hCe] at hLd ⊢
  replace hw1 := hidR hw1
  obtain ⟨y2, hy2⟩ : ∃ y2, y1.alloc (.cells #[.slice aw S.n cw] 24) = y2 := ⟨_, rfl⟩
  have b2 : Below y1.heap.size y1 y2 := by rw [← hy2]; exact (Below.refl _ _).alloc (Nat.le_refl _) _
  have RW := RowL.new y1 [.slice aw S.n cw] 24
  replace RW : RowL y2 y1.heap.size 24 [.slice aw S.n cw] := by rw [← hy2]; exact RW
  have hw2 := hidR (hw1.out.later b2)
  have bw2 := b1.trans (b2.mono b1.size)
  replace RW := hidR RW
  have hl2 := hidR (hLd.out y2 (hE.out.below bw2))
  clear hw1 hSe hCe
  go_wp2_with fail
  refine Calls.mono hl2.out ?_
  rintro e y3 ⟨⟨vg, lo, hi, hlo, rfl, m3⟩, b3⟩
  clear hl2
  have hhi3 : hi ≤ y3.heap.size := by obtain ⟨_, _, _, _, _, _, h3, _⟩ := m3; exact h3
  obtain ⟨ag, cg, rfl⟩ := m3.slice
  obtain ⟨y4, hy4⟩ : ∃ y4, y3.alloc (.cells #[.slice ag S.n cg] 24) = y4 := ⟨_, rfl⟩
  have b4 : Below y3.heap.size y3 y4 := by rw [← hy4]; exact (Below.refl _ _).alloc (Nat.le_refl _) _
  have RG : RowL y4 y3.heap.size 24 [.slice ag S.n cg] := by rw [← hy4]; exact RowL.new y3 [.slice ag S.n cg] 24
  have m4 := hidR (m3.call b4)
  have bb4 := b3.trans (b4.mono b3.size)
  have cG := RG.cell 0 rfl
  have cW := (RW.out.call bb4).cell 0 rfl
  have hq4 := hidR (eqChunk_in S _ _ y4 (m4.out.is hU.out) (hw2.out.later bb4))
  replace RG := hidR RG
  clear m3
  go_wp2_with fail
  refine Calls.mono hq4.out ?_
  rintro e y5 ⟨rfl, b5⟩
  clear hq4 cG cW
  have RG5 := RG.out.call b5
  have m5 := m4.out.call b5
  have bb5 := bb4.trans (b5.mono bb4.size)
  have cG := RG5.cell 0 rfl
  have hmk := hidR (mark_post S _ y5 lo hi m5 hS.out)
  have hhi5 : hi ≤ y5.heap.size := by obtain ⟨_, _, _, _, _, _, h3, _⟩ := m5; exact h3
  replace RG5 := hidR RG5
  clear m4 RG
  go_wp2_with fail
  refine Calls.mono hmk.out ?_
  rintro e y6 ⟨rfl, m6, bt⟩
  clear hmk cG m5
  have RG6 := RowL.btw RG5.out bt (.inr hhi3)
  have bb6 := bb5.trans (bt.below hlo bb5.size)
  have cG := RG6.cell 0 rfl
  have hhd := hidR (held_post S _ y6 (m6.out.is fun _ _ => TextP.mark _ _) hS.out)
  have kc : 1 ≤ kAt 1 S.f S.n := (kAt_bound (n := S.n) (f := S.f) hS.out _ (Nat.le_refl _)).1
  generalize kAt 1 S.f S.n = kq at kc hhd ⊢
  have k1 : 0 ≤ kq := by omega
  have k1' : ¬ kq < 0 := by omega
  replace RG6 := hidR RG6
  clear RG5
  go_wp2_with fail
  refine Calls.mono hhd.out ?_
  rintro e y7 ⟨rfl, b7⟩
  clear hhd cG m6 RG6
  have bb7 := bb6.trans (b7.mono bb6.size)
  have bw7 := bw2.trans (bb7.mono bw2.size)
  have hl7 := hidR (hLd.out y7 (hE.out.below bw7))
  go_wp2_with fail
  refine Calls.mono hl7.out ?_
  rintro e y8 ⟨⟨vh, lo2, hi2, -, rfl, m8⟩, b8⟩
  clear hl7
  obtain ⟨ah, ch, rfl⟩ := m8.slice
  obtain ⟨y9, hy9⟩ : ∃ y9, y8.alloc (.cells #[.slice ah S.n ch] 24) = y9 := ⟨_, rfl⟩
  have b9 : Below y8.heap.size y8 y9 := by rw [← hy9]; exact (Below.refl _ _).alloc (Nat.le_refl _) _
  have RH : RowL y9 y8.heap.size 24 [.slice ah S.n ch] := by rw [← hy9]; exact RowL.new y8 [.slice ah S.n ch] 24
  have bb9 := (bb7.trans (b8.mono bb7.size)).trans (b9.mono (bb7.trans (b8.mono bb7.size)).size)
  have cH := RH.cell 0 rfl
  have cW := (RW.out.call bb9).cell 0 rfl
  have hq9 := hidR (eqChunk_in S _ _ y9 ((m8.call b9).is hU.out) (hw2.out.later bb9))
  replace RH := hidR RH
  replace m8 := hidR m8
  go_wp2_with fail
  refine Calls.mono hq9.out ?_
  rintro e ya ⟨rfl, ba⟩
  clear hq9 cH cW
  have bwa := (bw2.trans (bb9.mono bw2.size)).trans (ba.mono (bw2.trans (bb9.mono bw2.size)).size)
  go_wp2_with fail
  go_ret
  exact ⟨rfl, bwa⟩
/-- the law, where the model's Load is as SpOk says. -/
theorem load_law (s : ByteArray) (hz : s.size ≤ 9223372036854775807) (w : World) (hE : ErrT w) (hsp : s.size ≤ 1048576 → ∀ V, VrOk s V → SpOk s V) :
    Calls Tryz.prog 3 #[.string s] w fun e w' => e = .returned (.bool true) ∧ Below w.heap.size w w' := by
  by_cases h : s.size ≤ 1048576
  · obtain ⟨V, hV⟩ := vrOk_any s h
    exact law_short s V hV (hsp h V hV) h w hE
  · exact law_long s w (by omega)
end Go.Proofs.YtpobiffihiaakaaGreatDoor

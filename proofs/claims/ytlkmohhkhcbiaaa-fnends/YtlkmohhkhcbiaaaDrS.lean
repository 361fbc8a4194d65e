import Derived.Test.YtlkmohhkhcbiaaaDrL
import Derived.Test.YtlkmohhkhcbiaaaDrP0
import Derived.Test.YtlkmohhkhcbiaaaDrP4
import Derived.Test.YtlkmohhkhcbiaaaDrP6
import Derived.Test.YtlkmohhkhcbiaaaDrP11
import Derived.Test.YtlkmohhkhcbiaaaDrP17
import Derived.Test.YtlkmohhkhcbiaaaDrP5
namespace Go.Proofs.Ytlkmohhkhcbiaaa
open Go.RowKit Go.Shelf
set_option linter.unusedVariables false
set_option linter.unusedSimpArgs false
/-- however it is spoilt. -/
theorem spoil_in (c : Sl Int) (P : Nat) (PS : List PD) (hP : P ≤ 3000) (hl : PS.length ≤ 10) (h0 : 0 < PS.length) (hSm : ∀ x ∈ PS, Sm x) : SpoilA c P PS := by
  have hb := tk_bd c P 20
  have h1 := hb.1
  have h2 := hb.2 (by omega)
  by_cases e0 : tk c P 20 = 0
  · exact spoil0 c P PS hP hl h0 hSm e0
  by_cases e1 : tk c P 20 = 1
  · exact spoil1 c P PS hP hl h0 hSm e1
  by_cases e2 : tk c P 20 = 2
  · exact spoil2 c P PS hP hl h0 hSm e2
  by_cases e3 : tk c P 20 = 3
  · exact spoil3 c P PS hP hl h0 hSm e3
  by_cases e4 : tk c P 20 = 4
  · exact spoil4 c P PS hP hl h0 hSm e4
  by_cases e5 : tk c P 20 = 5
  · exact spoil5 c P PS hP hl h0 hSm e5
  by_cases e6 : tk c P 20 = 6
  · exact spoil6 c P PS hP hl h0 hSm e6
  by_cases e7 : tk c P 20 = 7
  · exact spoil7 c P PS hP hl h0 hSm e7
  by_cases e8 : tk c P 20 = 8
  · exact spoil8 c P PS hP hl h0 hSm e8
  by_cases e9 : tk c P 20 = 9
  · exact spoil9 c P PS hP hl h0 hSm e9
  by_cases e10 : tk c P 20 = 10
  · exact spoil10 c P PS hP hl h0 hSm e10
  by_cases e11 : tk c P 20 = 11
  · exact spoil11 c P PS hP hl h0 hSm e11
  by_cases e12 : tk c P 20 = 12
  · exact spoil12 c P PS hP hl h0 hSm e12
  by_cases e13 : tk c P 20 = 13
  · exact spoil13 c P PS hP hl h0 hSm e13
  by_cases e14 : tk c P 20 = 14
  · exact spoil14 c P PS hP hl h0 hSm e14
  by_cases e15 : tk c P 20 = 15
  · exact spoil15 c P PS hP hl h0 hSm e15
  by_cases e16 : tk c P 20 = 16
  · exact spoil16 c P PS hP hl h0 hSm e16
  by_cases e17 : tk c P 20 = 17
  · exact spoil17 c P PS hP hl h0 hSm e17
  by_cases e18 : tk c P 20 = 18
  · exact spoil18 c P PS hP hl h0 hSm e18
  by_cases e19 : tk c P 20 = 19
  · exact spoil19 c P PS hP hl h0 hSm e19
  omega
set_option maxRecDepth 100000 in
set_option maxHeartbeats 2000000 in
/-- the chunk and the number that are drawn. -/
theorem drawEnd (c : Sl Int) : ∃ (PS : List PD) (i : Int), ∀ w v, IsCode w v c → Calls Try.prog 4 #[v] w fun e w' => ∃ u, e = .returned (.tuple #[.agg #[u], .int .i64 i]) ∧ Below w.heap.size w w' ∧ IsProtos (fun b => w.heap.size ≤ b ∧ b < w'.heap.size) w' u (slOf PS) := by
  obtain ⟨PS, P, hP, hl, h0, hSm, hD⟩ := drawChunk c
  obtain ⟨PS', hS⟩ := spoil_in c P PS hP hl h0 hSm
  obtain ⟨how, hhow⟩ : ∃ t, tk c 0 10 = t := ⟨_, rfl⟩
  have hb1 := tk_bd c 0 10
  rw [hhow] at hb1
  have h1 := hb1.1
  have h2 := hb1.2 (by omega)
  obtain ⟨i, hi⟩ : ∃ t, tk c P ((PS.length : Int) + 2) = t := ⟨_, rfl⟩
  have hb2 := tk_bd c P ((PS.length : Int) + 2)
  rw [hi] at hb2
  have h3 := hb2.1
  have h4 := hb2.2 (by omega)
  clear hb1 hb2
  replace hhow : Hid (tk c 0 10 = how) := hhow
  replace hi : Hid (tk c P ((PS.length : Int) + 2) = i) := hi
  replace hD : Hid _ := hD
  replace hS : Hid _ := hS
  by_cases h9 : how = 9
  · subst h9
    refine ⟨PS', i, fun w v hC => ?_⟩
    obtain ⟨ao, cap, rfl⟩ := hC.form
    have hsm := hC.small
    have hB0 : Below w.heap.size w (w.alloc (.cells #[.slice none 0 0] 25)) := (Below.refl _ _).alloc (Nat.le_refl _) _
    have hC0 := hC.later hB0
    have hcall := hD.out _ _ hC0
    have hr0 := RowL.new w [.slice none 0 0] 25
    have hsz : (w.alloc (.cells #[.slice none 0 0] 25)).heap.size = w.heap.size + 1 := World.size_alloc _ _
    replace hC0 : Hid (IsCode (w.alloc (.cells #[.slice none 0 0] 25)) (.slice ao c.n cap) c) := hC0
    replace hcall : Hid _ := hcall
    replace hr0 : Hid (RowL (w.alloc (.cells #[.slice none 0 0] 25)) w.heap.size 25 [.slice none 0 0]) := hr0
    replace hsz : Hid _ := hsz
    go_enter Try.func4, Try.ntmps4
    go_wp2_with fail
    refine (l1Take_to c _ 0 0 10 _ rfl hC0.out (by omega) (by omega) hhow.out).mono ?_
    rintro e w' ⟨rfl, rfl⟩
    go_wp2_with fail
    refine Calls.mono hcall.out ?_
    rintro e y1 ⟨u, rfl, b1, hu⟩
    obtain ⟨au, cu, rfl⟩ : ∃ a b, u = .slice a PS.length b := by obtain ⟨_, _, _, _, _, ⟨a, b, h, _⟩, _⟩ := hu; exact ⟨a, b, h⟩
    rw [hsz.out] at hu
    have hb1 := b1.size
    rw [hsz.out] at hb1
    have hB1 : Below y1.heap.size y1 (y1.alloc (.cells #[.slice au PS.length cu] 25)) := (Below.refl _ _).alloc (Nat.le_refl _) _
    have hs1 : (y1.alloc (.cells #[.slice au PS.length cu] 25)).heap.size = y1.heap.size + 1 := World.size_alloc _ _
    have hu1 : IsProtos (fun b => w.heap.size + 1 ≤ b ∧ b < y1.heap.size) (y1.alloc (.cells #[.slice au PS.length cu] 25)) (.slice au PS.length cu) (slOf PS) := hu.keep fun b hb => hB1.block b hb.2
    have hC1 := (hC0.out.later b1).later hB1
    have hr1 := (hr0.out.call b1).call hB1
    have hbw1 : Below w.heap.size w (y1.alloc (.cells #[.slice au PS.length cu] 25)) := (hB0.trans (b1.mono (by rw [hsz.out]; omega))).trans (hB1.mono (by omega))
    replace hC1 : Hid (IsCode (y1.alloc (.cells #[.slice au PS.length cu] 25)) (.slice ao c.n cap) c) := hC1
    replace hs1 : Hid _ := hs1
    have hcall2 := hS.out _ _ _ _ (fun b hb => by rw [hs1.out]; omega) hC1.out hu1
    replace hcall2 : Hid _ := hcall2
    clear hu hu1
    go_wp2_with fail
    refine (l1Take_to c _ P (P : Int) ((PS.length : Int) + 2) _ rfl hC1.out (by omega) (by omega) hi.out).mono ?_
    rintro e w' ⟨rfl, rfl⟩
    go_wp2_with fail
    refine Calls.mono hcall2.out ?_
    rintro e y2 ⟨u2, rfl, b2, hu2⟩
    obtain ⟨a2, n2, c2, rfl⟩ : ∃ a n b, u2 = .slice a n b := by obtain ⟨_, _, _, _, _, ⟨a, b, h, _⟩, _⟩ := hu2; exact ⟨a, _, b, h⟩
    have hr2 := hr1.call b2
    have q0 := hr2.cell 0 rfl
    have f0 := hr2.frozen 0
    have hfin := (hr2.set 0 (.slice a2 n2 c2)).cell 0 rfl
    have hbb : Below w.heap.size w (y2.setCell ⟨w.heap.size, 0, none⟩ (.slice a2 n2 c2)) := (hbw1.trans (b2.mono hbw1.size)).setCell (p := ⟨w.heap.size, 0, none⟩) (Nat.le_refl _) _
    have hb2 := b2.size
    rw [hs1.out] at hu2 hb2
    replace hu2 : Hid _ := hu2
    go_wp2_with fail
    refine bodyPost_ret (v := .tuple #[.agg #[.slice a2 n2 c2], .int .i64 i]) (by simp [results, Try.results4, go_sem, hfin]) rfl ⟨_, rfl, hbb, ?_⟩
    refine (IsProtos.keep hu2.out fun b hb => Below.heap_setCell _ _ _ _ ?_).mono fun b hb => ⟨?_, ?_⟩
    · show b ≠ w.heap.size
      omega
    · omega
    · rw [World.size_setCell]
      omega
  · have h9' : (how == 9) = false := by simp; omega
    refine ⟨PS, i - 1, fun w v hC => ?_⟩
    obtain ⟨ao, cap, rfl⟩ := hC.form
    have hsm := hC.small
    have hB0 : Below w.heap.size w (w.alloc (.cells #[.slice none 0 0] 25)) := (Below.refl _ _).alloc (Nat.le_refl _) _
    have hC0 := hC.later hB0
    have hcall := hD.out _ _ hC0
    have hr0 := RowL.new w [.slice none 0 0] 25
    have hsz : (w.alloc (.cells #[.slice none 0 0] 25)).heap.size = w.heap.size + 1 := World.size_alloc _ _
    replace hC0 : Hid (IsCode (w.alloc (.cells #[.slice none 0 0] 25)) (.slice ao c.n cap) c) := hC0
    replace hcall : Hid _ := hcall
    replace hr0 : Hid (RowL (w.alloc (.cells #[.slice none 0 0] 25)) w.heap.size 25 [.slice none 0 0]) := hr0
    replace hsz : Hid _ := hsz
    go_enter Try.func4, Try.ntmps4
    go_wp2_with fail
    refine (l1Take_to c _ 0 0 10 _ rfl hC0.out (by omega) (by omega) hhow.out).mono ?_
    rintro e w' ⟨rfl, rfl⟩
    go_wp2_with fail
    refine Calls.mono hcall.out ?_
    rintro e y1 ⟨u, rfl, b1, hu⟩
    obtain ⟨au, cu, rfl⟩ : ∃ a b, u = .slice a PS.length b := by obtain ⟨_, _, _, _, _, ⟨a, b, h, _⟩, _⟩ := hu; exact ⟨a, b, h⟩
    rw [hsz.out] at hu
    have hb1 := b1.size
    rw [hsz.out] at hb1
    have hB1 : Below y1.heap.size y1 (y1.alloc (.cells #[.slice au PS.length cu] 25)) := (Below.refl _ _).alloc (Nat.le_refl _) _
    have hs1 : (y1.alloc (.cells #[.slice au PS.length cu] 25)).heap.size = y1.heap.size + 1 := World.size_alloc _ _
    have hu1 : IsProtos (fun b => w.heap.size + 1 ≤ b ∧ b < y1.heap.size) (y1.alloc (.cells #[.slice au PS.length cu] 25)) (.slice au PS.length cu) (slOf PS) := hu.keep fun b hb => hB1.block b hb.2
    have hC1 := (hC0.out.later b1).later hB1
    have hr1 := (hr0.out.call b1).call hB1
    have hbw1 : Below w.heap.size w (y1.alloc (.cells #[.slice au PS.length cu] 25)) := (hB0.trans (b1.mono (by rw [hsz.out]; omega))).trans (hB1.mono (by omega))
    replace hC1 : Hid (IsCode (y1.alloc (.cells #[.slice au PS.length cu] 25)) (.slice ao c.n cap) c) := hC1
    replace hs1 : Hid _ := hs1
    have hwi : IntKind.i64.wrap (i - 1) = i - 1 := by simp [IntKind.wrap, IntKind.bits, IntKind.signed]; omega
    have q0 := hr1.cell 0 rfl
    have f0 := hr1.frozen 0
    have hfin := (hr1.set 0 (.slice au PS.length cu)).cell 0 rfl
    have hbb : Below w.heap.size w ((y1.alloc (.cells #[.slice au PS.length cu] 25)).setCell ⟨w.heap.size, 0, none⟩ (.slice au PS.length cu)) := hbw1.setCell (p := ⟨w.heap.size, 0, none⟩) (Nat.le_refl _) _
    replace hu1 : Hid (IsProtos (fun b => w.heap.size + 1 ≤ b ∧ b < y1.heap.size) (y1.alloc (.cells #[.slice au PS.length cu] 25)) (.slice au PS.length cu) (slOf PS)) := hu1
    clear hu
    go_wp2_with fail
    refine (l1Take_to c _ P (P : Int) ((PS.length : Int) + 2) _ rfl hC1.out (by omega) (by omega) hi.out).mono ?_
    rintro e w' ⟨rfl, rfl⟩
    go_wp2_with fail
    refine bodyPost_ret (v := .tuple #[.agg #[.slice au PS.length cu], .int .i64 (i - 1)]) (by simp [results, Try.results4, go_sem, hfin]) rfl ⟨_, rfl, hbb, ?_⟩
    refine (hu1.out.keep fun b hb => Below.heap_setCell _ _ _ _ ?_).mono fun b hb => ⟨?_, ?_⟩
    · show b ≠ w.heap.size
      omega
    · omega
    · rw [World.size_setCell, hs1.out]
      omega
end Go.Proofs.Ytlkmohhkhcbiaaa

import Derived.Test.YtlkmohhkhcbiaaaDrS
import Derived.Test.YtlkmohhkhcbiaaaChT
namespace Go.Proofs.Ytlkmohhkhcbiaaa
open Go.RowKit Go.Shelf
set_option linter.unusedVariables false
set_option linter.unusedSimpArgs false
/-- what End says of a number that is there. -/
theorem EndD.yes {s : Sl PD} {i r : Int} (h : EndD s i r) (h0 : 0 ≤ r) : Wf s ∧ ∃ k e g : Nat, k < s.n ∧ i = (k : Int) ∧ r = (e : Int) ∧ Fo (kidsOf s) s.n 1 k e g := by
  rcases h with ⟨w, k, hk, rfl, rfl⟩ | ⟨rfl, -⟩
  · obtain ⟨g0, t, -⟩ := w.tree
    obtain ⟨e, g, t'⟩ := t.within k (by omega) hk
    exact ⟨w, k, e, g, hk, rfl, by rw [EE_eq t'], t'⟩
  · omega
theorem EndD.eq {s : Sl PD} (w : Wf s) {k e g : Nat} (t : Fo (kidsOf s) s.n 1 k e g) {r : Int} (h : EndD s (k : Int) r) : r = (e : Int) := by
  have hk : k < s.n := by obtain ⟨_, _, h1, _⟩ := t.one; exact h1
  exact h.det (.inl ⟨w, k, hk, rfl, by rw [EE_eq t]⟩)
set_option maxRecDepth 100000 in
set_option maxHeartbeats 4000000 in
theorem ends_law (c : Sl Int) (v : Value) (w : World) (hC : IsCode w v c) :
    Calls Try.prog 3 #[v] w fun e w' => e = .returned (.bool true) ∧ Below w.heap.size w w' := by
  obtain ⟨PS, i, hD⟩ := drawEnd c
  obtain ⟨ao, cap, rfl⟩ := hC.form
  have hsm := hC.small
  have hcall1 : Hid _ := hD w _ hC
  replace hD : Hid _ := hD
  replace hC : Hid (IsCode w (.slice ao c.n cap) c) := hC
  obtain ⟨s, hs⟩ : ∃ s, slOf PS = s := ⟨_, rfl⟩
  go_enter Try.func3, Try.ntmps3
  go_wp2_with fail
  refine Calls.mono hcall1.out ?_
  rintro e y1 ⟨u1, rfl, b1, hu1⟩
  rw [hs] at hu1
  obtain ⟨a1, c1, rfl⟩ : ∃ a b, u1 = .slice a s.n b := by obtain ⟨_, _, _, _, _, ⟨a, b, h, _⟩, _⟩ := hu1; exact ⟨a, b, h⟩
  have hB1 : Below y1.heap.size y1 (y1.alloc (.cells #[.slice a1 s.n c1] 25)) := (Below.refl _ _).alloc (Nat.le_refl _) _
  have hr1 := RowL.new y1 [.slice a1 s.n c1] 25
  have hcall2 : Hid _ := hD.out _ _ ((hC.out.later b1).later hB1)
  have hv1 : IsProtos (· < y1.heap.size) y1 (.slice a1 s.n c1) s := hu1.mono fun b hb => hb.2
  have hv1a := hv1.later hB1
  replace hv1a : Hid (IsProtos (· < (y1.alloc (.cells #[.slice a1 s.n c1] 25)).heap.size) (y1.alloc (.cells #[.slice a1 s.n c1] 25)) (.slice a1 s.n c1) s) := hv1a
  replace hr1 : Hid (RowL (y1.alloc (.cells #[.slice a1 s.n c1] 25)) y1.heap.size 25 [.slice a1 s.n c1]) := hr1
  clear hcall1 hu1 hv1 hD
  go_wp2_with fail
  refine Calls.mono hcall2.out ?_
  rintro e y2 ⟨u2, rfl, b2, hu2⟩
  rw [hs] at hu2
  obtain ⟨a2, c2, rfl⟩ : ∃ a b, u2 = .slice a s.n b := by obtain ⟨_, _, _, _, _, ⟨a, b, h, _⟩, _⟩ := hu2; exact ⟨a, b, h⟩
  have hB2 : Below y2.heap.size y2 (y2.alloc (.cells #[.slice a2 s.n c2] 25)) := (Below.refl _ _).alloc (Nat.le_refl _) _
  have hr2 := RowL.new y2 [.slice a2 s.n c2] 25
  have hr1b := (hr1.out.call b2).call hB2
  have hv2 : IsProtos (· < (y2.alloc (.cells #[.slice a2 s.n c2] 25)).heap.size) (y2.alloc (.cells #[.slice a2 s.n c2] 25)) (.slice a2 s.n c2) s := (hu2.mono fun b hb => hb.2).later hB2
  have hv1b := (hv1a.out.later b2).later hB2
  have hE : Hid _ := specEnd_in s (.slice a2 s.n c2) i _ hv2
  have hbw : Below w.heap.size w (y2.alloc (.cells #[.slice a2 s.n c2] 25)) := ((b1.trans (hB1.mono b1.size)).trans (b2.mono (by have := b1.size; have := hB1.size; omega))).trans (hB2.mono (by have := b1.size; have := hB1.size; have := b2.size; omega))
  clear hcall2 hu2 hv1a hr1
  go_wp2_with fail
  refine Calls.mono hE.out ?_
  rintro e y3 ⟨⟨r, rfl, hr⟩, b3⟩
  have hr1c := hr1b.call b3
  have hr2c := hr2.call b3
  have hv1c := hv1b.later b3
  have hv2c := hv2.later b3
  have hE1 : Hid _ := implEnd_in s (.slice a1 s.n c1) i _ hv1c
  have q1 := hr1c.cell 0 rfl
  have hbw3 := hbw.trans (b3.mono hbw.size)
  clear hE hv1b hv2 hr1b hr2 hB1 hB2 b1 b2 hbw b3
  go_wp2_with fail
  refine Calls.mono hE1.out ?_
  rintro e y4 ⟨⟨r', rfl, hr'⟩, b4⟩
  obtain rfl := hr.det hr'
  have hr1d := hr1c.call b4
  have hr2d := hr2c.call b4
  have hv1d := hv1c.later b4
  have hv2d := hv2c.later b4
  have hbw4 := hbw3.trans (b4.mono hbw3.size)
  clear hE1 hv1c hv2c hr1c hr2c hbw3 b4 q1 hr'
  by_cases hneg : r < 0
  · go_wp2_with fail
    go_ret
    exact ⟨rfl, hbw4⟩
  · obtain ⟨hwf, k0, e0, g0, hk0, rfl, rfl, t0⟩ := hr.yes (by omega)
    obtain ⟨g1, -, hkn, hkk, t1⟩ := t0.one
    obtain ⟨b, o, rfl, hb, hkc⟩ := hv2d.kids (by omega)
    have hkc0 := hkc k0 hk0
    obtain ⟨m, hm⟩ : ∃ m : Nat, kidsOf s k0 = (m : Int) := Int.eq_ofNat_of_zero_le hkk
    rw [hm] at hkc0
    rw [hm, Int.toNat_natCast] at t1
    have hsn : s.n ≤ 200 := hwf.high
    have ht0 := t0.le
    have hL0 : Hid (Below y4.heap.size y4 y4 ∧ ∃ g, Fo (kidsOf s) s.n (m - 0) (k0 + 1) e0 g) := ⟨Below.refl _ _, g1, t1⟩
    replace hr1d : Hid (RowL y4 y1.heap.size 25 [.slice a1 s.n c1]) := hr1d
    replace hr2d : Hid (RowL y4 y2.heap.size 25 [.slice (some ⟨b, o, none⟩) s.n c2]) := hr2d
    replace hv1d : Hid (IsProtos (· < y4.heap.size) y4 (.slice a1 s.n c1) s) := hv1d
    replace hbw4 : Hid (Below w.heap.size w y4) := hbw4
    replace hkc0 : Hid (y4.cell? ⟨b, o + k0 * 10 + 6, none⟩ = some (.int .i64 (m : Int))) := hkc0
    replace hwf : Hid (Wf s) := hwf
    clear hr t0 t1 hkc hv2d hkk hm hs
    have hmb : m ≤ 200 := by obtain ⟨g, t⟩ := hL0.out.2; have := t.le; have := ht0.2 (by omega); omega
    have hnr : ¬ ((e0 : Int) < 0) := by omega
    go_wp2_with fail
    go_loopw [8, 9, 10] (fun av kv nv wr => ∃ a k : Nat, av = .int .i64 (a : Int) ∧ kv = .int .i64 (k : Int) ∧ k ≤ m ∧ a ≤ 300 ∧ Hid (Below y4.heap.size y4 wr ∧ ∃ g, Fo (kidsOf s) s.n (m - k) a e0 g))
      (fun _ kv _ _ => m - (intOf kv).toNat)
    case atStart => exact ⟨k0 + 1, 0, by simp, rfl, by omega, by omega, hL0.out⟩
    case round =>
      obtain ⟨a, k, rfl, rfl, hkm, ha, hT⟩ := hrel
      obtain ⟨wz, hwz⟩ : ∃ x, x = wr := ⟨_, rfl⟩
      subst hwz
      obtain ⟨hbz, g, t⟩ := hT.out
      have q2 := (hr2d.out.call hbz).cell 0 rfl
      have q6 := (hbz.cell (p := ⟨b, o + k0 * 10 + 6, none⟩) hb).trans hkc0.out
      by_cases hlt : k < m
      · have hii : (k : Int) < (m : Int) := by omega
        obtain ⟨e, h1, h2, t1, t2, -⟩ := Fo.split 1 (m - (k + 1)) (show Fo (kidsOf s) s.n (1 + (m - (k + 1))) a e0 g by rw [show 1 + (m - (k + 1)) = m - k by omega]; exact t)
        have hle := t1.le
        have hel := hle.2 (by omega)
        have q1 := (hr1d.out.call hbz).cell 0 rfl
        have hE2 : Hid _ := implEnd_in s (.slice a1 s.n c1) (a : Int) _ (hv1d.out.later hbz)
        have hle1 := hle.1
        replace t1 : Hid _ := t1
        replace t2 : Hid _ := t2
        clear hL0 hT t hle
        go_wp2_with fail
        refine Calls.mono hE2.out ?_
        rintro e' y5 ⟨⟨r', rfl, hr'⟩, b5⟩
        obtain rfl := EndD.eq hwf.out t1.out hr'
        have hT1 : Hid (Below y4.heap.size y4 y5 ∧ ∃ g, Fo (kidsOf s) s.n (m - (k + 1)) e e0 g) := ⟨hbz.trans (b5.mono hbz.size), h2, t2.out⟩
        have hgt : ¬ ((e : Int) ≤ (a : Int)) := by omega
        clear hE2 hr' q1 q2 q6
        go_wp2_with fail
        go_roundw
        case rel => exact ⟨e, k + 1, rfl, by go_num, by omega, by omega, hT1.out⟩
        case measure => simp [intOf]; omega
      · obtain rfl : k = m := by omega
        have ea : a = e0 := by rw [Nat.sub_self] at t; cases t; rfl
        subst ea
        clear hL0 hT t
        go_wp2_with fail
        go_ret
        exact ⟨rfl, hbw4.out.trans (hbz.mono hbw4.out.size)⟩
/-- a text that is too long. -/
theorem ends_long (ao : Option Addr) (n cap : Nat) (w : World) (hn : 1048576 < n) (hm : n ≤ 9223372036854775807) :
    Calls Try.prog 3 #[.slice ao n cap] w fun e w' => e = .returned (.bool true) ∧ Below w.heap.size w w' := by
  have hI : (1048576 : Int) < (n : Int) := by omega
  go_enter Try.func3, Try.ntmps3
  go_wp2_with fail
  go_ret
  exact ⟨rfl, Below.refl _ _⟩
end Go.Proofs.Ytlkmohhkhcbiaaa

import Derived.Test.YtckapapejfnojaaGreatDoorChIV
import Derived.Test.YtckapapejfnojaaGreatDoorChJ00V
import Derived.Test.YtckapapejfnojaaGreatDoorChJ01V
import Derived.Test.YtckapapejfnojaaGreatDoorChJ10V
import Derived.Test.YtckapapejfnojaaGreatDoorChJ11V
namespace Go.Proofs.YtckapapejfnojaaGreatDoor
open Go.RowKit
set_option linter.unusedVariables false
set_option linter.unusedSimpArgs false
theorem l2ProtoOk_in (p : PD) (a3 a4 a5 a8 a9 : Value) (w : World) (hp : IsProto (· < w.heap.size) w a3 a4 a5 a8 a9 p) :
    Calls Tryz.prog 69 #[pAgg p a3 a4 a5 a8 a9] w fun e w' => Says e (ProtoOk p) ∧ Below w.heap.size w w' := by
  by_cases c0 : p.regs < 1 ∨ 250 < p.regs ∨ p.params < 0 ∨ p.regs < p.params ∨ p.code.n < 1
  · exact l2ProtoOk_no0 p a3 a4 a5 a8 a9 w hp c0
  by_cases c1 : 2000 < p.code.n ∨ 500 < p.consts.n ∨ 60 < p.ups.n ∨ 1000 < p.name.size
  · exact l2ProtoOk_no1 p a3 a4 a5 a8 a9 w hp (by omega) (by omega) (by omega) (by omega) (by omega) c1
  by_cases l1 : 0 < p.lines.n
  · by_cases l2 : (p.lines.n : Int) = (p.code.n : Int)
    · by_cases u1 : 0 < p.upNames.n
      · by_cases u2 : (p.upNames.n : Int) = (p.ups.n : Int)
        · exact l2ProtoOk_yes11 p a3 a4 a5 a8 a9 w hp (by omega) (by omega) (by omega) (by omega) (by omega) (by omega) (by omega) (by omega) (by omega) l1 l2 u1 u2
        · exact l2ProtoOk_no3 p a3 a4 a5 a8 a9 w hp (by omega) (by omega) (by omega) (by omega) (by omega) (by omega) (by omega) (by omega) (by omega) l1 l2 u1 u2
      · exact l2ProtoOk_yes10 p a3 a4 a5 a8 a9 w hp (by omega) (by omega) (by omega) (by omega) (by omega) (by omega) (by omega) (by omega) (by omega) l1 l2 u1
    · exact l2ProtoOk_no2 p a3 a4 a5 a8 a9 w hp (by omega) (by omega) (by omega) (by omega) (by omega) (by omega) (by omega) (by omega) (by omega) l1 l2
  · by_cases u1 : 0 < p.upNames.n
    · by_cases u2 : (p.upNames.n : Int) = (p.ups.n : Int)
      · exact l2ProtoOk_yes01 p a3 a4 a5 a8 a9 w hp (by omega) (by omega) (by omega) (by omega) (by omega) (by omega) (by omega) (by omega) (by omega) l1 u1 u2
      · exact l2ProtoOk_no4 p a3 a4 a5 a8 a9 w hp (by omega) (by omega) (by omega) (by omega) (by omega) (by omega) (by omega) (by omega) (by omega) l1 u1 u2
    · exact l2ProtoOk_yes00 p a3 a4 a5 a8 a9 w hp (by omega) (by omega) (by omega) (by omega) (by omega) (by omega) (by omega) (by omega) (by omega) l1 u1

def kidsOf (s : Sl PD) (i : Nat) : Int := (s.f i).kids
/-- a well-formed chunk. -/
structure Wf (s : Sl PD) : Prop where
  low : 1 ≤ s.n
  high : s.n ≤ 200
  tree : ∃ h, Fo (kidsOf s) s.n 1 0 s.n h ∧ h ≤ 64
  each : ∀ i, i < s.n → ProtoOk (s.f i)

theorem IsProtos.kids {av : Nat → Prop} {w : World} {ao : Option Addr} {cap : Nat} {s : Sl PD} (h : IsProtos av w (.slice ao s.n cap) s) : 0 < s.n → ∃ b o, ao = some ⟨b, o, none⟩ ∧ av b ∧ ∀ i, i < s.n → w.cell? ⟨b, o + i * 10 + 6, none⟩ = some (.int .i64 (kidsOf s i)) := by
  obtain ⟨a3, a4, a5, a8, a9, ⟨ao', cap', he, hn, hc⟩, ht⟩ := h
  intro hp
  simp only [Value.slice.injEq] at he
  obtain ⟨rfl, _, rfl⟩ := he
  obtain ⟨b, o, rfl, hb, hcc⟩ := hc hp
  exact ⟨b, o, rfl, hb, fun i hi => hcc i hi 6 (by omega)⟩

set_option maxRecDepth 100000 in
set_option maxHeartbeats 2000000 in
theorem specWF_in (s : Sl PD) (v : Value) (w : World) (hv : IsProtos (· < w.heap.size) w v s) :
    Calls Tryz.prog 29 #[.agg #[v]] w fun e w' => Says e (Wf s) ∧ Below w.heap.size w w' := by
  have hv' := hv
  obtain ⟨a3, a4, a5, a8, a9, ⟨ao, cap, rfl, hn, hc⟩, ht⟩ := hv
  have hkids := hv'.kids
  by_cases h1 : s.n < 1
  · clear hc ht hkids hv'
    go_enter Tryz.func29, Tryz.ntmps29
    go_wp2_with fail
    go_ret
    exact ⟨Says.no rfl (fun h => by have := h.low; omega), by go_grown⟩
  by_cases h2 : 200 < s.n
  · clear hc ht hkids hv'
    go_enter Tryz.func29, Tryz.ntmps29
    go_wp2_with fail
    go_ret
    exact ⟨Says.no rfl (fun h => by have := h.high; omega), by go_grown⟩
  have R0 := RowL.new w [.slice ao s.n cap] 24
  have bw : Below w.heap.size w (w.alloc (.cells #[.slice ao s.n cap] 24)) := by go_grown
  have hk : 0 < s.n → ∃ b o, ao = some ⟨b, o, none⟩ ∧ ∀ i, i < s.n → (w.alloc (.cells #[.slice ao s.n cap] 24)).cell? ⟨b, o + i * 10 + 6, none⟩ = some (.int .i64 (kidsOf s i)) := fun hp => by
    obtain ⟨b, o, e, hb, hcc⟩ := hkids hp
    exact ⟨b, o, e, fun i hi => (bw.cell (p := ⟨b, _, none⟩) hb).trans (hcc i hi)⟩
  have hE := l2End_in ao s.n cap (kidsOf s) _ hn hk s.n 0 0 (by omega) (by omega) (by omega)
  clear hk hkids
  have hc' : Hid (0 < s.n → ∃ b o, ao = some ⟨b, o, none⟩ ∧ b < w.heap.size ∧ ∀ i, i < s.n → ∀ j, j < 10 → w.cell? ⟨b, o + i * 10 + j, none⟩ = some (pC s.f a3 a4 a5 a8 a9 i j)) := hc
  have ht' : Hid (∀ i, i < s.n → IsProto (· < w.heap.size) w (a3 i) (a4 i) (a5 i) (a8 i) (a9 i) (s.f i)) := ht
  clear hc ht hv'
  go_enter Tryz.func29, Tryz.ntmps29
  go_wp2_with fail
  generalize w.alloc (.cells #[.slice ao s.n cap] 24) = wx at R0 bw hE ⊢
  refine hE.mono ?_
  rintro e w1 ⟨⟨r, rfl, hr⟩, rfl⟩
  have r0 := R0.cell 0 rfl
  by_cases hrn : r = (s.n : Int)
  rotate_left
  · have hno : Hid (¬ Wf s) := fun h => by
      obtain ⟨g, t, hg⟩ := h.tree
      rcases hr with ⟨e', h', t', hh, rfl⟩ | ⟨rfl, hno⟩
      · exact hrn (by rw [(t.det t').1])
      · have := hno _ _ t
        omega
    clear hr
    have hne : (r != (s.n : Int)) = true := by simpa using hrn
    go_wp2_with fail
    go_ret
    exact ⟨Says.no rfl hno.out, bw⟩
  have htree : Hid (∃ h, Fo (kidsOf s) s.n 1 0 s.n h ∧ h ≤ 64) := by
    subst hrn
    rcases hr with ⟨e', h', t', hh, he⟩ | ⟨he, _⟩
    · obtain rfl : s.n = e' := by omega
      exact ⟨h', t', by omega⟩
    · omega
  clear hr
  subst hrn
  go_wp2_with fail
  go_loopw [4] (fun i wr => ∃ (i' : Nat), i = .int .i64 i' ∧ i' ≤ s.n ∧ Below wx.heap.size wx wr ∧ Hid (∀ j, j < i' → ProtoOk (s.f j))) (fun i _ => s.n - (intOf i).toNat)
  case atStart => exact ⟨0, rfl, by omega, Below.refl _ _, fun j hj => by omega⟩
  case round =>
    obtain ⟨i', rfl, q1, q2, q3⟩ := hrel
    have r0 := (R0.call q2).cell 0 rfl
    have q4 := bw.trans (q2.mono bw.size)
    by_cases hi : i' < s.n
    · obtain ⟨b, o, rfl, hb, hcc⟩ := hc'.out (by omega)
      have c0 := hcc i' hi 0 (by omega)
      have c1 := hcc i' hi 1 (by omega)
      have c2 := hcc i' hi 2 (by omega)
      have c3 := hcc i' hi 3 (by omega)
      have c4 := hcc i' hi 4 (by omega)
      have c5 := hcc i' hi 5 (by omega)
      have c6 := hcc i' hi 6 (by omega)
      have c7 := hcc i' hi 7 (by omega)
      have c8 := hcc i' hi 8 (by omega)
      have c9 := hcc i' hi 9 (by omega)
      rw [← q4.cell (p := ⟨b, _, none⟩) hb] at c0 c1 c2 c3 c4 c5 c6 c7 c8 c9
      simp only [Nat.add_zero, pC] at c0 c1 c2 c3 c4 c5 c6 c7 c8 c9
      have hti : IsProto (· < wr.heap.size) wr (a3 i') (a4 i') (a5 i') (a8 i') (a9 i') (s.f i') := (ht'.out i' hi).later q4
      clear hcc hc' ht'
      go_wp2_with fail
      refine (l2ProtoOk_in (s.f i') (a3 i') (a4 i') (a5 i') (a8 i') (a9 i') _ hti).mono ?_
      rintro e w1 ⟨⟨r, rfl, hr⟩, b1⟩
      have hb1 : Below wx.heap.size wx w1 := q2.trans (b1.mono q2.size)
      clear c0 c1 c2 c3 c4 c5 c6 c7 c8 c9 r0
      cases r with
      | false =>
        have hno : Hid (¬ Wf s) := fun h => by simpa using hr.2 (h.each i' hi)
        clear hr
        go_wp2_with fail
        go_ret
        exact ⟨Says.no rfl hno.out, bw.trans (hb1.mono bw.size)⟩
      | true =>
        have q5 : Hid (∀ j, j < i' + 1 → ProtoOk (s.f j)) := fun j hj => by
          by_cases hji : j = i'
          · subst hji; exact hr.1 rfl
          · exact q3.out j (by omega)
        clear hr q3
        go_wp2_with fail
        go_roundw
        case rel => exact ⟨i' + 1, rfl, by omega, hb1, q5⟩
        case measure => simp [intOf]; omega
    · have z1 : Hid (∀ j, j < s.n → ProtoOk (s.f j)) := fun j hj => q3.out j (by omega)
      clear q3
      go_wp2_with fail
      go_ret
      exact ⟨Says.yes rfl ⟨by omega, by omega, htree.out, z1.out⟩, q4⟩
end Go.Proofs.YtckapapejfnojaaGreatDoor

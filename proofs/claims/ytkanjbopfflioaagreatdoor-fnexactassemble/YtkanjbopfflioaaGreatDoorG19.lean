import Derived.Test.YtkanjbopfflioaaGreatDoorG16
namespace Go.Proofs.YtkanjbopfflioaaGreatDoor
section
open Go.RowKit
set_option linter.unusedVariables false
set_option linter.unusedSimpArgs false

/-- a call that answers whether P. -/
def Says (e : Ending) (P : Prop) : Prop := ∃ r, e = .returned (.bool r) ∧ (r = true ↔ P)
theorem Says.yes {P : Prop} {v : Value} (hv : v = .bool true) (h : P) : Says (.returned v) P := ⟨true, by rw [hv], by simp [h]⟩
theorem Says.no {P : Prop} {v : Value} (hv : v = .bool false) (h : ¬ P) : Says (.returned v) P := ⟨false, by rw [hv], by simp [h]⟩
theorem Says.of {P : Prop} {v : Value} {r : Bool} (hv : v = .bool r) (h : r = true ↔ P) : Says (.returned v) P := ⟨r, by rw [hv], h⟩

/-- a plain value. -/
def Plain (d : VD) : Prop :=
  (d.kind = 0 ∧ d.num = 0 ∧ d.text.size = 0) ∨ (d.kind = 1 ∧ (d.num = 0 ∨ d.num = 1) ∧ d.text.size = 0) ∨ (d.kind = 2 ∧ d.text.size = 0) ∨ (d.kind = 3 ∧ d.num = 0 ∧ d.text.size ≤ 1000)
def NumOk (x : Int) : Prop := 0 ≤ x ∧ x ≤ 16777215
/-- what is asked of a prototype for itself. -/
structure ProtoOk (p : PD) : Prop where
  regs1 : 1 ≤ p.regs
  regs2 : p.regs ≤ 250
  par1 : 0 ≤ p.params
  par2 : p.params ≤ p.regs
  code1 : 1 ≤ p.code.n
  code2 : p.code.n ≤ 2000
  consts : p.consts.n ≤ 500
  ups : p.ups.n ≤ 60
  name : p.name.size ≤ 1000
  lines : p.lines.n = 0 ∨ p.lines.n = p.code.n
  upNames : p.upNames.n = 0 ∨ p.upNames.n = p.ups.n
  allConsts : ∀ i, i < p.consts.n → Plain (p.consts.f i)
  allUps : ∀ i, i < p.ups.n → NumOk (p.ups.f i).index
  allLines : ∀ i, i < p.lines.n → NumOk (p.lines.f i)
  allUpNames : ∀ i, i < p.upNames.n → (p.upNames.f i).size ≤ 1000

theorem l2Plain_in (d : VD) (w : World) :
    Calls Tryz.prog 67 #[.agg #[.int .i64 d.kind, .int .i64 d.num, .string d.text]] w fun e w' => Says e (Plain d) ∧ Below w.heap.size w w' := by
  by_cases h3 : d.kind = 3
  · have h1 : d.kind ≠ 1 := by omega
    by_cases h2 : d.num = 0
    · by_cases h4 : d.text.size ≤ 1000
      · go_enter Tryz.func67, Tryz.ntmps67
        go_wp2_with fail
        go_ret
        exact ⟨Says.yes (by first | rfl | (simp; omega)) (by unfold Plain; omega), by go_grown⟩
      · go_enter Tryz.func67, Tryz.ntmps67
        go_wp2_with fail
        go_ret
        exact ⟨Says.no (by first | rfl | (simp; omega)) (by unfold Plain; omega), by go_grown⟩
    · go_enter Tryz.func67, Tryz.ntmps67
      go_wp2_with fail
      go_ret
      exact ⟨Says.no (by first | rfl | (simp; omega)) (by unfold Plain; omega), by go_grown⟩
  · by_cases ht : 0 < d.text.size
    · go_enter Tryz.func67, Tryz.ntmps67
      go_wp2_with fail
      go_ret
      exact ⟨Says.no (by first | rfl | (simp; omega)) (by unfold Plain; omega), by go_grown⟩
    · by_cases h1 : d.kind = 1
      · by_cases h2 : d.num = 0
        · go_enter Tryz.func67, Tryz.ntmps67
          go_wp2_with fail
          go_ret
          exact ⟨Says.yes (by first | rfl | (simp; omega)) (by unfold Plain; omega), by go_grown⟩
        · by_cases h4 : d.num = 1
          · go_enter Tryz.func67, Tryz.ntmps67
            go_wp2_with fail
            go_ret
            exact ⟨Says.yes (by first | rfl | (simp; omega)) (by unfold Plain; omega), by go_grown⟩
          · go_enter Tryz.func67, Tryz.ntmps67
            go_wp2_with fail
            go_ret
            exact ⟨Says.no (by first | rfl | (simp; omega)) (by unfold Plain; omega), by go_grown⟩
      · by_cases h2 : d.kind = 2
        · go_enter Tryz.func67, Tryz.ntmps67
          go_wp2_with fail
          go_ret
          exact ⟨Says.yes (by first | rfl | (simp; omega)) (by unfold Plain; omega), by go_grown⟩
        · by_cases h0 : d.kind = 0
          · by_cases h4 : d.num = 0
            · go_enter Tryz.func67, Tryz.ntmps67
              go_wp2_with fail
              go_ret
              exact ⟨Says.yes (by first | rfl | (simp; omega)) (by unfold Plain; omega), by go_grown⟩
            · go_enter Tryz.func67, Tryz.ntmps67
              go_wp2_with fail
              go_ret
              exact ⟨Says.no (by first | rfl | (simp; omega)) (by unfold Plain; omega), by go_grown⟩
          · go_enter Tryz.func67, Tryz.ntmps67
            go_wp2_with fail
            go_ret
            exact ⟨Says.no (by first | rfl | (simp; omega)) (by unfold Plain; omega), by go_grown⟩

theorem l2NumOk_in (x : Int) (w : World) :
    Calls Tryz.prog 68 #[.int .i64 x] w fun e w' => Says e (NumOk x) ∧ Below w.heap.size w w' := by
  by_cases h1 : 0 ≤ x
  · by_cases h2 : x ≤ 16777215
    · go_enter Tryz.func68, Tryz.ntmps68
      go_wp2_with fail
      go_ret
      exact ⟨Says.yes (by first | rfl | (simp; omega)) ⟨h1, h2⟩, by go_grown⟩
    · go_enter Tryz.func68, Tryz.ntmps68
      go_wp2_with fail
      go_ret
      exact ⟨Says.no (by first | rfl | (simp; omega)) (by unfold NumOk; omega), by go_grown⟩
  · go_enter Tryz.func68, Tryz.ntmps68
    go_wp2_with fail
    go_ret
    exact ⟨Says.no (by first | rfl | (simp; omega)) (by unfold NumOk; omega), by go_grown⟩

theorem l2End_in (ao : Option Addr) (n cap : Nat) (K : Nat → Int) (w : World) (hn : n ≤ 9223372036854775807)
    (hc : 0 < n → ∃ b o, ao = some ⟨b, o, none⟩ ∧ ∀ i, i < n → w.cell? ⟨b, o + i * 10 + 6, none⟩ = some (.int .i64 (K i))) (m : Nat) :
    ∀ (i a : Nat), n - i ≤ m → i ≤ n → a ≤ 64 → Calls Tryz.prog 24 #[.slice ao n cap, .int .i64 (i : Int), .int .i64 (a : Int)] w fun e w' => (∃ r, e = .returned (.int .i64 r) ∧ EndIs K n i a r) ∧ w = w' := by
  induction m with
  | zero =>
    intro i a hm hin ha
    have hi : (n : Int) ≤ (i : Int) := by omega
    go_enter Tryz.func24, Tryz.ntmps24
    go_wp2_with fail
    go_ret
    exact ⟨⟨_, rfl, EndIs.none (.inl (by omega))⟩, rfl⟩
  | succ m ih =>
    intro i a hm hin ha
    by_cases hi : n ≤ i
    · have hi' : (n : Int) ≤ (i : Int) := by omega
      clear ih
      go_enter Tryz.func24, Tryz.ntmps24
      go_wp2_with fail
      go_ret
      exact ⟨⟨_, rfl, EndIs.none (.inl hi)⟩, rfl⟩
    · have hi' : (i : Int) < (n : Int) := by omega
      by_cases h64 : 64 ≤ a
      · have h64' : (64 : Int) ≤ (a : Int) := by omega
        clear ih
        go_enter Tryz.func24, Tryz.ntmps24
        go_wp2_with fail
        go_ret
        exact ⟨⟨_, rfl, EndIs.none (.inr (.inl h64))⟩, rfl⟩
      · obtain ⟨b, o, rfl, hcc⟩ := hc (by omega)
        have c6 := hcc i (by omega)
        by_cases hk : K i < 0
        · clear ih hcc hc
          go_enter Tryz.func24, Tryz.ntmps24
          go_wp2_with fail
          go_ret
          exact ⟨⟨_, rfl, EndIs.none (.inr (.inr hk))⟩, rfl⟩
        · have ih' := fun i a h1 h2 h3 => ih i a h1 h2 h3
          clear ih hcc hc
          go_enter Tryz.func24, Tryz.ntmps24
          go_wp2_with fail
          go_loopw [7, 8] (fun v k wr => ∃ (r : Int) (k' : Nat), v = .int .i64 r ∧ k = .int .i64 k' ∧ w = wr ∧ k' ≤ n ∧ (k' : Int) ≤ K i ∧ Hid (KidsIs K n i a k' r)) (fun _ k _ => n - (intOf k).toNat)
          case atStart => exact ⟨_, 0, rfl, rfl, rfl, by omega, by omega, KidsIs.start (by omega)⟩
          case round =>
            obtain ⟨r, k, rfl, rfl, rfl, hkn, hki, hK⟩ := hrel
            by_cases hkk : (k : Int) < K i
            · by_cases hr : 0 ≤ r
              · obtain ⟨e, h, t, hh, rfl⟩ | ⟨rfl, -⟩ := hK.out
                · have hle := t.le
                  have hen : e ≤ n := by
                    by_cases hk0 : 0 < k
                    · exact hle.2 hk0
                    · obtain rfl : k = 0 := by omega
                      cases t
                      omega
                  have hkn' : k < n := by omega
                  have hie : i + 1 ≤ e := by omega
                  have t' : Hid (Fo K n k (i + 1) e h) := t
                  clear t hle
                  go_wp2_with fail
                  refine (ih' e (a + 1) (by omega) hen (by omega)).mono ?_
                  rintro e' w1 ⟨⟨r, rfl, hr'⟩, rfl⟩
                  have hnew : Hid (KidsIs K n i a (k + 1) r) := KidsIs.step t'.out hh hkk hr'
                  clear hr' t' hK
                  go_wp2_with fail
                  go_roundw
                  case rel => exact ⟨r, k + 1, rfl, rfl, by first | trivial | rfl, by omega, by omega, hnew⟩
                  case measure => simp [intOf]; omega
                · omega
              · have hf : Hid (EndIs K n i a r) := KidsIs.done (by omega) (by omega) hK.out (.inl (by omega))
                clear hK ih'
                go_wp2_with fail
                go_ret
                exact ⟨⟨_, rfl, hf.out⟩, rfl⟩
            · have hf : Hid (EndIs K n i a r) := KidsIs.done (by omega) (by omega) hK.out (.inr (by omega))
              clear hK ih'
              go_wp2_with fail
              go_ret
              exact ⟨⟨_, rfl, hf.out⟩, rfl⟩
end
section
open Go.RowKit
set_option linter.unusedVariables false
set_option linter.unusedSimpArgs false

set_option maxRecDepth 100000 in
set_option maxHeartbeats 8000000 in
theorem l2ProtoOk_no0 (p : PD) (a3 a4 a5 a8 a9 : Value) (w : World) (hp : IsProto (· < w.heap.size) w a3 a4 a5 a8 a9 p) (hno : p.regs < 1 ∨ 250 < p.regs ∨ p.params < 0 ∨ p.regs < p.params ∨ p.code.n < 1) :
    Calls Tryz.prog 25 #[pAgg p a3 a4 a5 a8 a9] w fun e w' => Says e (ProtoOk p) ∧ Below w.heap.size w w' := by
  obtain ⟨p3, p4, p5, p8, p9, -⟩ := hp
  obtain ⟨o3, c3, rfl, n3, -⟩ := p3
  obtain ⟨o5, c5, rfl, n5, k5⟩ := p5
  obtain ⟨o8, c8, rfl, n8, k8⟩ := p8
  obtain ⟨⟨o4, c4, rfl, n4, k4⟩, -⟩ := p4
  obtain ⟨⟨o9, c9, rfl, n9, k9⟩, -⟩ := p9
  unfold pAgg
  clear k4 k5 k8 k9
  by_cases g0 : p.regs < 1
  · clear hno
    go_enter Tryz.func25, Tryz.ntmps25
    go_wp2_with fail
    go_ret
    exact ⟨Says.no rfl (fun h => by have := h.regs1; omega), by go_grown⟩
  by_cases g1 : 250 < p.regs
  · clear hno
    go_enter Tryz.func25, Tryz.ntmps25
    go_wp2_with fail
    go_ret
    exact ⟨Says.no rfl (fun h => by have := h.regs2; omega), by go_grown⟩
  by_cases g2 : p.params < 0
  · clear hno
    go_enter Tryz.func25, Tryz.ntmps25
    go_wp2_with fail
    go_ret
    exact ⟨Says.no rfl (fun h => by have := h.par1; omega), by go_grown⟩
  by_cases g3 : p.regs < p.params
  · clear hno
    go_enter Tryz.func25, Tryz.ntmps25
    go_wp2_with fail
    go_ret
    exact ⟨Says.no rfl (fun h => by have := h.par2; omega), by go_grown⟩
  by_cases g4 : p.code.n < 1
  · clear hno
    go_enter Tryz.func25, Tryz.ntmps25
    go_wp2_with fail
    go_ret
    exact ⟨Says.no rfl (fun h => by have := h.code1; omega), by go_grown⟩
  omega

set_option maxRecDepth 100000 in
set_option maxHeartbeats 8000000 in
theorem l2ProtoOk_no1 (p : PD) (a3 a4 a5 a8 a9 : Value) (w : World) (hp : IsProto (· < w.heap.size) w a3 a4 a5 a8 a9 p) (g0 : ¬ p.regs < 1) (g1 : ¬ 250 < p.regs) (g2 : ¬ p.params < 0) (g3 : ¬ p.regs < p.params) (g4 : ¬ p.code.n < 1) (hno : 2000 < p.code.n ∨ 500 < p.consts.n ∨ 60 < p.ups.n ∨ 1000 < p.name.size) :
    Calls Tryz.prog 25 #[pAgg p a3 a4 a5 a8 a9] w fun e w' => Says e (ProtoOk p) ∧ Below w.heap.size w w' := by
  obtain ⟨p3, p4, p5, p8, p9, -⟩ := hp
  obtain ⟨o3, c3, rfl, n3, -⟩ := p3
  obtain ⟨o5, c5, rfl, n5, k5⟩ := p5
  obtain ⟨o8, c8, rfl, n8, k8⟩ := p8
  obtain ⟨⟨o4, c4, rfl, n4, k4⟩, -⟩ := p4
  obtain ⟨⟨o9, c9, rfl, n9, k9⟩, -⟩ := p9
  unfold pAgg
  clear k4 k5 k8 k9
  by_cases g5 : 2000 < p.code.n
  · clear hno
    go_enter Tryz.func25, Tryz.ntmps25
    go_wp2_with fail
    go_ret
    exact ⟨Says.no rfl (fun h => by have := h.code2; omega), by go_grown⟩
  by_cases g6 : 500 < p.consts.n
  · clear hno
    go_enter Tryz.func25, Tryz.ntmps25
    go_wp2_with fail
    go_ret
    exact ⟨Says.no rfl (fun h => by have := h.consts; omega), by go_grown⟩
  by_cases g7 : 60 < p.ups.n
  · clear hno
    go_enter Tryz.func25, Tryz.ntmps25
    go_wp2_with fail
    go_ret
    exact ⟨Says.no rfl (fun h => by have := h.ups; omega), by go_grown⟩
  by_cases g8 : 1000 < p.name.size
  · clear hno
    go_enter Tryz.func25, Tryz.ntmps25
    go_wp2_with fail
    go_ret
    exact ⟨Says.no rfl (fun h => by have := h.name; omega), by go_grown⟩
  omega

set_option maxRecDepth 100000 in
set_option maxHeartbeats 8000000 in
theorem l2ProtoOk_no2 (p : PD) (a3 a4 a5 a8 a9 : Value) (w : World) (hp : IsProto (· < w.heap.size) w a3 a4 a5 a8 a9 p) (g0 : ¬ p.regs < 1) (g1 : ¬ 250 < p.regs) (g2 : ¬ p.params < 0) (g3 : ¬ p.regs < p.params) (g4 : ¬ p.code.n < 1) (g5 : ¬ 2000 < p.code.n) (g6 : ¬ 500 < p.consts.n) (g7 : ¬ 60 < p.ups.n) (g8 : ¬ 1000 < p.name.size) (gl1 : 0 < p.lines.n) (gl2 : ¬ (p.lines.n : Int) = (p.code.n : Int)) :
    Calls Tryz.prog 25 #[pAgg p a3 a4 a5 a8 a9] w fun e w' => Says e (ProtoOk p) ∧ Below w.heap.size w w' := by
  obtain ⟨p3, p4, p5, p8, p9, -⟩ := hp
  obtain ⟨o3, c3, rfl, n3, -⟩ := p3
  obtain ⟨o5, c5, rfl, n5, k5⟩ := p5
  obtain ⟨o8, c8, rfl, n8, k8⟩ := p8
  obtain ⟨⟨o4, c4, rfl, n4, k4⟩, -⟩ := p4
  obtain ⟨⟨o9, c9, rfl, n9, k9⟩, -⟩ := p9
  unfold pAgg
  clear k4 k5 k8 k9
  go_enter Tryz.func25, Tryz.ntmps25
  go_wp2_with fail
  go_ret
  exact ⟨Says.no rfl (fun h => by have := h.lines; omega), by go_grown⟩

set_option maxRecDepth 100000 in
set_option maxHeartbeats 8000000 in
theorem l2ProtoOk_no3 (p : PD) (a3 a4 a5 a8 a9 : Value) (w : World) (hp : IsProto (· < w.heap.size) w a3 a4 a5 a8 a9 p) (g0 : ¬ p.regs < 1) (g1 : ¬ 250 < p.regs) (g2 : ¬ p.params < 0) (g3 : ¬ p.regs < p.params) (g4 : ¬ p.code.n < 1) (g5 : ¬ 2000 < p.code.n) (g6 : ¬ 500 < p.consts.n) (g7 : ¬ 60 < p.ups.n) (g8 : ¬ 1000 < p.name.size) (gl1 : 0 < p.lines.n) (gl2 : (p.lines.n : Int) = (p.code.n : Int)) (gu1 : 0 < p.upNames.n) (gu2 : ¬ (p.upNames.n : Int) = (p.ups.n : Int)) :
    Calls Tryz.prog 25 #[pAgg p a3 a4 a5 a8 a9] w fun e w' => Says e (ProtoOk p) ∧ Below w.heap.size w w' := by
  obtain ⟨p3, p4, p5, p8, p9, -⟩ := hp
  obtain ⟨o3, c3, rfl, n3, -⟩ := p3
  obtain ⟨o5, c5, rfl, n5, k5⟩ := p5
  obtain ⟨o8, c8, rfl, n8, k8⟩ := p8
  obtain ⟨⟨o4, c4, rfl, n4, k4⟩, -⟩ := p4
  obtain ⟨⟨o9, c9, rfl, n9, k9⟩, -⟩ := p9
  unfold pAgg
  clear k4 k5 k8 k9
  go_enter Tryz.func25, Tryz.ntmps25
  go_wp2_with fail
  go_ret
  exact ⟨Says.no rfl (fun h => by have := h.upNames; omega), by go_grown⟩

set_option maxRecDepth 100000 in
set_option maxHeartbeats 8000000 in
theorem l2ProtoOk_no4 (p : PD) (a3 a4 a5 a8 a9 : Value) (w : World) (hp : IsProto (· < w.heap.size) w a3 a4 a5 a8 a9 p) (g0 : ¬ p.regs < 1) (g1 : ¬ 250 < p.regs) (g2 : ¬ p.params < 0) (g3 : ¬ p.regs < p.params) (g4 : ¬ p.code.n < 1) (g5 : ¬ 2000 < p.code.n) (g6 : ¬ 500 < p.consts.n) (g7 : ¬ 60 < p.ups.n) (g8 : ¬ 1000 < p.name.size) (gl1 : ¬ 0 < p.lines.n) (gu1 : 0 < p.upNames.n) (gu2 : ¬ (p.upNames.n : Int) = (p.ups.n : Int)) :
    Calls Tryz.prog 25 #[pAgg p a3 a4 a5 a8 a9] w fun e w' => Says e (ProtoOk p) ∧ Below w.heap.size w w' := by
  obtain ⟨p3, p4, p5, p8, p9, -⟩ := hp
  obtain ⟨o3, c3, rfl, n3, -⟩ := p3
  obtain ⟨o5, c5, rfl, n5, k5⟩ := p5
  obtain ⟨o8, c8, rfl, n8, k8⟩ := p8
  obtain ⟨⟨o4, c4, rfl, n4, k4⟩, -⟩ := p4
  obtain ⟨⟨o9, c9, rfl, n9, k9⟩, -⟩ := p9
  unfold pAgg
  clear k4 k5 k8 k9
  go_enter Tryz.func25, Tryz.ntmps25
  go_wp2_with fail
  go_ret
  exact ⟨Says.no rfl (fun h => by have := h.upNames; omega), by go_grown⟩
end
section
open Go.RowKit
set_option linter.unusedVariables false
set_option linter.unusedSimpArgs false

set_option maxRecDepth 100000 in
set_option maxHeartbeats 8000000 in
theorem l2ProtoOk_yes00 (p : PD) (a3 a4 a5 a8 a9 : Value) (w : World) (hp : IsProto (· < w.heap.size) w a3 a4 a5 a8 a9 p) (g0 : ¬ p.regs < 1) (g1 : ¬ 250 < p.regs) (g2 : ¬ p.params < 0) (g3 : ¬ p.regs < p.params) (g4 : ¬ p.code.n < 1) (g5 : ¬ 2000 < p.code.n) (g6 : ¬ 500 < p.consts.n) (g7 : ¬ 60 < p.ups.n) (g8 : ¬ 1000 < p.name.size) (gl1 : ¬ 0 < p.lines.n) (gu1 : ¬ 0 < p.upNames.n) :
    Calls Tryz.prog 25 #[pAgg p a3 a4 a5 a8 a9] w fun e w' => Says e (ProtoOk p) ∧ Below w.heap.size w w' := by
  obtain ⟨p3, p4, p5, p8, p9, -⟩ := hp
  obtain ⟨o3, c3, rfl, n3, -⟩ := p3
  obtain ⟨o5, c5, rfl, n5, k5⟩ := p5
  obtain ⟨o8, c8, rfl, n8, k8⟩ := p8
  obtain ⟨⟨o4, c4, rfl, n4, k4⟩, -⟩ := p4
  obtain ⟨⟨o9, c9, rfl, n9, k9⟩, -⟩ := p9
  unfold pAgg
  go_enter Tryz.func25, Tryz.ntmps25
  go_wp2_with fail
  have R0 : RowL (w.alloc (.cells #[.int .i64 p.params, .bool p.vararg, .int .i64 p.regs, .slice o3 p.code.n c3, .slice o4 p.consts.n c4, .slice o5 p.ups.n c5, .int .i64 p.kids, .string p.name, .slice o8 p.lines.n c8, .slice o9 p.upNames.n c9] 53)) w.heap.size 53 [.int .i64 p.params, .bool p.vararg, .int .i64 p.regs, .slice o3 p.code.n c3, .slice o4 p.consts.n c4, .slice o5 p.ups.n c5, .int .i64 p.kids, .string p.name, .slice o8 p.lines.n c8, .slice o9 p.upNames.n c9] := RowL.new w _ 53
  have bw : Below w.heap.size w (w.alloc (.cells #[.int .i64 p.params, .bool p.vararg, .int .i64 p.regs, .slice o3 p.code.n c3, .slice o4 p.consts.n c4, .slice o5 p.ups.n c5, .int .i64 p.kids, .string p.name, .slice o8 p.lines.n c8, .slice o9 p.upNames.n c9] 53)) := by go_grown
  generalize w.alloc (.cells #[.int .i64 p.params, .bool p.vararg, .int .i64 p.regs, .slice o3 p.code.n c3, .slice o4 p.consts.n c4, .slice o5 p.ups.n c5, .int .i64 p.kids, .string p.name, .slice o8 p.lines.n c8, .slice o9 p.upNames.n c9] 53) = wx at R0 bw ⊢
  go_loopw [3] (fun i wr => ∃ (i' : Nat), i = .int .i64 i' ∧ i' ≤ p.consts.n ∧ Below wx.heap.size wx wr ∧ Hid (∀ j, j < i' → Plain (p.consts.f j))) (fun i _ => p.consts.n - (intOf i).toNat)
  case atStart => exact ⟨0, rfl, by omega, Below.refl _ _, fun j hj => by omega⟩
  case round =>
    obtain ⟨i', rfl, q1, q2, q3⟩ := hrel
    have r4 := (R0.call q2).cell 4 rfl
    have q4 := bw.trans (q2.mono bw.size)
    by_cases hi : i' < p.consts.n
    · obtain ⟨b, o, rfl, hb, hcc⟩ := k4 (by omega)
      have c0 := hcc i' hi 0 (by omega)
      have c1 := hcc i' hi 1 (by omega)
      have c2 := hcc i' hi 2 (by omega)
      rw [← q4.cell (p := ⟨b, _, none⟩) hb] at c0 c1 c2
      simp only [Nat.add_zero, Nat.mul_one, vC] at c0 c1 c2
      clear hcc k4 k5 k8 k9
      go_wp2_with fail
      refine (l2Plain_in (p.consts.f i') _).mono ?_
      rintro e w1 ⟨⟨r, rfl, hr⟩, b1⟩
      have hb1 : Below wx.heap.size wx w1 := q2.trans (b1.mono q2.size)
      clear c0 c1 c2 r4
      cases r with
      | false =>
        have hno : Hid (¬ ProtoOk p) := fun h => by simpa using hr.2 (h.allConsts i' hi)
        clear hr
        go_wp2_with fail
        go_ret
        exact ⟨Says.no rfl hno.out, bw.trans (hb1.mono bw.size)⟩
      | true =>
        have q5 : Hid (∀ j, j < i' + 1 → Plain (p.consts.f j)) := fun j hj => by
          by_cases hji : j = i'
          · subst hji; exact hr.1 rfl
          · exact q3.out j (by omega)
        clear hr q3
        go_wp2_with fail
        go_roundw
        case rel => exact ⟨i' + 1, rfl, by omega, hb1, q5⟩
        case measure => simp [intOf]; omega
    · have bb1 : Below wx.heap.size wx wr := q2
      have z1 : Hid (∀ j, j < p.consts.n → Plain (p.consts.f j)) := fun j hj => q3.out j (by omega)
      clear q3 q4
      go_wp2_with fail
      clear r4
      go_loopw [4] (fun i wr => ∃ (i' : Nat), i = .int .i64 i' ∧ i' ≤ p.ups.n ∧ Below wx.heap.size wx wr ∧ Hid (∀ j, j < i' → NumOk (p.ups.f j).index)) (fun i _ => p.ups.n - (intOf i).toNat)
      case atStart => exact ⟨0, rfl, by omega, bb1, fun j hj => by omega⟩
      case round =>
        obtain ⟨i', rfl, q1, q2, q3⟩ := hrel
        have r5 := (R0.call q2).cell 5 rfl
        have q4 := bw.trans (q2.mono bw.size)
        by_cases hi : i' < p.ups.n
        · obtain ⟨b, o, rfl, hb, hcc⟩ := k5 (by omega)
          have c1 := hcc i' hi 1 (by omega)
          rw [← q4.cell (p := ⟨b, _, none⟩) hb] at c1
          simp only [Nat.add_zero, Nat.mul_one, uC] at c1
          clear hcc k4 k5 k8 k9
          go_wp2_with fail
          refine (l2NumOk_in (p.ups.f i').index _).mono ?_
          rintro e w1 ⟨⟨r, rfl, hr⟩, b1⟩
          have hb1 : Below wx.heap.size wx w1 := q2.trans (b1.mono q2.size)
          clear c1 r5
          cases r with
          | false =>
            have hno : Hid (¬ ProtoOk p) := fun h => by simpa using hr.2 (h.allUps i' hi)
            clear hr
            go_wp2_with fail
            go_ret
            exact ⟨Says.no rfl hno.out, bw.trans (hb1.mono bw.size)⟩
          | true =>
            have q5 : Hid (∀ j, j < i' + 1 → NumOk (p.ups.f j).index) := fun j hj => by
              by_cases hji : j = i'
              · subst hji; exact hr.1 rfl
              · exact q3.out j (by omega)
            clear hr q3
            go_wp2_with fail
            go_roundw
            case rel => exact ⟨i' + 1, rfl, by omega, hb1, q5⟩
            case measure => simp [intOf]; omega
        · have bb2 : Below wx.heap.size wx wr := q2
          have z2 : Hid (∀ j, j < p.ups.n → NumOk (p.ups.f j).index) := fun j hj => q3.out j (by omega)
          clear q3 q4
          go_wp2_with fail
          clear r5
          go_loopw [5] (fun i wr => ∃ (i' : Nat), i = .int .i64 i' ∧ i' ≤ p.lines.n ∧ Below wx.heap.size wx wr ∧ Hid (∀ j, j < i' → NumOk (p.lines.f j))) (fun i _ => p.lines.n - (intOf i).toNat)
          case atStart => exact ⟨0, rfl, by omega, bb2, fun j hj => by omega⟩
          case round =>
            obtain ⟨i', rfl, q1, q2, q3⟩ := hrel
            have r8 := (R0.call q2).cell 8 rfl
            have q4 := bw.trans (q2.mono bw.size)
            by_cases hi : i' < p.lines.n
            · exfalso; omega
            · have bb3 : Below wx.heap.size wx wr := q2
              have z3 : Hid (∀ j, j < p.lines.n → NumOk (p.lines.f j)) := fun j hj => q3.out j (by omega)
              clear q3 q4
              go_wp2_with fail
              clear r8
              go_loopw [6] (fun i wr => ∃ (i' : Nat), i = .int .i64 i' ∧ i' ≤ p.upNames.n ∧ Below wx.heap.size wx wr ∧ Hid (∀ j, j < i' → (p.upNames.f j).size ≤ 1000)) (fun i _ => p.upNames.n - (intOf i).toNat)
              case atStart => exact ⟨0, rfl, by omega, bb3, fun j hj => by omega⟩
              case round =>
                obtain ⟨i', rfl, q1, q2, q3⟩ := hrel
                have r9 := (R0.call q2).cell 9 rfl
                have q4 := bw.trans (q2.mono bw.size)
                by_cases hi : i' < p.upNames.n
                · exfalso; omega
                · have bb4 : Below wx.heap.size wx wr := q2
                  have z4 : Hid (∀ j, j < p.upNames.n → (p.upNames.f j).size ≤ 1000) := fun j hj => q3.out j (by omega)
                  clear q3 q4
                  go_wp2_with fail
                  go_ret
                  exact ⟨Says.yes rfl ⟨by omega, by omega, by omega, by omega, by omega, by omega, by omega, by omega, by omega, by omega, by omega, z1.out, z2.out, z3.out, z4.out⟩, bw.trans (bb4.mono bw.size)⟩
end
end Go.Proofs.YtkanjbopfflioaaGreatDoor

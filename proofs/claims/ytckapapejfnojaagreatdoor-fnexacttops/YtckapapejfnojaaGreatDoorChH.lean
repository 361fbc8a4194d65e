import Derived.Test.YtckapapejfnojaaGreatDoorChG
namespace Go.Proofs.YtckapapejfnojaaGreatDoor
open Go.RowKit
set_option linter.unusedVariables false
set_option linter.unusedSimpArgs false

/-- a call that answers whether P. -/
def Says (e : Ending) (P : Prop) : Prop := ∃ r, e = .returned (.bool r) ∧ (r = true ↔ P)
theorem Says.yes {P : Prop} {v : Value} (hv : v = .bool true) (h : P) : Says (.returned v) P := ⟨true, by rw [hv], by simp [h]⟩
theorem Says.no {P : Prop} {v : Value} (hv : v = .bool false) (h : ¬ P) : Says (.returned v) P := ⟨false, by rw [hv], by simp [h]⟩
theorem Says.of {P : Prop} {v : Value} {r : Bool} (hv : v = .bool r) (h : r = true ↔ P) : Says (.returned v) P := ⟨r, by rw [hv], h⟩

/-- a plain value. -/
def Plain (d : VD) : Prop :=
  (d.kind = 0 ∧ d.num = 0 ∧ d.text.size = 0) ∨ (d.kind = 1 ∧ (d.num = 0 ∨ d.num = 1) ∧ d.text.size = 0) ∨ (d.kind = 2 ∧ d.text.size = 0) ∨ (d.kind = 3 ∧ d.num = 0 ∧ d.text.size ≤ 1000)
def NumOk (x : Int) : Prop := 0 ≤ x ∧ x ≤ 16777215
/-- what is asked of a prototype for itself. -/
structure ProtoOk (p : PD) : Prop where
  regs1 : 1 ≤ p.regs
  regs2 : p.regs ≤ 250
  par1 : 0 ≤ p.params
  par2 : p.params ≤ p.regs
  code1 : 1 ≤ p.code.n
  code2 : p.code.n ≤ 2000
  consts : p.consts.n ≤ 500
  ups : p.ups.n ≤ 60
  name : p.name.size ≤ 1000
  lines : p.lines.n = 0 ∨ p.lines.n = p.code.n
  upNames : p.upNames.n = 0 ∨ p.upNames.n = p.ups.n
  allConsts : ∀ i, i < p.consts.n → Plain (p.consts.f i)
  allUps : ∀ i, i < p.ups.n → NumOk (p.ups.f i).index
  allLines : ∀ i, i < p.lines.n → NumOk (p.lines.f i)
  allUpNames : ∀ i, i < p.upNames.n → (p.upNames.f i).size ≤ 1000

theorem l2Plain_in (d : VD) (w : World) :
    Calls Tryz.prog 142 #[.agg #[.int .i64 d.kind, .int .i64 d.num, .string d.text]] w fun e w' => Says e (Plain d) ∧ Below w.heap.size w w' := by
  by_cases h3 : d.kind = 3
  · have h1 : d.kind ≠ 1 := by omega
    by_cases h2 : d.num = 0
    · by_cases h4 : d.text.size ≤ 1000
      · go_enter Tryz.func142, Tryz.ntmps142
        go_wp2_with fail
        go_ret
        exact ⟨Says.yes (by first | rfl | (simp; omega)) (by unfold Plain; omega), by go_grown⟩
      · go_enter Tryz.func142, Tryz.ntmps142
        go_wp2_with fail
        go_ret
        exact ⟨Says.no (by first | rfl | (simp; omega)) (by unfold Plain; omega), by go_grown⟩
    · go_enter Tryz.func142, Tryz.ntmps142
      go_wp2_with fail
      go_ret
      exact ⟨Says.no (by first | rfl | (simp; omega)) (by unfold Plain; omega), by go_grown⟩
  · by_cases ht : 0 < d.text.size
    · go_enter Tryz.func142, Tryz.ntmps142
      go_wp2_with fail
      go_ret
      exact ⟨Says.no (by first | rfl | (simp; omega)) (by unfold Plain; omega), by go_grown⟩
    · by_cases h1 : d.kind = 1
      · by_cases h2 : d.num = 0
        · go_enter Tryz.func142, Tryz.ntmps142
          go_wp2_with fail
          go_ret
          exact ⟨Says.yes (by first | rfl | (simp; omega)) (by unfold Plain; omega), by go_grown⟩
        · by_cases h4 : d.num = 1
          · go_enter Tryz.func142, Tryz.ntmps142
            go_wp2_with fail
            go_ret
            exact ⟨Says.yes (by first | rfl | (simp; omega)) (by unfold Plain; omega), by go_grown⟩
          · go_enter Tryz.func142, Tryz.ntmps142
            go_wp2_with fail
            go_ret
            exact ⟨Says.no (by first | rfl | (simp; omega)) (by unfold Plain; omega), by go_grown⟩
      · by_cases h2 : d.kind = 2
        · go_enter Tryz.func142, Tryz.ntmps142
          go_wp2_with fail
          go_ret
          exact ⟨Says.yes (by first | rfl | (simp; omega)) (by unfold Plain; omega), by go_grown⟩
        · by_cases h0 : d.kind = 0
          · by_cases h4 : d.num = 0
            · go_enter Tryz.func142, Tryz.ntmps142
              go_wp2_with fail
              go_ret
              exact ⟨Says.yes (by first | rfl | (simp; omega)) (by unfold Plain; omega), by go_grown⟩
            · go_enter Tryz.func142, Tryz.ntmps142
              go_wp2_with fail
              go_ret
              exact ⟨Says.no (by first | rfl | (simp; omega)) (by unfold Plain; omega), by go_grown⟩
          · go_enter Tryz.func142, Tryz.ntmps142
            go_wp2_with fail
            go_ret
            exact ⟨Says.no (by first | rfl | (simp; omega)) (by unfold Plain; omega), by go_grown⟩

theorem l2NumOk_in (x : Int) (w : World) :
    Calls Tryz.prog 143 #[.int .i64 x] w fun e w' => Says e (NumOk x) ∧ Below w.heap.size w w' := by
  by_cases h1 : 0 ≤ x
  · by_cases h2 : x ≤ 16777215
    · go_enter Tryz.func143, Tryz.ntmps143
      go_wp2_with fail
      go_ret
      exact ⟨Says.yes (by first | rfl | (simp; omega)) ⟨h1, h2⟩, by go_grown⟩
    · go_enter Tryz.func143, Tryz.ntmps143
      go_wp2_with fail
      go_ret
      exact ⟨Says.no (by first | rfl | (simp; omega)) (by unfold NumOk; omega), by go_grown⟩
  · go_enter Tryz.func143, Tryz.ntmps143
    go_wp2_with fail
    go_ret
    exact ⟨Says.no (by first | rfl | (simp; omega)) (by unfold NumOk; omega), by go_grown⟩

theorem l2End_in (ao : Option Addr) (n cap : Nat) (K : Nat → Int) (w : World) (hn : n ≤ 9223372036854775807)
    (hc : 0 < n → ∃ b o, ao = some ⟨b, o, none⟩ ∧ ∀ i, i < n → w.cell? ⟨b, o + i * 10 + 6, none⟩ = some (.int .i64 (K i))) (m : Nat) :
    ∀ (i a : Nat), n - i ≤ m → i ≤ n → a ≤ 64 → Calls Tryz.prog 68 #[.slice ao n cap, .int .i64 (i : Int), .int .i64 (a : Int)] w fun e w' => (∃ r, e = .returned (.int .i64 r) ∧ EndIs K n i a r) ∧ w = w' := by
  induction m with
  | zero =>
    intro i a hm hin ha
    have hi : (n : Int) ≤ (i : Int) := by omega
    go_enter Tryz.func68, Tryz.ntmps68
    go_wp2_with fail
    go_ret
    exact ⟨⟨_, rfl, EndIs.none (.inl (by omega))⟩, rfl⟩
  | succ m ih =>
    intro i a hm hin ha
    by_cases hi : n ≤ i
    · have hi' : (n : Int) ≤ (i : Int) := by omega
      clear ih
      go_enter Tryz.func68, Tryz.ntmps68
      go_wp2_with fail
      go_ret
      exact ⟨⟨_, rfl, EndIs.none (.inl hi)⟩, rfl⟩
    · have hi' : (i : Int) < (n : Int) := by omega
      by_cases h64 : 64 ≤ a
      · have h64' : (64 : Int) ≤ (a : Int) := by omega
        clear ih
        go_enter Tryz.func68, Tryz.ntmps68
        go_wp2_with fail
        go_ret
        exact ⟨⟨_, rfl, EndIs.none (.inr (.inl h64))⟩, rfl⟩
      · obtain ⟨b, o, rfl, hcc⟩ := hc (by omega)
        have c6 := hcc i (by omega)
        by_cases hk : K i < 0
        · clear ih hcc hc
          go_enter Tryz.func68, Tryz.ntmps68
          go_wp2_with fail
          go_ret
          exact ⟨⟨_, rfl, EndIs.none (.inr (.inr hk))⟩, rfl⟩
        · have ih' := fun i a h1 h2 h3 => ih i a h1 h2 h3
          clear ih hcc hc
          go_enter Tryz.func68, Tryz.ntmps68
          go_wp2_with fail
          go_loopw [7, 8] (fun v k wr => ∃ (r : Int) (k' : Nat), v = .int .i64 r ∧ k = .int .i64 k' ∧ w = wr ∧ k' ≤ n ∧ (k' : Int) ≤ K i ∧ Hid (KidsIs K n i a k' r)) (fun _ k _ => n - (intOf k).toNat)
          case atStart => exact ⟨_, 0, rfl, rfl, rfl, by omega, by omega, KidsIs.start (by omega)⟩
          case round =>
            obtain ⟨r, k, rfl, rfl, rfl, hkn, hki, hK⟩ := hrel
            by_cases hkk : (k : Int) < K i
            · by_cases hr : 0 ≤ r
              · obtain ⟨e, h, t, hh, rfl⟩ | ⟨rfl, -⟩ := hK.out
                · have hle := t.le
                  have hen : e ≤ n := by
                    by_cases hk0 : 0 < k
                    · exact hle.2 hk0
                    · obtain rfl : k = 0 := by omega
                      cases t
                      omega
                  have hkn' : k < n := by omega
                  have hie : i + 1 ≤ e := by omega
                  have t' : Hid (Fo K n k (i + 1) e h) := t
                  clear t hle
                  go_wp2_with fail
                  refine (ih' e (a + 1) (by omega) hen (by omega)).mono ?_
                  rintro e' w1 ⟨⟨r, rfl, hr'⟩, rfl⟩
                  have hnew : Hid (KidsIs K n i a (k + 1) r) := KidsIs.step t'.out hh hkk hr'
                  clear hr' t' hK
                  go_wp2_with fail
                  go_roundw
                  case rel => exact ⟨r, k + 1, rfl, rfl, by first | trivial | rfl, by omega, by omega, hnew⟩
                  case measure => simp [intOf]; omega
                · omega
              · have hf : Hid (EndIs K n i a r) := KidsIs.done (by omega) (by omega) hK.out (.inl (by omega))
                clear hK ih'
                go_wp2_with fail
                go_ret
                exact ⟨⟨_, rfl, hf.out⟩, rfl⟩
            · have hf : Hid (EndIs K n i a r) := KidsIs.done (by omega) (by omega) hK.out (.inr (by omega))
              clear hK ih'
              go_wp2_with fail
              go_ret
              exact ⟨⟨_, rfl, hf.out⟩, rfl⟩
end Go.Proofs.YtckapapejfnojaaGreatDoor

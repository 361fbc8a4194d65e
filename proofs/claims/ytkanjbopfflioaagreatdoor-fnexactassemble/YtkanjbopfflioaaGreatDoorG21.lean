import Derived.Test.YtkanjbopfflioaaGreatDoorG18
import Derived.Test.YtkanjbopfflioaaGreatDoorG20
import Derived.Test.YtkanjbopfflioaaGreatDoorAoR
import Derived.Test.YtkanjbopfflioaaGreatDoorG11
namespace Go.Proofs.YtkanjbopfflioaaGreatDoor
section
open Go.RowKit Go.Shelf
set_option linter.unusedVariables false
set_option linter.unusedSimpArgs false
set_option maxRecDepth 100000
set_option maxHeartbeats 2000000
noncomputable def fitN : Fit := ⟨70, [], fun n => decide (0 ≤ n ∧ n ≤ 16777215)⟩
noncomputable def fitM : Fit := ⟨74, [], fun n => decide ((0 ≤ n ∧ n ≤ 4294967295) ∧ n % 64 > 33)⟩
noncomputable def fitH (k : Nat) (hi : Int) : Fit := ⟨94, [.int .i64 (k : Int)], fun n => decide (0 ≤ n ∧ n ≤ hi)⟩
noncomputable def fitW : Fit := ⟨97, [], fun n => decide (-131072 ≤ n ∧ n ≤ 131071)⟩
theorem within_b (n lo hi : Int) (w : World) : Calls Tryz.prog 44 #[.int .i64 n, .int .i64 lo, .int .i64 hi] w fun e w' => e = .returned (.bool (decide (lo ≤ n ∧ n ≤ hi))) ∧ w = w' :=
  (within_in n lo hi w).mono fun e w' ⟨⟨r, he, hr⟩, hw⟩ => ⟨by
    rw [he]
    congr 2
    cases r
    · exact (decide_eq_false (fun h => by simpa using hr.2 h)).symm
    · exact (decide_eq_true (hr.1 rfl)).symm, by first | exact hw | exact hw.symm⟩
theorem fitN_ok (w : World) : FitOk w fitN := by
  refine ⟨fun args y => by show (callFunc 70 args).run Tryz.prog y = .ok (.enter 70 args) y; kernel_rfl, fun y hy n hI => ?_⟩
  show Calls Tryz.prog 70 #[.int .i64 n] y fun e w' => e = .returned (.bool (decide (0 ≤ n ∧ n ≤ 16777215))) ∧ Below y.heap.size y w'
  have hc := hidR (within_b n 0 16777215 y)
  generalize decide (0 ≤ n ∧ n ≤ 16777215) = b at hc ⊢
  go_enter Tryz.func70, Tryz.ntmps70
  go_wp2_with fail
  refine Calls.mono hc.out ?_
  rintro e y2 ⟨rfl, rfl⟩
  go_wp2_with fail
  exact bodyPost_ret (v := .bool b) (by simp [results, Tryz.results70, go_sem]) rfl ⟨rfl, Below.refl _ _⟩
theorem field_op (x a1 a2 a3 a4 : Int) (y : World) : (Instr.field 107 (.agg #[.int .i64 x, .int .i64 a1, .int .i64 a2, .int .i64 a3, .int .i64 a4]) 0).run Tryz.prog y = .ok (.int .i64 x) y := by kernel_rfl
theorem fitM_ok (w : World) (hS : Spans w) : FitOk w fitM := by
  refine ⟨fun args y => by show (callFunc 74 args).run Tryz.prog y = .ok (.enter 74 args) y; kernel_rfl, fun y hy n hI => ?_⟩
  show Calls Tryz.prog 74 #[.int .i64 n] y fun e w' => e = .returned (.bool (decide ((0 ≤ n ∧ n ≤ 4294967295) ∧ n % 64 > 33))) ∧ Below y.heap.size y w'
  have hc := hidR (within_b n 0 4294967295 y)
  by_cases hn : 0 ≤ n ∧ n ≤ 4294967295
  · rw [decide_eq_true hn] at hc
    have hun := hidR (unpackI n y (hS.below hy) hn.1 hn.2)
    have hw : IntKind.u32.wrap n = n := by rw [IntKind.wrap_u32]; omega
    have hop : opW n = n % 64 := rfl
    rw [hop] at hun
    generalize aW n = a1 at hun
    generalize bW n = a2 at hun
    generalize cW n = a3 at hun
    generalize sW n = a4 at hun
    unfold insV at hun
    obtain ⟨b, hb⟩ : ∃ b, decide ((0 ≤ n ∧ n ≤ 4294967295) ∧ n % 64 > 33) = b := ⟨_, rfl⟩
    rw [hb]
    have hb2 : decide (n % 64 > 33) = b := by rw [← hb]; simp [hn]
    replace hb := hidR hb
    go_enter Tryz.func74, Tryz.ntmps74
    go_wp2_with fail
    refine Calls.mono hc.out ?_
    rintro e y2 ⟨rfl, rfl⟩
    go_wp2_with fail
    refine Calls.mono hun.out ?_
    rintro e y3 ⟨rfl, b3⟩
    have hfd := field_op (n % 64) a1 a2 a3 a4 y3
    go_wp2_with fail
    refine bodyPost_ret (v := .bool b) ?_ rfl ⟨rfl, b3⟩
    simp [results, Tryz.results74, go_sem, ← hb2]
  · rw [decide_eq_false hn] at hc
    have hd : decide ((0 ≤ n ∧ n ≤ 4294967295) ∧ n % 64 > 33) = false := decide_eq_false fun h => hn h.1
    rw [hd]
    clear hd hn
    go_enter Tryz.func74, Tryz.ntmps74
    go_wp2_with fail
    refine Calls.mono hc.out ?_
    rintro e y2 ⟨rfl, rfl⟩
    go_wp2_with fail
    exact bodyPost_ret (v := .bool false) (by simp [results, Tryz.results74, go_sem]) rfl ⟨rfl, Below.refl _ _⟩
theorem fitW_ok (w : World) : FitOk w fitW := by
  refine ⟨fun args y => by show (callFunc 97 args).run Tryz.prog y = .ok (.enter 97 args) y; kernel_rfl, fun y hy n hI => ?_⟩
  show Calls Tryz.prog 97 #[.int .i64 n] y fun e w' => e = .returned (.bool (decide (-131072 ≤ n ∧ n ≤ 131071))) ∧ Below y.heap.size y w'
  by_cases h1 : n ≥ -131072
  · by_cases h2 : n ≤ 131071
    · rw [decide_eq_true ⟨h1, h2⟩]
      go_enter Tryz.func97, Tryz.ntmps97
      go_wp2_with fail
      exact bodyPost_ret (v := .bool true) (by simp [results, Tryz.results97, go_sem]) rfl ⟨rfl, by go_grown⟩
    · rw [decide_eq_false fun h => h2 h.2]
      go_enter Tryz.func97, Tryz.ntmps97
      go_wp2_with fail
      exact bodyPost_ret (v := .bool false) (by simp [results, Tryz.results97, go_sem] <;> omega) rfl ⟨rfl, by go_grown⟩
  · rw [decide_eq_false fun h => h1 h.1]
    go_enter Tryz.func97, Tryz.ntmps97
    go_wp2_with fail
    exact bodyPost_ret (v := .bool false) (by simp [results, Tryz.results97, go_sem] <;> omega) rfl ⟨rfl, by go_grown⟩
theorem fitH_ok (w : World) (hS : Spans w) : FitOk w (fitH 1 255) ∧ FitOk w (fitH 2 511) ∧ FitOk w (fitH 3 511) := by
  have hcf : ∀ args y, (callFunc 94 args).run Tryz.prog y = .ok (.enter 94 args) y := fun args y => by kernel_rfl
  refine ⟨⟨hcf, fun y hy n hI => ?_⟩, ⟨hcf, fun y hy n hI => ?_⟩, ⟨hcf, fun y hy n hI => ?_⟩⟩
  · show Calls Tryz.prog 94 #[.int .i64 1, .int .i64 n] y fun e w' => e = .returned (.bool (decide (0 ≤ n ∧ n ≤ 255))) ∧ Below y.heap.size y w'
    by_cases h : 0 ≤ n ∧ n ≤ 255
    · rw [decide_eq_true h]
      exact (holds1_yes n y (hS.below hy).c3 h.1 h.2).mono fun e w' ⟨he, hw⟩ => ⟨he, by rw [hw]; exact Below.refl _ _⟩
    · rw [decide_eq_false h]
      exact (holds1_no n y (hS.below hy).c3 (by omega)).mono fun e w' ⟨he, hw⟩ => ⟨he, by rw [hw]; exact Below.refl _ _⟩
  · show Calls Tryz.prog 94 #[.int .i64 2, .int .i64 n] y fun e w' => e = .returned (.bool (decide (0 ≤ n ∧ n ≤ 511))) ∧ Below y.heap.size y w'
    by_cases h : 0 ≤ n ∧ n ≤ 511
    · rw [decide_eq_true h]
      exact (holds2_yes n y (hS.below hy).c5 h.1 h.2).mono fun e w' ⟨he, hw⟩ => ⟨he, by rw [hw]; exact Below.refl _ _⟩
    · rw [decide_eq_false h]
      exact (holds2_no n y (hS.below hy).c5 (by omega)).mono fun e w' ⟨he, hw⟩ => ⟨he, by rw [hw]; exact Below.refl _ _⟩
  · show Calls Tryz.prog 94 #[.int .i64 3, .int .i64 n] y fun e w' => e = .returned (.bool (decide (0 ≤ n ∧ n ≤ 511))) ∧ Below y.heap.size y w'
    by_cases h : 0 ≤ n ∧ n ≤ 511
    · rw [decide_eq_true h]
      exact (holds3_yes n y (hS.below hy).c7 h.1 h.2).mono fun e w' ⟨he, hw⟩ => ⟨he, by rw [hw]; exact Below.refl _ _⟩
    · rw [decide_eq_false h]
      exact (holds3_no n y (hS.below hy).c7 (by omega)).mono fun e w' ⟨he, hw⟩ => ⟨he, by rw [hw]; exact Below.refl _ _⟩
end
section
open Go.RowKit Go.Shelf
set_option linter.unusedVariables false
set_option linter.unusedSimpArgs false
set_option maxRecDepth 100000
set_option maxHeartbeats 2000000
/-- what the program's reader of a word gives. -/
def WordIn (R : Option Int) (e : Ending) : Prop := (∃ x, R = some x ∧ e = .returned (.tuple #[.int .u32 x, .bool true])) ∨ (R = none ∧ e = .returned (.tuple #[.int .u32 0, .bool false]))
/-- what the program's readers ask of the memory. -/
structure Env (w : World) : Prop where
  pow : PowTab w
  err : ErrV w
  spans : Spans w
theorem Env.below {w w' : World} (h : Env w) (hb : Below w.heap.size w w') : Env w' := ⟨powTab_below h.pow hb, h.err.below hb, h.spans.below hb⟩
theorem natOf_of {p : ByteArray} {n hi : Int} (h : decOf p = some n) (h0 : 0 ≤ n) (h1 : n ≤ hi) : natOf p hi = n := by
  unfold natOf
  rw [h]
  exact if_pos ⟨h0, h1⟩
theorem natOf_inv {p : ByteArray} {hi : Int} (h : 0 ≤ natOf p hi) : decOf p = some (natOf p hi) ∧ natOf p hi ≤ hi := by
  unfold natOf at h ⊢
  cases hd : decOf p with
  | none => rw [hd] at h; simp at h
  | some n =>
    rw [hd] at h
    simp only at h ⊢
    by_cases hc : 0 ≤ n ∧ n ≤ hi
    · rw [if_pos hc]; exact ⟨rfl, hc.2⟩
    · rw [if_neg hc] at h; omega
theorem wordIn_in (r : List ByteArray) (g o c : Nat) (w : World) (hcap : r.length ≤ c) (ho : o ≤ 1000) (hN : r.length ≤ 100000)
    (hc : ∀ (j : Nat) x, r[j]? = some x → w.cell? ⟨g, o + j, none⟩ = some (.string x)) (hg : g < w.heap.size) (hz : ∀ x ∈ r, x.size ≤ 100000) (hv : Env w) :
    Calls Tryz.prog 34 #[.slice (some ⟨g, o, none⟩) r.length c] w fun e w' => WordIn (wordN r) e ∧ Below w.heap.size w w' := by
  obtain ⟨w1, hw1⟩ : ∃ w1, w.alloc (.cells #[.func (.func 74) #[] #[]] 104) = w1 := ⟨_, rfl⟩
  have bA : Below w.heap.size w w1 := by rw [← hw1]; exact (Below.refl _ _).alloc (Nat.le_refl _) _
  by_cases hl : r.length = 1
  · match r, hl, hc, hz with
    | [p], _, hc, hz =>
      have hfc : w1.cell? ⟨w.heap.size, 0, none⟩ = some (fitV fitM) := by rw [← hw1]; exact (RowL.new w [.func (.func 74) #[] #[]] 104).cell 0 rfl
      have hwl : w.heap.size < w1.heap.size := by rw [← hw1, World.size_alloc]; omega
      have hcall := hidR (numbersIn_in [p] [fitM] g o c w.heap.size 1 w1 rfl (by simp) hcap ho (fun j x hx => (bA.cell (p := ⟨g, o + j, none⟩) hg).trans (hc j x hx)) (by omega) hz (fun j t ht => by
        match j, ht with
        | 0, ht => simp at ht; subst ht; exact hfc) hwl (by simp) (fun t ht => by simp at ht; subst ht; exact fitM_ok w1 (hv.spans.below bA)) (powTab_below hv.pow bA) (hv.err.below bA))
      have hyes : Hid (NumsOk [p] [fitM] 1 → ∃ n, numAt [p] 0 = some n ∧ wordN [p] = some n ∧ 0 ≤ n ∧ n ≤ 4294967295) := fun h => by
        obtain ⟨n, t, h1, h2, h3⟩ := h 0 (by omega)
        simp only [List.getElem?_cons_zero, Option.some.injEq] at h2
        subst h2
        have h4 : (0 ≤ n ∧ n ≤ 4294967295) ∧ n % 64 > 33 := of_decide_eq_true h3
        have h5 := natOf_of (hi := 4294967295) (show decOf p = some n from h1) h4.1.1 h4.1.2
        exact ⟨n, h1, by show (if 0 ≤ natOf p 4294967295 ∧ natOf p 4294967295 % 64 > 33 then some (natOf p 4294967295) else none) = _; rw [h5, if_pos ⟨h4.1.1, h4.2⟩], h4.1⟩
      have hnot : Hid (¬ NumsOk [p] [fitM] 1 → wordN [p] = none) := fun h => by
        show (if 0 ≤ natOf p 4294967295 ∧ natOf p 4294967295 % 64 > 33 then some (natOf p 4294967295) else none) = _
        refine if_neg fun h2 => h fun j hj => ?_
        obtain rfl : j = 0 := by omega
        obtain ⟨h3, h4⟩ := natOf_inv h2.1
        exact ⟨natOf p 4294967295, fitM, h3, rfl, decide_eq_true ⟨⟨h2.1, h4⟩, h2.2⟩⟩
      replace hw1 := hidR hw1
      replace bA := hidR bA
      clear hc hz hv hfc hcap
      go_enter Tryz.func34, Tryz.ntmps34
      go_wp2_with fail
      rw [hw1.out]
      refine Calls.mono hcall.out ?_
      rintro e y ⟨hE, b1⟩
      have bz := bA.out.trans (b1.mono bA.out.size)
      clear hcall b1 hw1 bA
      rcases hE with ⟨hok, rfl, hrow⟩ | ⟨hno, rfl⟩
      · obtain ⟨n, hn1, hn2, hn3, hn4⟩ := hyes.out hok
        have hcl := hrow.cell (i := 0) (by simp)
        rw [hn1] at hcl
        replace hcl : y.cell? ⟨w1.heap.size, 0, none⟩ = some (.int .i64 n) := hcl
        have hlt := hrow.lt
        have hcw : IntKind.u32.wrap n = n := by rw [IntKind.wrap_u32]; omega
        clear hyes hnot hok hrow hn1
        replace hn2 := hidR hn2
        go_wp2_with fail
        exact bodyPost_ret (v := .tuple #[.int .u32 n, .bool true]) (by simp [results, Tryz.results34, go_sem]) rfl ⟨.inl ⟨n, hn2.out, rfl⟩, bz⟩
      · have hn := hidR (hnot.out hno)
        clear hyes hnot hno
        go_wp2_with fail
        exact bodyPost_ret (v := .tuple #[.int .u32 0, .bool false]) (by simp [results, Tryz.results34, go_sem]) rfl ⟨.inr ⟨hn.out, rfl⟩, bz⟩
  · have hcall := hidR (numbersIn_len r [fitM] (some ⟨g, o, none⟩) (some ⟨w.heap.size, 0, none⟩) c 1 w1 hl hN (by simp))
    have hn : Hid (wordN r = none) := by
      show wordN r = none
      unfold wordN
      split
      · exact absurd rfl hl
      · rfl
    replace hcall : Hid (Calls Tryz.prog 69 #[.slice (some ⟨g, o, none⟩) r.length c, .slice (some ⟨w.heap.size, 0, none⟩) 1 1] w1 fun e w' => e = .returned (.tuple #[.slice none 0 0, .bool false]) ∧ Below w1.heap.size w1 w') := hcall
    replace hw1 := hidR hw1
    clear hc hz hv
    generalize r.length = m at *
    go_enter Tryz.func34, Tryz.ntmps34
    go_wp2_with fail
    rw [hw1.out]
    refine Calls.mono hcall.out ?_
    rintro e y ⟨rfl, b1⟩
    have bz := bA.trans (b1.mono bA.size)
    clear hcall
    go_wp2_with fail
    exact bodyPost_ret (v := .tuple #[.int .u32 0, .bool false]) (by simp [results, Tryz.results34, go_sem]) rfl ⟨.inr ⟨hn.out, rfl⟩, bz⟩
end
section
open Go.RowKit Go.Shelf
set_option linter.unusedVariables false
set_option linter.unusedSimpArgs false
set_option maxRecDepth 100000
set_option maxHeartbeats 2000000
def UpIn (R : Option UD) (e : Ending) : Prop := (∃ u, R = some u ∧ e = .returned (.tuple #[.agg #[.bool u.stack, .int .i64 u.index], .bool true])) ∨ (R = none ∧ e = .returned (.tuple #[.agg #[.bool false, .int .i64 0], .bool false]))
theorem upIn_nil (g o c : Nat) (w : World) : Calls Tryz.prog 32 #[.slice (some ⟨g, o, none⟩) 0 c] w fun e w' => UpIn (upP []) e ∧ Below w.heap.size w w' := by
  have hR : Hid (UpIn (upP []) (.returned (.tuple #[.agg #[.bool false, .int .i64 0], .bool false]))) := .inr ⟨rfl, rfl⟩
  go_enter Tryz.func32, Tryz.ntmps32
  go_wp2_with fail
  exact bodyPost_ret (v := .tuple #[.agg #[.bool false, .int .i64 0], .bool false]) (by simp [results, Tryz.results32, go_sem]) rfl ⟨hR.out, by go_grown⟩
theorem upP_no {p : ByteArray} {r : List ByteArray} (h1 : p ≠ stackB) (h2 : p ≠ cellB) : upP (p :: r) = none := by
  unfold upP
  split
  · rename_i p' q' h
    simp only [List.cons.injEq] at h
    obtain ⟨rfl, -⟩ := h
    exact if_neg fun h => h.1.elim h1 h2
  · rfl
theorem upIn_no (p : ByteArray) (r : List ByteArray) (g o c : Nat) (w : World) (c0 : w.cell? ⟨g, o, none⟩ = some (.string p)) (hg : g < w.heap.size) (hN : r.length ≤ 100000) (h1 : p ≠ stackB) (h2 : p ≠ cellB) :
    Calls Tryz.prog 32 #[.slice (some ⟨g, o, none⟩) (r.length + 1) c] w fun e w' => UpIn (upP (p :: r)) e ∧ Below w.heap.size w w' := by
  have hR : Hid (UpIn (upP (p :: r)) (.returned (.tuple #[.agg #[.bool false, .int .i64 0], .bool false]))) := .inr ⟨upP_no h1 h2, rfl⟩
  have b1 : (p.toList == [115, 116, 97, 99, 107]) = false := lit_no (q := stackB) rfl h1
  have b2 : (p.toList == [99, 101, 108, 108]) = false := lit_no (q := cellB) rfl h2
  have hl : (((r.length : Int) + 1) == 0) = false := by simp; omega
  have hl2 : (0 : Int) < (r.length : Int) + 1 := by omega
  have hng : ¬ (g = w.heap.size) := by omega
  have hgl : g < w.heap.size + 1 := by omega
  generalize r.length = n at *
  clear h1 h2
  go_enter Tryz.func32, Tryz.ntmps32
  go_wp2_with fail
  exact bodyPost_ret (v := .tuple #[.agg #[.bool false, .int .i64 0], .bool false]) (by simp [results, Tryz.results32, go_sem]) rfl ⟨hR.out, by go_grown⟩
end
section
open Go.RowKit Go.Shelf
set_option linter.unusedVariables false
set_option linter.unusedSimpArgs false
set_option maxRecDepth 100000
set_option maxHeartbeats 2000000
theorem upIn_stack2 (r : List ByteArray) (g o c : Nat) (w : World) (hcap : r.length + 1 ≤ c) (hc2 : 2 ≤ c) (ho : o + 1 ≤ 1000) (hN : r.length ≤ 100000) (c0 : w.cell? ⟨g, o, none⟩ = some (.string stackB))
    (hc : ∀ (j : Nat) x, r[j]? = some x → w.cell? ⟨g, o + 1 + j, none⟩ = some (.string x)) (hg : g < w.heap.size) (hz : ∀ x ∈ r, x.size ≤ 100000) (hv : Env w) :
    Calls Tryz.prog 32 #[.slice (some ⟨g, o, none⟩) (r.length + 1) c] w fun e w' => UpIn (upP (stackB :: r)) e ∧ Below w.heap.size w w' := by
  obtain ⟨w2, hw2⟩ : ∃ w2, w.alloc (.cells #[.bool false, .int .i64 0] 61) = w2 := ⟨_, rfl⟩
  have RB : RowL w2 w.heap.size 61 [.bool false, .int .i64 0] := by rw [← hw2]; exact RowL.new w _ _
  have bw : Below w.heap.size w w2 := by rw [← hw2]; exact (Below.refl _ _).alloc (Nat.le_refl _) _
  obtain ⟨w1, hw1⟩ : ∃ w1, w2.alloc (.cells #[.func (.func 70) #[] #[]] 104) = w1 := ⟨_, rfl⟩
  have bA : Below w2.heap.size w2 w1 := by rw [← hw1]; exact (Below.refl _ _).alloc (Nat.le_refl _) _
  have RF : RowL w1 w2.heap.size 104 [.func (.func 70) #[] #[]] := by rw [← hw1]; exact RowL.new w2 _ 104
  have hg2 : g < w2.heap.size := Nat.lt_of_lt_of_le hg bw.size
  have d0 : w2.cell? ⟨g, o, none⟩ = some (.string ⟨#[115, 116, 97, 99, 107]⟩) := (bw.cell (p := ⟨g, o, none⟩) hg).trans c0
  have bB : Below w.heap.size w w1 := bw.trans (bA.mono bw.size)
  have hlb : (((r.length : Int) + 1) == 0) = false := by simp; omega
  have hl2 : (0 : Int) < (r.length : Int) + 1 := by omega
  have hl3 : (1 : Int) ≤ (r.length : Int) + 1 := by omega
  have hwl := RF.lt
  have hE : Hid (NumsEnds r [fitN] w1.heap.size = NumsEnds r [fitN] w1.heap.size) := rfl
  have hcall : Hid (Calls Tryz.prog 69 #[.slice (some ⟨g, o + 1, none⟩) r.length (c - 1), .slice (some ⟨w2.heap.size, 0, none⟩) 1 1] w1 fun e w' => ((∃ n, upP (stackB :: r) = some ⟨true, n⟩ ∧ w'.cell? ⟨w1.heap.size, 0, none⟩ = some (.int .i64 n) ∧ w1.heap.size < w'.heap.size ∧ e = .returned (.tuple #[.slice (some ⟨w1.heap.size, 0, none⟩) 1 1, .bool true])) ∨ (upP (stackB :: r) = none ∧ e = .returned (.tuple #[.slice none 0 0, .bool false]))) ∧ Below w1.heap.size w1 w') := by
    by_cases hl : r.length = 1
    · match r, hl, hc, hz, hcap with
      | [q], _, hc, hz, hcap =>
        refine (numbersIn_in [q] [fitN] g (o + 1) (c - 1) w2.heap.size 1 w1 rfl (by simp) (by simp at hcap ⊢; omega) (by omega) (fun j x hx => (bB.cell (p := ⟨g, o + 1 + j, none⟩) hg).trans (hc j x hx)) (by omega) hz (fun j t ht => by
          match j, ht with
          | 0, ht => simp at ht; subst ht; exact RF.cell 0 rfl) hwl (by simp) (fun t ht => by simp at ht; subst ht; exact fitN_ok w1) (powTab_below hv.pow bB) (hv.err.below bB)).mono ?_
        rintro e w' ⟨hEn, hb⟩
        refine ⟨?_, hb⟩
        rcases hEn with ⟨hok, he, hrow⟩ | ⟨hno, he⟩
        · obtain ⟨n, t, h1, h2, h3⟩ := hok 0 (by simp)
          simp only [List.getElem?_cons_zero, Option.some.injEq] at h2
          subst h2
          have h4 : 0 ≤ n ∧ n ≤ 16777215 := of_decide_eq_true h3
          have e0 := hrow.cell (i := 0) (by simp)
          rw [h1] at e0
          refine .inl ⟨n, ?_, e0, hrow.lt, he⟩
          show (if (stackB = stackB ∨ stackB = cellB) ∧ 0 ≤ natOf q 16777215 then some (⟨decide (stackB = stackB), natOf q 16777215⟩ : UD) else none) = _
          rw [natOf_of (hi := 16777215) (show decOf q = some n from h1) h4.1 h4.2, if_pos ⟨by simp, h4.1⟩]
          rfl
        · refine .inr ⟨?_, he⟩
          show (if (stackB = stackB ∨ stackB = cellB) ∧ 0 ≤ natOf q 16777215 then some (⟨decide (stackB = stackB), natOf q 16777215⟩ : UD) else none) = _
          refine if_neg fun h2 => hno fun j hj => ?_
          obtain rfl : j = 0 := by simp at hj; omega
          obtain ⟨h3, h4⟩ := natOf_inv h2.2
          exact ⟨_, fitN, h3, rfl, decide_eq_true ⟨h2.2, h4⟩⟩
    · refine (numbersIn_len r [fitN] (some ⟨g, o + 1, none⟩) (some ⟨w2.heap.size, 0, none⟩) (c - 1) 1 w1 hl hN (by simp)).mono ?_
      rintro e w' ⟨he, hb⟩
      refine ⟨.inr ⟨?_, he⟩, hb⟩
      unfold upP
      split
      · rename_i p' q' h
        simp only [List.cons.injEq] at h
        obtain ⟨-, rfl⟩ := h
        exact absurd rfl hl
      · rfl
  generalize upP (stackB :: r) = R at hcall ⊢
  clear hc hz hv RF hE c0
  replace hw1 := hidR hw1
  replace hw2 := hidR hw2
  generalize r.length = n at *
  go_enter Tryz.func32, Tryz.ntmps32
  go_upto_region 1 with fail
  rw [hw2.out]
  have hc3 : ¬ (c - 1 = 0) := by omega
  have hc4 : ¬ (c = 1) := by omega
  go_wp2_with fail
  rw [hw1.out]
  refine Calls.mono hcall.out ?_
  rintro e y ⟨hE, b1⟩
  have bz := bB.trans (b1.mono bB.size)
  have bq := bA.trans (b1.mono bA.size)
  have RBy := RB.call bq
  have dy : y.cell? ⟨g, o, none⟩ = some (.string ⟨#[115, 116, 97, 99, 107]⟩) := (bq.cell (p := ⟨g, o, none⟩) hg2).trans d0
  have hgy : g < y.heap.size := Nat.lt_of_lt_of_le hg2 bq.size
  clear hcall b1 hw1 hw2 bA bB d0 RB
  rcases hE with ⟨nn, hR, hcl, hlt, rfl⟩ | ⟨hR, rfl⟩
  · have hRR : Hid (UpIn R (.returned (.tuple #[.agg #[.bool true, .int .i64 nn], .bool true]))) := .inl ⟨_, hR, rfl⟩
    have e0 := RBy.cell 0 rfl
    have e1 := RBy.cell 1 rfl
    have ef := RBy.frozen
    have el := RBy.lt
    have L := (RBy.set 0 (.bool true)).set 1 (.int .i64 nn)
    have l0 := L.cell 0 rfl
    have l1 := L.cell 1 rfl
    have bf := Below.setCell (Below.setCell bz (p := ⟨w.heap.size, 0, none⟩) (Nat.le_refl _) (.bool true)) (p := ⟨w.heap.size, 1, none⟩) (Nat.le_refl _) (.int .i64 nn)
    replace L := hidR L
    replace RBy := hidR RBy
    clear hR
    go_wp2_with fail
    go_region
    go_wp2_with fail
    exact bodyPost_ret (v := .tuple #[.agg #[.bool true, .int .i64 nn], .bool true]) (by simp [results, Tryz.results32, go_sem, l0, l1]) rfl ⟨hRR.out, bf.drew⟩
  · have hRR : Hid (UpIn R (.returned (.tuple #[.agg #[.bool false, .int .i64 0], .bool false]))) := .inr ⟨hR, rfl⟩
    have e0 := RBy.cell 0 rfl
    have e1 := RBy.cell 1 rfl
    have ef := RBy.frozen
    have el := RBy.lt
    have L := (RBy.set 0 (.bool false)).set 1 (.int .i64 0)
    have l0 := L.cell 0 rfl
    have l1 := L.cell 1 rfl
    have bf := Below.setCell (Below.setCell bz (p := ⟨w.heap.size, 0, none⟩) (Nat.le_refl _) (.bool false)) (p := ⟨w.heap.size, 1, none⟩) (Nat.le_refl _) (.int .i64 0)
    replace L := hidR L
    replace RBy := hidR RBy
    clear hR
    go_wp2_with fail
    exact bodyPost_ret (v := .tuple #[.agg #[.bool false, .int .i64 0], .bool false]) (by simp [results, Tryz.results32, go_sem, l0, l1]) rfl ⟨hRR.out, bf⟩
theorem upIn_cell2 (r : List ByteArray) (g o c : Nat) (w : World) (hcap : r.length + 1 ≤ c) (hc2 : 2 ≤ c) (ho : o + 1 ≤ 1000) (hN : r.length ≤ 100000) (c0 : w.cell? ⟨g, o, none⟩ = some (.string cellB))
    (hc : ∀ (j : Nat) x, r[j]? = some x → w.cell? ⟨g, o + 1 + j, none⟩ = some (.string x)) (hg : g < w.heap.size) (hz : ∀ x ∈ r, x.size ≤ 100000) (hv : Env w) :
    Calls Tryz.prog 32 #[.slice (some ⟨g, o, none⟩) (r.length + 1) c] w fun e w' => UpIn (upP (cellB :: r)) e ∧ Below w.heap.size w w' := by
  obtain ⟨w2, hw2⟩ : ∃ w2, w.alloc (.cells #[.bool false, .int .i64 0] 61) = w2 := ⟨_, rfl⟩
  have RB : RowL w2 w.heap.size 61 [.bool false, .int .i64 0] := by rw [← hw2]; exact RowL.new w _ _
  have bw : Below w.heap.size w w2 := by rw [← hw2]; exact (Below.refl _ _).alloc (Nat.le_refl _) _
  obtain ⟨w1, hw1⟩ : ∃ w1, w2.alloc (.cells #[.func (.func 70) #[] #[]] 104) = w1 := ⟨_, rfl⟩
  have bA : Below w2.heap.size w2 w1 := by rw [← hw1]; exact (Below.refl _ _).alloc (Nat.le_refl _) _
  have RF : RowL w1 w2.heap.size 104 [.func (.func 70) #[] #[]] := by rw [← hw1]; exact RowL.new w2 _ 104
  have hg2 : g < w2.heap.size := Nat.lt_of_lt_of_le hg bw.size
  have d0 : w2.cell? ⟨g, o, none⟩ = some (.string ⟨#[99, 101, 108, 108]⟩) := (bw.cell (p := ⟨g, o, none⟩) hg).trans c0
  have bB : Below w.heap.size w w1 := bw.trans (bA.mono bw.size)
  have hlb : (((r.length : Int) + 1) == 0) = false := by simp; omega
  have hl2 : (0 : Int) < (r.length : Int) + 1 := by omega
  have hl3 : (1 : Int) ≤ (r.length : Int) + 1 := by omega
  have hwl := RF.lt
  have hE : Hid (NumsEnds r [fitN] w1.heap.size = NumsEnds r [fitN] w1.heap.size) := rfl
  have hcall : Hid (Calls Tryz.prog 69 #[.slice (some ⟨g, o + 1, none⟩) r.length (c - 1), .slice (some ⟨w2.heap.size, 0, none⟩) 1 1] w1 fun e w' => ((∃ n, upP (cellB :: r) = some ⟨false, n⟩ ∧ w'.cell? ⟨w1.heap.size, 0, none⟩ = some (.int .i64 n) ∧ w1.heap.size < w'.heap.size ∧ e = .returned (.tuple #[.slice (some ⟨w1.heap.size, 0, none⟩) 1 1, .bool true])) ∨ (upP (cellB :: r) = none ∧ e = .returned (.tuple #[.slice none 0 0, .bool false]))) ∧ Below w1.heap.size w1 w') := by
    by_cases hl : r.length = 1
    · match r, hl, hc, hz, hcap with
      | [q], _, hc, hz, hcap =>
        refine (numbersIn_in [q] [fitN] g (o + 1) (c - 1) w2.heap.size 1 w1 rfl (by simp) (by simp at hcap ⊢; omega) (by omega) (fun j x hx => (bB.cell (p := ⟨g, o + 1 + j, none⟩) hg).trans (hc j x hx)) (by omega) hz (fun j t ht => by
          match j, ht with
          | 0, ht => simp at ht; subst ht; exact RF.cell 0 rfl) hwl (by simp) (fun t ht => by simp at ht; subst ht; exact fitN_ok w1) (powTab_below hv.pow bB) (hv.err.below bB)).mono ?_
        rintro e w' ⟨hEn, hb⟩
        refine ⟨?_, hb⟩
        rcases hEn with ⟨hok, he, hrow⟩ | ⟨hno, he⟩
        · obtain ⟨n, t, h1, h2, h3⟩ := hok 0 (by simp)
          simp only [List.getElem?_cons_zero, Option.some.injEq] at h2
          subst h2
          have h4 : 0 ≤ n ∧ n ≤ 16777215 := of_decide_eq_true h3
          have e0 := hrow.cell (i := 0) (by simp)
          rw [h1] at e0
          refine .inl ⟨n, ?_, e0, hrow.lt, he⟩
          show (if (cellB = stackB ∨ cellB = cellB) ∧ 0 ≤ natOf q 16777215 then some (⟨decide (cellB = stackB), natOf q 16777215⟩ : UD) else none) = _
          rw [natOf_of (hi := 16777215) (show decOf q = some n from h1) h4.1 h4.2, if_pos ⟨by simp, h4.1⟩]
          rfl
        · refine .inr ⟨?_, he⟩
          show (if (cellB = stackB ∨ cellB = cellB) ∧ 0 ≤ natOf q 16777215 then some (⟨decide (cellB = stackB), natOf q 16777215⟩ : UD) else none) = _
          refine if_neg fun h2 => hno fun j hj => ?_
          obtain rfl : j = 0 := by simp at hj; omega
          obtain ⟨h3, h4⟩ := natOf_inv h2.2
          exact ⟨_, fitN, h3, rfl, decide_eq_true ⟨h2.2, h4⟩⟩
    · refine (numbersIn_len r [fitN] (some ⟨g, o + 1, none⟩) (some ⟨w2.heap.size, 0, none⟩) (c - 1) 1 w1 hl hN (by simp)).mono ?_
      rintro e w' ⟨he, hb⟩
      refine ⟨.inr ⟨?_, he⟩, hb⟩
      unfold upP
      split
      · rename_i p' q' h
        simp only [List.cons.injEq] at h
        obtain ⟨-, rfl⟩ := h
        exact absurd rfl hl
      · rfl
  generalize upP (cellB :: r) = R at hcall ⊢
  clear hc hz hv RF hE c0
  replace hw1 := hidR hw1
  replace hw2 := hidR hw2
  generalize r.length = n at *
  go_enter Tryz.func32, Tryz.ntmps32
  go_upto_region 1 with fail
  rw [hw2.out]
  have hc3 : ¬ (c - 1 = 0) := by omega
  have hc4 : ¬ (c = 1) := by omega
  go_wp2_with fail
  rw [hw1.out]
  refine Calls.mono hcall.out ?_
  rintro e y ⟨hE, b1⟩
  have bz := bB.trans (b1.mono bB.size)
  have bq := bA.trans (b1.mono bA.size)
  have RBy := RB.call bq
  have dy : y.cell? ⟨g, o, none⟩ = some (.string ⟨#[99, 101, 108, 108]⟩) := (bq.cell (p := ⟨g, o, none⟩) hg2).trans d0
  have hgy : g < y.heap.size := Nat.lt_of_lt_of_le hg2 bq.size
  clear hcall b1 hw1 hw2 bA bB d0 RB
  rcases hE with ⟨nn, hR, hcl, hlt, rfl⟩ | ⟨hR, rfl⟩
  · have hRR : Hid (UpIn R (.returned (.tuple #[.agg #[.bool false, .int .i64 nn], .bool true]))) := .inl ⟨_, hR, rfl⟩
    have e0 := RBy.cell 0 rfl
    have e1 := RBy.cell 1 rfl
    have ef := RBy.frozen
    have el := RBy.lt
    have L := (RBy.set 0 (.bool false)).set 1 (.int .i64 nn)
    have l0 := L.cell 0 rfl
    have l1 := L.cell 1 rfl
    have bf := Below.setCell (Below.setCell bz (p := ⟨w.heap.size, 0, none⟩) (Nat.le_refl _) (.bool false)) (p := ⟨w.heap.size, 1, none⟩) (Nat.le_refl _) (.int .i64 nn)
    replace L := hidR L
    replace RBy := hidR RBy
    clear hR
    go_wp2_with fail
    go_region
    go_wp2_with fail
    exact bodyPost_ret (v := .tuple #[.agg #[.bool false, .int .i64 nn], .bool true]) (by simp [results, Tryz.results32, go_sem, l0, l1]) rfl ⟨hRR.out, bf.drew⟩
  · have hRR : Hid (UpIn R (.returned (.tuple #[.agg #[.bool false, .int .i64 0], .bool false]))) := .inr ⟨hR, rfl⟩
    have e0 := RBy.cell 0 rfl
    have e1 := RBy.cell 1 rfl
    have ef := RBy.frozen
    have el := RBy.lt
    have L := (RBy.set 0 (.bool false)).set 1 (.int .i64 0)
    have l0 := L.cell 0 rfl
    have l1 := L.cell 1 rfl
    have bf := Below.setCell (Below.setCell bz (p := ⟨w.heap.size, 0, none⟩) (Nat.le_refl _) (.bool false)) (p := ⟨w.heap.size, 1, none⟩) (Nat.le_refl _) (.int .i64 0)
    replace L := hidR L
    replace RBy := hidR RBy
    clear hR
    go_wp2_with fail
    exact bodyPost_ret (v := .tuple #[.agg #[.bool false, .int .i64 0], .bool false]) (by simp [results, Tryz.results32, go_sem, l0, l1]) rfl ⟨hRR.out, bf⟩
end
section
open Go.RowKit Go.Shelf
set_option linter.unusedVariables false
set_option linter.unusedSimpArgs false
set_option maxRecDepth 100000
set_option maxHeartbeats 2000000
theorem upIn_stack1 (g o : Nat) (w : World) (c0 : w.cell? ⟨g, o, none⟩ = some (.string stackB)) (hg : g < w.heap.size) :
    Calls Tryz.prog 32 #[.slice (some ⟨g, o, none⟩) 1 1] w fun e w' => UpIn (upP [stackB]) e ∧ Below w.heap.size w w' := by
  have hRR : Hid (UpIn (upP [stackB]) (.returned (.tuple #[.agg #[.bool false, .int .i64 0], .bool false]))) := .inr ⟨rfl, rfl⟩
  obtain ⟨w2, hw2⟩ : ∃ w2, w.alloc (.cells #[.bool false, .int .i64 0] 61) = w2 := ⟨_, rfl⟩
  have RB : RowL w2 w.heap.size 61 [.bool false, .int .i64 0] := by rw [← hw2]; exact RowL.new w _ _
  have bw : Below w.heap.size w w2 := by rw [← hw2]; exact (Below.refl _ _).alloc (Nat.le_refl _) _
  obtain ⟨w1, hw1⟩ : ∃ w1, w2.alloc (.cells #[.func (.func 70) #[] #[]] 104) = w1 := ⟨_, rfl⟩
  have bA : Below w2.heap.size w2 w1 := by rw [← hw1]; exact (Below.refl _ _).alloc (Nat.le_refl _) _
  have hg2 : g < w2.heap.size := Nat.lt_of_lt_of_le hg bw.size
  have d0 : w2.cell? ⟨g, o, none⟩ = some (.string ⟨#[115, 116, 97, 99, 107]⟩) := (bw.cell (p := ⟨g, o, none⟩) hg).trans c0
  have bB : Below w.heap.size w w1 := bw.trans (bA.mono bw.size)
  have hcall : Hid (Calls Tryz.prog 69 #[.slice (some ⟨g, o, none⟩) 0 0, .slice (some ⟨w2.heap.size, 0, none⟩) 1 1] w1 fun e w' => e = .returned (.tuple #[.slice none 0 0, .bool false]) ∧ Below w1.heap.size w1 w') :=
    numbersIn_len [] [fitN] (some ⟨g, o, none⟩) (some ⟨w2.heap.size, 0, none⟩) 0 1 w1 (by simp) (by simp) (by simp)
  clear c0
  replace hw1 := hidR hw1
  replace hw2 := hidR hw2
  go_enter Tryz.func32, Tryz.ntmps32
  go_upto_region 1 with fail
  rw [hw2.out]
  go_wp2_with fail
  rw [hw1.out]
  refine Calls.mono hcall.out ?_
  rintro e y ⟨rfl, b1⟩
  have bz := bB.trans (b1.mono bB.size)
  have bq := bA.trans (b1.mono bA.size)
  have RBy := RB.call bq
  clear hcall b1 hw1 hw2 bA bB d0 RB
  have e0 := RBy.cell 0 rfl
  have e1 := RBy.cell 1 rfl
  have ef := RBy.frozen
  have el := RBy.lt
  have L := (RBy.set 0 (.bool false)).set 1 (.int .i64 0)
  have l0 := L.cell 0 rfl
  have l1 := L.cell 1 rfl
  have bf := Below.setCell (Below.setCell bz (p := ⟨w.heap.size, 0, none⟩) (Nat.le_refl _) (.bool false)) (p := ⟨w.heap.size, 1, none⟩) (Nat.le_refl _) (.int .i64 0)
  replace L := hidR L
  replace RBy := hidR RBy
  go_wp2_with fail
  exact bodyPost_ret (v := .tuple #[.agg #[.bool false, .int .i64 0], .bool false]) (by simp [results, Tryz.results32, go_sem, l0, l1]) rfl ⟨hRR.out, bf⟩
theorem upIn_cell1 (g o : Nat) (w : World) (c0 : w.cell? ⟨g, o, none⟩ = some (.string cellB)) (hg : g < w.heap.size) :
    Calls Tryz.prog 32 #[.slice (some ⟨g, o, none⟩) 1 1] w fun e w' => UpIn (upP [cellB]) e ∧ Below w.heap.size w w' := by
  have hRR : Hid (UpIn (upP [cellB]) (.returned (.tuple #[.agg #[.bool false, .int .i64 0], .bool false]))) := .inr ⟨rfl, rfl⟩
  obtain ⟨w2, hw2⟩ : ∃ w2, w.alloc (.cells #[.bool false, .int .i64 0] 61) = w2 := ⟨_, rfl⟩
  have RB : RowL w2 w.heap.size 61 [.bool false, .int .i64 0] := by rw [← hw2]; exact RowL.new w _ _
  have bw : Below w.heap.size w w2 := by rw [← hw2]; exact (Below.refl _ _).alloc (Nat.le_refl _) _
  obtain ⟨w1, hw1⟩ : ∃ w1, w2.alloc (.cells #[.func (.func 70) #[] #[]] 104) = w1 := ⟨_, rfl⟩
  have bA : Below w2.heap.size w2 w1 := by rw [← hw1]; exact (Below.refl _ _).alloc (Nat.le_refl _) _
  have hg2 : g < w2.heap.size := Nat.lt_of_lt_of_le hg bw.size
  have d0 : w2.cell? ⟨g, o, none⟩ = some (.string ⟨#[99, 101, 108, 108]⟩) := (bw.cell (p := ⟨g, o, none⟩) hg).trans c0
  have bB : Below w.heap.size w w1 := bw.trans (bA.mono bw.size)
  have hcall : Hid (Calls Tryz.prog 69 #[.slice (some ⟨g, o, none⟩) 0 0, .slice (some ⟨w2.heap.size, 0, none⟩) 1 1] w1 fun e w' => e = .returned (.tuple #[.slice none 0 0, .bool false]) ∧ Below w1.heap.size w1 w') :=
    numbersIn_len [] [fitN] (some ⟨g, o, none⟩) (some ⟨w2.heap.size, 0, none⟩) 0 1 w1 (by simp) (by simp) (by simp)
  clear c0
  replace hw1 := hidR hw1
  replace hw2 := hidR hw2
  go_enter Tryz.func32, Tryz.ntmps32
  go_upto_region 1 with fail
  rw [hw2.out]
  go_wp2_with fail
  rw [hw1.out]
  refine Calls.mono hcall.out ?_
  rintro e y ⟨rfl, b1⟩
  have bz := bB.trans (b1.mono bB.size)
  have bq := bA.trans (b1.mono bA.size)
  have RBy := RB.call bq
  clear hcall b1 hw1 hw2 bA bB d0 RB
  have e0 := RBy.cell 0 rfl
  have e1 := RBy.cell 1 rfl
  have ef := RBy.frozen
  have el := RBy.lt
  have L := (RBy.set 0 (.bool false)).set 1 (.int .i64 0)
  have l0 := L.cell 0 rfl
  have l1 := L.cell 1 rfl
  have bf := Below.setCell (Below.setCell bz (p := ⟨w.heap.size, 0, none⟩) (Nat.le_refl _) (.bool false)) (p := ⟨w.heap.size, 1, none⟩) (Nat.le_refl _) (.int .i64 0)
  replace L := hidR L
  replace RBy := hidR RBy
  go_wp2_with fail
  exact bodyPost_ret (v := .tuple #[.agg #[.bool false, .int .i64 0], .bool false]) (by simp [results, Tryz.results32, go_sem, l0, l1]) rfl ⟨hRR.out, bf⟩
theorem upIn_in (r : List ByteArray) (g o c : Nat) (w : World) (hcap : r.length ≤ c) (ho : o + 1 ≤ 1000) (hN : r.length ≤ 100000)
    (hc : ∀ (j : Nat) x, r[j]? = some x → w.cell? ⟨g, o + j, none⟩ = some (.string x)) (hg : g < w.heap.size) (hz : ∀ x ∈ r, x.size ≤ 100000) (hv : Env w) :
    Calls Tryz.prog 32 #[.slice (some ⟨g, o, none⟩) r.length c] w fun e w' => UpIn (upP r) e ∧ Below w.heap.size w w' := by
  cases r with
  | nil => exact upIn_nil g o c w
  | cons p r =>
    have c0 : w.cell? ⟨g, o, none⟩ = some (.string p) := hc 0 p rfl
    have hc' : ∀ (j : Nat) x, r[j]? = some x → w.cell? ⟨g, o + 1 + j, none⟩ = some (.string x) := fun j x hx => by
      have := hc (j + 1) x hx
      rw [show o + 1 + j = o + (j + 1) by omega]
      exact this
    have hN' : r.length ≤ 100000 := by simp at hN; omega
    have hcap' : r.length + 1 ≤ c := by simpa using hcap
    have hz' : ∀ x ∈ r, x.size ≤ 100000 := fun x hx => hz x (List.mem_cons_of_mem _ hx)
    by_cases h1 : p = stackB
    · subst h1
      by_cases hc1 : c = 1
      · subst hc1
        obtain rfl : r = [] := List.eq_nil_of_length_eq_zero (by omega)
        exact upIn_stack1 g o w c0 hg
      · exact upIn_stack2 r g o c w hcap' (by omega) ho hN' c0 hc' hg hz' hv
    by_cases h2 : p = cellB
    · subst h2
      by_cases hc1 : c = 1
      · subst hc1
        obtain rfl : r = [] := List.eq_nil_of_length_eq_zero (by omega)
        exact upIn_cell1 g o w c0 hg
      · exact upIn_cell2 r g o c w hcap' (by omega) ho hN' c0 hc' hg hz' hv
    · exact upIn_no p r g o c w c0 hg hN' h1 h2
end
end Go.Proofs.YtkanjbopfflioaaGreatDoor

import Derived.Test.YtkanjbopfflioaaGreatDoorG11
namespace Go.Proofs.YtkanjbopfflioaaGreatDoor
open Go.RowKit Go.Shelf
set_option linter.unusedVariables false
set_option linter.unusedSimpArgs false
set_option maxRecDepth 100000
set_option maxHeartbeats 2000000
def nilB : ByteArray := ⟨#[110, 105, 108]⟩
def trueB : ByteArray := ⟨#[116, 114, 117, 101]⟩
def falseB : ByteArray := ⟨#[102, 97, 108, 115, 101]⟩
def intB : ByteArray := ⟨#[105, 110, 116]⟩
def textB : ByteArray := ⟨#[116, 101, 120, 116]⟩
/-- what a line const says. -/
noncomputable def constP (r : List ByteArray) : Option VD := match r with
  | [p] => if p = nilB then some ⟨0, 0, ⟨#[]⟩⟩ else if p = trueB then some ⟨1, 1, ⟨#[]⟩⟩ else if p = falseB then some ⟨1, 0, ⟨#[]⟩⟩ else none
  | [p, q] => if p = intB then (decOf q).map (fun n => ⟨2, n, ⟨#[]⟩⟩) else if p = textB then (unhexOf q).map (fun t => ⟨3, 0, t⟩) else none
  | _ => none
def ConstEnds (r : List ByteArray) (e : Ending) : Prop := ∃ (d : VD) (b : Bool), e = .returned (.tuple #[.agg #[.int .i64 d.kind, .int .i64 d.num, .string d.text], .bool b]) ∧ (b = true → constP r = some d) ∧ (b = false → constP r = none)
theorem constP1 (p : ByteArray) : constP [p] = if p = nilB then some ⟨0, 0, ⟨#[]⟩⟩ else if p = trueB then some ⟨1, 1, ⟨#[]⟩⟩ else if p = falseB then some ⟨1, 0, ⟨#[]⟩⟩ else none := rfl
theorem constP2 (p q : ByteArray) : constP [p, q] = if p = intB then (decOf q).map (fun n => ⟨2, n, ⟨#[]⟩⟩) else if p = textB then (unhexOf q).map (fun t => ⟨3, 0, t⟩) else none := rfl
theorem dd : nilB ≠ trueB ∧ nilB ≠ falseB ∧ trueB ≠ falseB ∧ intB ≠ textB := by decide
theorem constOne (p1 : ByteArray) (g c : Nat) (w : World) (c1 : w.cell? ⟨g, 1, none⟩ = some (.string p1)) (hg : g < w.heap.size) :
    Calls Tryz.prog 21 #[.slice (some ⟨g, 0, none⟩) 2 c] w fun e w' => ConstEnds [p1] e ∧ Below w.heap.size w w' := by
  have hng : ¬ (g = w.heap.size) := by omega
  have hng2 : ¬ (g = w.heap.size + 1) := by omega
  have hgl : g < w.heap.size + 1 := by omega
  have hgl2 : g < w.heap.size + 1 + 1 := by omega
  by_cases h0 : p1 = nilB
  · have hE : Hid (ConstEnds [p1] (.returned (.tuple #[.agg #[.int .i64 0, .int .i64 0, .string ⟨#[]⟩], .bool true]))) := ⟨⟨0, 0, ⟨#[]⟩⟩, true, rfl, fun _ => by rw [constP1, if_pos h0], by simp⟩
    subst h0
    unfold nilB at c1
    go_enter Tryz.func21, Tryz.ntmps21
    go_wp2_with fail
    exact bodyPost_ret (v := .tuple #[.agg #[.int .i64 0, .int .i64 0, .string ⟨#[]⟩], .bool true]) (by simp [results, Tryz.results21, go_sem]) rfl ⟨hE.out, by go_grown⟩
  have b0 : (p1.toList == [110, 105, 108]) = false := lit_no (q := nilB) rfl h0
  by_cases h1 : p1 = trueB
  · have hE : Hid (ConstEnds [p1] (.returned (.tuple #[.agg #[.int .i64 1, .int .i64 1, .string ⟨#[]⟩], .bool true]))) := ⟨⟨1, 1, ⟨#[]⟩⟩, true, rfl, fun _ => by rw [constP1, if_neg h0, if_pos h1], by simp⟩
    clear b0 h0
    subst h1
    unfold trueB at c1
    go_enter Tryz.func21, Tryz.ntmps21
    go_wp2_with fail
    go_region
    go_wp2_with fail
    exact bodyPost_ret (v := .tuple #[.agg #[.int .i64 1, .int .i64 1, .string ⟨#[]⟩], .bool true]) (by simp [results, Tryz.results21, go_sem]) rfl ⟨hE.out, by go_grown⟩
  have b1 : (p1.toList == [116, 114, 117, 101]) = false := lit_no (q := trueB) rfl h1
  by_cases h2 : p1 = falseB
  · have hE : Hid (ConstEnds [p1] (.returned (.tuple #[.agg #[.int .i64 1, .int .i64 0, .string ⟨#[]⟩], .bool true]))) := ⟨⟨1, 0, ⟨#[]⟩⟩, true, rfl, fun _ => by rw [constP1, if_neg h0, if_neg h1, if_pos h2], by simp⟩
    clear b0 b1 h0 h1
    subst h2
    unfold falseB at c1
    go_enter Tryz.func21, Tryz.ntmps21
    go_wp2_with fail
    go_region
    go_wp2_with fail
    exact bodyPost_ret (v := .tuple #[.agg #[.int .i64 1, .int .i64 0, .string ⟨#[]⟩], .bool true]) (by simp [results, Tryz.results21, go_sem]) rfl ⟨hE.out, by go_grown⟩
  have b2 : (p1.toList == [102, 97, 108, 115, 101]) = false := lit_no (q := falseB) rfl h2
  have hE : Hid (ConstEnds [p1] (.returned (.tuple #[.agg #[.int .i64 1, .int .i64 0, .string ⟨#[]⟩], .bool false]))) := ⟨⟨1, 0, ⟨#[]⟩⟩, false, rfl, by simp, fun _ => by rw [constP1, if_neg h0, if_neg h1, if_neg h2]⟩
  clear h0 h1 h2
  go_enter Tryz.func21, Tryz.ntmps21
  go_wp2_with fail
  go_region
  go_wp2_with fail
  exact bodyPost_ret (v := .tuple #[.agg #[.int .i64 1, .int .i64 0, .string ⟨#[]⟩], .bool false]) (by simp [results, Tryz.results21, go_sem]) rfl ⟨hE.out, by go_grown⟩
theorem constTwo (p1 p2 : ByteArray) (g c : Nat) (w : World) (c1 : w.cell? ⟨g, 1, none⟩ = some (.string p1)) (c2 : w.cell? ⟨g, 2, none⟩ = some (.string p2)) (hg : g < w.heap.size) (z2 : p2.size ≤ 100000) :
    Calls Tryz.prog 21 #[.slice (some ⟨g, 0, none⟩) 3 c] w fun e w' => ConstEnds [p1, p2] e ∧ Below w.heap.size w w' := by
  have hng : ¬ (g = w.heap.size) := by omega
  have hgl : g < w.heap.size + 1 := by omega
  by_cases h0 : p1 = intB
  · have hcp : Hid (constP [p1, p2] = (decOf p2).map (fun n => ⟨2, n, ⟨#[]⟩⟩)) := by show constP _ = _; rw [constP2, if_pos h0]
    replace h0 := hidR h0
    have c1' : w.cell? ⟨g, 1, none⟩ = some (.string ⟨#[105, 110, 116]⟩) := by rw [c1, h0.out]; rfl
    clear c1
    have hcall := hidR (fun y : World => l6Int_in p2 z2 y)
    go_enter Tryz.func21, Tryz.ntmps21
    go_wp2_with fail
    have RB := RowL.new w [.int .i64 0, .int .i64 0, .string ⟨#[]⟩] 57
    have bw : Below w.heap.size w (w.alloc (.cells #[.int .i64 0, .int .i64 0, .string ⟨#[]⟩] 57)) := (Below.refl _ _).alloc (Nat.le_refl _) _
    generalize w.alloc (.cells #[.int .i64 0, .int .i64 0, .string ⟨#[]⟩] 57) = w2 at RB bw ⊢
    refine Calls.mono (hcall.out _) ?_
    rintro e y1 ⟨⟨n, bo, rfl, hI, ht, hf⟩, b1⟩
    replace RB := RB.call b1
    have bz := bw.trans (b1.mono bw.size)
    have e0 := RB.cell 0 rfl
    have e1 := RB.cell 1 rfl
    have e2 := RB.cell 2 rfl
    have ef := RB.frozen
    have el := RB.lt
    have L := ((RB.set 0 (.int .i64 2)).set 1 (.int .i64 n)).set 2 (.string ⟨#[]⟩)
    have l0 := L.cell 0 rfl
    have l1 := L.cell 1 rfl
    have l2 := L.cell 2 rfl
    have bf := Below.setCell (Below.setCell (Below.setCell bz (p := ⟨w.heap.size, 0, none⟩) (Nat.le_refl _) (.int .i64 2)) (p := ⟨w.heap.size, 1, none⟩) (Nat.le_refl _) (.int .i64 n)) (p := ⟨w.heap.size, 2, none⟩) (Nat.le_refl _) (.string ⟨#[]⟩)
    have hE : Hid (ConstEnds [p1, p2] (.returned (.tuple #[.agg #[.int .i64 2, .int .i64 n, .string ⟨#[]⟩], .bool bo]))) := ⟨⟨2, n, ⟨#[]⟩⟩, bo, rfl, fun h => by rw [hcp.out, ht h]; rfl, fun h => by rw [hcp.out, hf h]; rfl⟩
    clear ht hf hcall hcp bw b1
    replace L := hidR L
    replace RB := hidR RB
    go_wp2_with fail
    exact bodyPost_ret (v := .tuple #[.agg #[.int .i64 2, .int .i64 n, .string ⟨#[]⟩], .bool bo]) (by simp [results, Tryz.results21, go_sem, l0, l1, l2]) rfl ⟨hE.out, bf⟩
  have b0 : (p1.toList == [105, 110, 116]) = false := lit_no (q := intB) rfl h0
  by_cases h1 : p1 = textB
  · have hcp : Hid (constP [p1, p2] = (unhexOf p2).map (fun t => ⟨3, 0, t⟩)) := by show constP _ = _; rw [constP2, if_neg h0, if_pos h1]
    replace h1 := hidR h1
    clear h0
    have c1' : w.cell? ⟨g, 1, none⟩ = some (.string ⟨#[116, 101, 120, 116]⟩) := by rw [c1, h1.out]; rfl
    rw [h1.out] at b0
    clear c1
    clear b0
    have hcall := hidR (fun y : World => l6Unhex_in p2 z2 y)
    go_enter Tryz.func21, Tryz.ntmps21
    go_wp2_with fail
    have RB := RowL.new w [.int .i64 0, .int .i64 0, .string ⟨#[]⟩] 57
    have bw : Below w.heap.size w (w.alloc (.cells #[.int .i64 0, .int .i64 0, .string ⟨#[]⟩] 57)) := (Below.refl _ _).alloc (Nat.le_refl _) _
    generalize w.alloc (.cells #[.int .i64 0, .int .i64 0, .string ⟨#[]⟩] 57) = w2 at RB bw ⊢
    refine Calls.mono (hcall.out _) ?_
    rintro e y1 ⟨⟨t, bo, rfl, ht, hf⟩, b1⟩
    replace RB := RB.call b1
    have bz := bw.trans (b1.mono bw.size)
    have e0 := RB.cell 0 rfl
    have e1 := RB.cell 1 rfl
    have e2 := RB.cell 2 rfl
    have ef := RB.frozen
    have el := RB.lt
    have L := ((RB.set 0 (.int .i64 3)).set 1 (.int .i64 0)).set 2 (.string t)
    have l0 := L.cell 0 rfl
    have l1 := L.cell 1 rfl
    have l2 := L.cell 2 rfl
    have bf := Below.setCell (Below.setCell (Below.setCell bz (p := ⟨w.heap.size, 0, none⟩) (Nat.le_refl _) (.int .i64 3)) (p := ⟨w.heap.size, 1, none⟩) (Nat.le_refl _) (.int .i64 0)) (p := ⟨w.heap.size, 2, none⟩) (Nat.le_refl _) (.string t)
    have hE : Hid (ConstEnds [p1, p2] (.returned (.tuple #[.agg #[.int .i64 3, .int .i64 0, .string t], .bool bo]))) := ⟨⟨3, 0, t⟩, bo, rfl, fun h => by rw [hcp.out, ht h]; rfl, fun h => by rw [hcp.out, hf h]; rfl⟩
    clear ht hf hcall hcp bw b1
    replace L := hidR L
    replace RB := hidR RB
    go_wp2_with fail
    exact bodyPost_ret (v := .tuple #[.agg #[.int .i64 3, .int .i64 0, .string t], .bool bo]) (by simp [results, Tryz.results21, go_sem, l0, l1, l2]) rfl ⟨hE.out, bf⟩
  have b1 : (p1.toList == [116, 101, 120, 116]) = false := lit_no (q := textB) rfl h1
  have hE : Hid (ConstEnds [p1, p2] (.returned (.tuple #[.agg #[.int .i64 0, .int .i64 0, .string ⟨#[]⟩], .bool false]))) := ⟨⟨0, 0, ⟨#[]⟩⟩, false, rfl, by simp, fun _ => by rw [constP2, if_neg h0, if_neg h1]⟩
  clear h0 h1
  go_enter Tryz.func21, Tryz.ntmps21
  go_wp2_with fail
  exact bodyPost_ret (v := .tuple #[.agg #[.int .i64 0, .int .i64 0, .string ⟨#[]⟩], .bool false]) (by simp [results, Tryz.results21, go_sem]) rfl ⟨hE.out, by go_grown⟩
theorem constLen (r : List ByteArray) (g c : Nat) (w : World) (hl1 : r.length ≠ 1) (hl2 : r.length ≠ 2) (hN : r.length ≤ 100000) :
    Calls Tryz.prog 21 #[.slice (some ⟨g, 0, none⟩) (r.length + 1) c] w fun e w' => ConstEnds r e ∧ Below w.heap.size w w' := by
  have hE : Hid (ConstEnds r (.returned (.tuple #[.agg #[.int .i64 0, .int .i64 0, .string ⟨#[]⟩], .bool false]))) := by
    refine ⟨⟨0, 0, ⟨#[]⟩⟩, false, rfl, by simp, fun _ => ?_⟩
    unfold constP
    split
    · exact absurd rfl hl1
    · exact absurd rfl hl2
    · rfl
  have hla : (((r.length : Int) + 1) == 2) = false := by simp; omega
  have hlb : (((r.length : Int) + 1) == 3) = false := by simp; omega
  generalize r.length = n at hl1 hl2 hla hlb hN ⊢
  go_enter Tryz.func21, Tryz.ntmps21
  go_wp2_with fail
  exact bodyPost_ret (v := .tuple #[.agg #[.int .i64 0, .int .i64 0, .string ⟨#[]⟩], .bool false]) (by simp [results, Tryz.results21, go_sem]) rfl ⟨hE.out, by go_grown⟩
theorem l6ReadConst_in (p0 : ByteArray) (r : List ByteArray) (g c : Nat) (w : World) (hc : ∀ (j : Nat) x, (p0 :: r)[j]? = some x → w.cell? ⟨g, j, none⟩ = some (.string x)) (hg : g < w.heap.size) (hN : r.length ≤ 100000) (hz : ∀ x ∈ r, x.size ≤ 100000) :
    Calls Tryz.prog 21 #[.slice (some ⟨g, 0, none⟩) (r.length + 1) c] w fun e w' => ConstEnds r e ∧ Below w.heap.size w w' := by
  by_cases hl1 : r.length = 1
  · match r, hl1, hc, hz with
    | [p1], _, hc, hz => exact constOne p1 g c w (hc 1 p1 rfl) hg
  by_cases hl2 : r.length = 2
  · match r, hl2, hc, hz with
    | [p1, p2], _, hc, hz => exact constTwo p1 p2 g c w (hc 1 p1 rfl) (hc 2 p2 rfl) hg (hz p2 (by simp))
  · exact constLen r g c w hl1 hl2 hN
end Go.Proofs.YtkanjbopfflioaaGreatDoor

import Derived.Test.YtkanjbopfflioaaGreatDoorG06
import Derived.Test.YtkanjbopfflioaaGreatDoorAoR
namespace Go.Proofs.YtkanjbopfflioaaGreatDoor
section
open Go.RowKit
set_option linter.unusedVariables false
set_option linter.unusedSimpArgs false
set_option maxRecDepth 100000
set_option maxHeartbeats 2000000
/-- what Wide answers. -/
def wideV (op a s : Int) : Value := if (0 ≤ op ∧ op ≤ 63) ∧ (0 ≤ a ∧ a ≤ 255) ∧ (-131072 ≤ s ∧ s ≤ 131071) then ins op a ((s + 131072) % 512) ((s + 131072) / 512) s else ins 0 0 0 0 0
theorem rowSet5 {w : World} {b : Nat} {t : TypeId} {x0 x1 x2 x3 x4 : Value} (h : RowL w b t [x0, x1, x2, x3, x4]) (y0 y1 y2 y3 y4 : Value) :
    RowL (((((w.setCell ⟨b, 0, none⟩ y0).setCell ⟨b, 1, none⟩ y1).setCell ⟨b, 2, none⟩ y2).setCell ⟨b, 3, none⟩ y3).setCell ⟨b, 4, none⟩ y4) b t [y0, y1, y2, y3, y4] :=
  ((((h.set 0 y0).set 1 y1).set 2 y2).set 3 y3).set 4 y4
theorem specWide_yes (op a s : Int) (w : World) (h1 : 0 ≤ op) (h2 : op ≤ 63) (h3 : 0 ≤ a) (h4 : a ≤ 255) (h5 : -131072 ≤ s) (h6 : s ≤ 131071) :
    Calls Tryz.prog 65 #[.int .i64 op, .int .i64 a, .int .i64 s] w fun e w' => e = .returned (ins op a ((s + 131072) % 512) ((s + 131072) / 512) s) ∧ Below w.heap.size w w' := by
  have hm : (s + 131072).tmod 512 = (s + 131072) % 512 := Int.tmod_eq_emod_of_nonneg (by omega)
  have hd : (s + 131072).tdiv 512 = (s + 131072) / 512 := Int.tdiv_eq_ediv_of_nonneg (by omega)
  go_enter Tryz.func65, Tryz.ntmps65
  go_wp2_with fail
  exact bodyPost_ret (v := ins op a ((s + 131072) % 512) ((s + 131072) / 512) s) (by simp [results, Tryz.results65, go_sem]) rfl ⟨rfl, by go_grown⟩
theorem specWide_no (op a s : Int) (w : World) (h1 : 0 ≤ op) (h2 : op ≤ 63) (h3 : -1 ≤ a) (h4 : a ≤ 255) (hn : a < 0 ∨ s < -131072 ∨ 131071 < s) :
    Calls Tryz.prog 65 #[.int .i64 op, .int .i64 a, .int .i64 s] w fun e w' => e = .returned (ins 0 0 0 0 0) ∧ Below w.heap.size w w' := by
  by_cases ha : a < 0
  · go_enter Tryz.func65, Tryz.ntmps65
    go_wp2_with fail
    exact bodyPost_ret (v := ins 0 0 0 0 0) (by simp [results, Tryz.results65, go_sem]) rfl ⟨rfl, by go_grown⟩
  · by_cases hs : s < -131072
    · go_enter Tryz.func65, Tryz.ntmps65
      go_wp2_with fail
      exact bodyPost_ret (v := ins 0 0 0 0 0) (by simp [results, Tryz.results65, go_sem]) rfl ⟨rfl, by go_grown⟩
    · have hs2 : s > 131071 := by omega
      go_enter Tryz.func65, Tryz.ntmps65
      go_wp2_with fail
      exact bodyPost_ret (v := ins 0 0 0 0 0) (by simp [results, Tryz.results65, go_sem]) rfl ⟨rfl, by go_grown⟩
theorem l4I_in (op a b c : Int) (h1 : 0 ≤ op) (h2 : op ≤ 63) (h3 : -1 ≤ a) (h4 : a ≤ 255) (h5 : -1 ≤ b) (h6 : b ≤ 511) (h7 : -1 ≤ c) (h8 : c ≤ 511) (w : World) :
    Calls Tryz.prog 66 #[.int .i64 op, .int .i64 a, .int .i64 b, .int .i64 c] w fun e w' => e = .returned (.int .u32 (packed op a b c (b + 512 * c - 131072))) ∧ Below w.heap.size w w' := by
  have hp := hidR (specPack_any op a b c (b + 512 * c - 131072) w)
  go_enter Tryz.func66, Tryz.ntmps66
  go_wp2_with fail
  refine Calls.mono hp.out ?_
  rintro e y ⟨rfl, b1⟩
  clear hp
  go_wp2_with fail
  exact bodyPost_ret (v := .int .u32 (packed op a b c (b + 512 * c - 131072))) (by simp [results, Tryz.results66, go_sem]) rfl ⟨rfl, b1⟩
end
section
open Go.RowKit
set_option linter.unusedVariables false
set_option linter.unusedSimpArgs false
set_option maxRecDepth 100000
set_option maxHeartbeats 2000000
theorem lit_no {p q : ByteArray} {l : List UInt8} (hq : q.data.toList = l) (h : p ≠ q) : (p.toList == l) = false := by
  have := str_eq p q
  rw [decide_eq_false h, ByteArray.toList_eq q, hq] at this
  exact this
def wordB : ByteArray := ⟨#[119, 111, 114, 100]⟩
/-- a word that has no name. -/
noncomputable def wordN (r : List ByteArray) : Option Int := match r with
  | [p] => if 0 ≤ natOf p 4294967295 ∧ natOf p 4294967295 % 64 > 33 then some (natOf p 4294967295) else none
  | _ => none
/-- a word of operation k. -/
noncomputable def wordK (k : Nat) (r : List ByteArray) : Option Int :=
  if WideOp k then match r with
    | [p, q] => match decOf q with
      | some s => if 0 ≤ natOf p 255 ∧ -131072 ≤ s ∧ s ≤ 131071 then some (packed k (natOf p 255) ((s + 131072) % 512) ((s + 131072) / 512) s) else none
      | none => none
    | _ => none
  else match r with
    | [p, q, t] => if 0 ≤ natOf p 255 ∧ 0 ≤ natOf q 511 ∧ 0 ≤ natOf t 511 then some (packed k (natOf p 255) (natOf q 511) (natOf t 511) (natOf q 511 + 512 * natOf t 511 - 131072)) else none
    | _ => none
/-- what a line of code says. -/
inductive StepW (p : ByteArray) (r : List ByteArray) : Option Int → Prop
  | word : p = wordB → StepW p r (wordN r)
  | op {k : Nat} : k < 34 → nm k = p → StepW p r (wordK k r)
  | none : p ≠ wordB → (∀ k, k < 34 → nm k ≠ p) → StepW p r none
theorem nm_word : ∀ k : Fin 34, nm k.val ≠ wordB := by decide
theorem natOf_bd (p : ByteArray) {hi : Int} (h : 0 ≤ hi) : -1 ≤ natOf p hi ∧ natOf p hi ≤ hi := by
  unfold natOf
  split
  · split <;> omega
  · omega
/-- what the reader of a word gives. -/
def WordEnds (p : ByteArray) (r : List ByteArray) (e : Ending) : Prop := ∃ (x : Int) (b : Bool) (R : Option Int), e = .returned (.tuple #[.int .u32 x, .bool b]) ∧ (0 ≤ x ∧ x ≤ 4294967295) ∧ StepW p r R ∧ (b = true → R = some x) ∧ (b = false → R = none)
theorem packed_bd {op a b c s : Int} : 0 ≤ packed op a b c s ∧ packed op a b c s ≤ 4294967295 := by
  unfold packed
  split <;> omega
theorem wordA (p1 : ByteArray) (g c : Nat) (w : World) (c0 : w.cell? ⟨g, 0, none⟩ = some (.string wordB)) (c1 : w.cell? ⟨g, 1, none⟩ = some (.string p1)) (hg : g < w.heap.size) (z1 : p1.size ≤ 100000) :
    Calls Tryz.prog 23 #[.slice (some ⟨g, 0, none⟩) 2 c] w fun e w' => WordEnds wordB [p1] e ∧ Below w.heap.size w w' := by
  have hn := hidR (l6Natural_in p1 z1 4294967295 (by omega) (by omega) w)
  have hb := natOf_bd p1 (hi := 4294967295) (by omega)
  have hR : Hid (StepW wordB [p1] (if 0 ≤ natOf p1 4294967295 ∧ natOf p1 4294967295 % 64 > 33 then some (natOf p1 4294967295) else none)) := StepW.word rfl
  unfold wordB at c0
  generalize natOf p1 4294967295 = n at hn hb hR
  have hcv : 0 ≤ n → IntKind.u32.wrap n = n := fun h => by rw [IntKind.wrap_u32]; omega
  have htm : 0 ≤ n → n.tmod 64 = n % 64 := fun h => Int.tmod_eq_emod_of_nonneg h
  by_cases h0 : n < 0
  · obtain rfl : n = -1 := by omega
    clear hcv htm
    rw [if_neg (by omega)] at hR
    go_enter Tryz.func23, Tryz.ntmps23
    go_wp2_with fail
    refine Calls.mono hn.out ?_
    rintro e y ⟨rfl, b1⟩
    go_wp2_with fail
    exact bodyPost_ret (v := .tuple #[.int .u32 4294967295, .bool false]) (by simp [results, Tryz.results23, go_sem]) rfl ⟨⟨_, _, _, rfl, by omega, hR.out, by simp, fun _ => rfl⟩, b1⟩
  · have hc9 := hcv (by omega)
    have ht9 := htm (by omega)
    clear hcv htm
    by_cases h33 : n % 64 > 33
    · rw [if_pos (by omega)] at hR
      go_enter Tryz.func23, Tryz.ntmps23
      go_wp2_with fail
      refine Calls.mono hn.out ?_
      rintro e y ⟨rfl, b1⟩
      go_wp2_with fail
      exact bodyPost_ret (v := .tuple #[.int .u32 n, .bool true]) (by simp [results, Tryz.results23, go_sem]) rfl ⟨⟨_, _, _, rfl, by omega, hR.out, fun _ => rfl, by simp⟩, b1⟩
    · rw [if_neg (by omega)] at hR
      go_enter Tryz.func23, Tryz.ntmps23
      go_wp2_with fail
      refine Calls.mono hn.out ?_
      rintro e y ⟨rfl, b1⟩
      go_wp2_with fail
      exact bodyPost_ret (v := .tuple #[.int .u32 n, .bool false]) (by simp [results, Tryz.results23, go_sem]; omega) rfl ⟨⟨_, _, _, rfl, by omega, hR.out, by simp, fun _ => rfl⟩, b1⟩
theorem len_ne (n : Nat) (m : Int) (h : (n : Int) ≠ m) : ((n : Int) == m) = false := by simpa using h
theorem wordNo (p0 : ByteArray) (r : List ByteArray) (g c : Nat) (w : World) (c0 : w.cell? ⟨g, 0, none⟩ = some (.string p0)) (hg : g < w.heap.size) (hA : ¬ (p0 = wordB ∧ r.length = 1)) (hno : ∀ k, k < 34 → nm k ≠ p0) (hN : r.length ≤ 100000) :
    Calls Tryz.prog 23 #[.slice (some ⟨g, 0, none⟩) (r.length + 1) c] w fun e w' => WordEnds p0 r e ∧ Below w.heap.size w w' := by
  have hR : Hid (StepW p0 r none) := by
    by_cases h : p0 = wordB
    · have h1 : wordN r = none := by
        unfold wordN
        split
        · exact absurd ⟨h, rfl⟩ hA
        · rfl
      have := StepW.word (r := r) h
      rw [h1] at this
      exact this
    · exact StepW.none h hno
  have hop := hidR (show ∀ y : World, Calls Tryz.prog 62 #[.string p0] y fun e w' => e = .returned (.int .i64 (-1)) ∧ Below y.heap.size y w' from fun y => (opCode_in p0 y).mono fun e w' ⟨⟨x, he, hx⟩, hb⟩ => by
    rcases hx with ⟨k, hk, _, h⟩ | ⟨rfl, _⟩
    · exact absurd h (hno k hk)
    · exact ⟨he, hb⟩)
  clear hno
  by_cases hl : r.length = 1
  · have hp : p0 ≠ wordB := fun e => hA ⟨e, hl⟩
    have hbe : (p0.toList == [119, 111, 114, 100]) = false := lit_no (q := wordB) rfl hp
    rw [hl]
    go_enter Tryz.func23, Tryz.ntmps23
    go_wp2_with fail
    refine Calls.mono (hop.out _) ?_
    rintro e y ⟨rfl, b1⟩
    go_wp2_with fail
    exact bodyPost_ret (v := .tuple #[.int .u32 0, .bool false]) (by simp [results, Tryz.results23, go_sem]) rfl ⟨⟨_, _, _, rfl, by omega, hR.out, by simp, fun _ => rfl⟩, b1⟩
  · have hlb : (((r.length + 1 : Nat) : Int) == 2) = false := len_ne _ _ (by omega)
    push_cast at hlb
    clear hA
    generalize r.length = n at hl hlb hN ⊢
    go_enter Tryz.func23, Tryz.ntmps23
    go_wp2_with fail
    refine Calls.mono (hop.out _) ?_
    rintro e y ⟨rfl, b1⟩
    go_wp2_with fail
    exact bodyPost_ret (v := .tuple #[.int .u32 0, .bool false]) (by simp [results, Tryz.results23, go_sem]) rfl ⟨⟨_, _, _, rfl, by omega, hR.out, by simp, fun _ => rfl⟩, b1⟩
end
end Go.Proofs.YtkanjbopfflioaaGreatDoor

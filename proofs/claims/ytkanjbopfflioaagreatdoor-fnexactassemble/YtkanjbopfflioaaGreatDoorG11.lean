import Derived.Test.YtkanjbopfflioaaGreatDoorG10
import Derived.Test.YtkanjbopfflioaaGreatDoorG00
import Derived.Deep.Cut
namespace Go.Proofs.YtkanjbopfflioaaGreatDoor
section
open Go.RowKit
set_option linter.unusedVariables false
set_option linter.unusedSimpArgs false
set_option maxRecDepth 100000
set_option maxHeartbeats 2000000
theorem nm_inj_fin : ∀ i j : Fin 34, nm i.val = nm j.val → i = j := by decide +kernel
theorem nm_inj {i j : Nat} (hi : i < 34) (hj : j < 34) (h : nm i = nm j) : i = j := congrArg Fin.val (nm_inj_fin ⟨i, hi⟩ ⟨j, hj⟩ h)
theorem opCode_k (k : Nat) (hk : k < 34) (w : World) : Calls Tryz.prog 62 #[.string (nm k)] w fun e w' => e = .returned (.int .i64 (k : Int)) ∧ Below w.heap.size w w' :=
  (opCode_in (nm k) w).mono fun e w' ⟨⟨x, he, hx⟩, hb⟩ => by
    rcases hx with ⟨j, hj, rfl, h⟩ | ⟨_, hno⟩
    · rw [nm_inj hj hk h] at he
      exact ⟨he, hb⟩
    · exact absurd rfl (hno k hk)
theorem packZero : packed 0 0 0 0 0 = 0 := by decide
/-- Pack of Wide. -/
theorem packWide (k : Nat) (hk : k < 34) (a s : Int) (h3 : -1 ≤ a) (h4 : a ≤ 255) : ∃ (V : Value) (x : Int), (0 ≤ x ∧ x ≤ 4294967295) ∧ (0 ≤ a ∧ -131072 ≤ s ∧ s ≤ 131071 → x = packed k a ((s + 131072) % 512) ((s + 131072) / 512) s) ∧
    (∀ y, Calls Tryz.prog 65 #[.int .i64 (k : Int), .int .i64 a, .int .i64 s] y fun e w' => e = .returned V ∧ Below y.heap.size y w') ∧ (∀ y, Calls Tryz.prog 64 #[V] y fun e w' => e = .returned (.int .u32 x) ∧ Below y.heap.size y w') := by
  by_cases hv : 0 ≤ a ∧ -131072 ≤ s ∧ s ≤ 131071
  · exact ⟨_, _, packed_bd, fun _ => rfl, fun y => specWide_yes k a s y (by omega) (by omega) hv.1 h4 hv.2.1 hv.2.2, fun y => specPack_any _ _ _ _ _ y⟩
  · exact ⟨_, _, packed_bd, fun h => absurd h hv, fun y => specWide_no k a s y (by omega) (by omega) h3 h4 (by omega), fun y => specPack_any _ _ _ _ _ y⟩
theorem wordLen (k : Nat) (hk : k < 34) (r : List ByteArray) (g c : Nat) (w : World) (c0 : w.cell? ⟨g, 0, none⟩ = some (.string (nm k))) (hg : g < w.heap.size) (hl : if WideOp k then r.length ≠ 2 else r.length ≠ 3) (hN : r.length ≤ 100000) :
    Calls Tryz.prog 23 #[.slice (some ⟨g, 0, none⟩) (r.length + 1) c] w fun e w' => WordEnds (nm k) r e ∧ Below w.heap.size w w' := by
  have hR : Hid (StepW (nm k) r none) := by
    have h1 : wordK k r = none := by
      unfold wordK
      split
      · rename_i hw
        rw [if_pos hw] at hl
        split
        · exact absurd rfl hl
        · rfl
      · rename_i hw
        rw [if_neg hw] at hl
        split
        · exact absurd rfl hl
        · rfl
    have := StepW.op (r := r) hk rfl
    rw [h1] at this
    exact this
  have hop := hidR (fun y : World => opCode_k k hk y)
  have hwd := hidR (fun y : World => l6Wide_in k hk y)
  have hbe : ((nm k).toList == [119, 111, 114, 100]) = false := lit_no (q := wordB) rfl (nm_word ⟨k, hk⟩)
  have hk0 : ¬ (k : Int) < 0 := by omega
  obtain ⟨P, hP⟩ : ∃ P, nm k = P := ⟨_, rfl⟩
  rw [hP] at c0 hR hop hbe ⊢
  clear hP
  by_cases h1 : r.length = 1
  · rw [h1] at hl ⊢
    clear h1 hN
    by_cases hw : WideOp k
    · rw [if_pos hw] at hl
      rw [decide_eq_true hw] at hwd
      clear hw
      go_enter Tryz.func23, Tryz.ntmps23
      go_wp2_with fail
      refine Calls.mono (hop.out _) ?_
      rintro e y ⟨rfl, b1⟩
      go_wp2_with fail
      refine Calls.mono (hwd.out _) ?_
      rintro e y2 ⟨rfl, b2⟩
      have b3 := b1.trans (b2.mono b1.size)
      clear b1 b2
      go_wp2_with fail
      exact bodyPost_ret (v := .tuple #[.int .u32 0, .bool false]) (by simp [results, Tryz.results23, go_sem] <;> omega) rfl ⟨⟨_, _, _, rfl, by omega, hR.out, by simp, fun _ => rfl⟩, b3⟩
    · rw [if_neg hw] at hl
      rw [decide_eq_false hw] at hwd
      clear hw
      go_enter Tryz.func23, Tryz.ntmps23
      go_wp2_with fail
      refine Calls.mono (hop.out _) ?_
      rintro e y ⟨rfl, b1⟩
      go_wp2_with fail
      refine Calls.mono (hwd.out _) ?_
      rintro e y2 ⟨rfl, b2⟩
      have b3 := b1.trans (b2.mono b1.size)
      clear b1 b2
      go_wp2_with fail
      exact bodyPost_ret (v := .tuple #[.int .u32 0, .bool false]) (by simp [results, Tryz.results23, go_sem] <;> omega) rfl ⟨⟨_, _, _, rfl, by omega, hR.out, by simp, fun _ => rfl⟩, b3⟩
  · have hlb : (((r.length + 1 : Nat) : Int) == 2) = false := len_ne _ _ (by omega)
    push_cast at hlb
    generalize r.length = n at hl hlb hN h1 ⊢
    by_cases hw : WideOp k
    · rw [if_pos hw] at hl
      rw [decide_eq_true hw] at hwd
      have hln : (((n : Int) + 1) != 3) = true := by simp; omega
      clear hw
      go_enter Tryz.func23, Tryz.ntmps23
      go_wp2_with fail
      refine Calls.mono (hop.out _) ?_
      rintro e y ⟨rfl, b1⟩
      go_wp2_with fail
      refine Calls.mono (hwd.out _) ?_
      rintro e y2 ⟨rfl, b2⟩
      have b3 := b1.trans (b2.mono b1.size)
      clear b1 b2
      go_wp2_with fail
      exact bodyPost_ret (v := .tuple #[.int .u32 0, .bool false]) (by simp [results, Tryz.results23, go_sem] <;> omega) rfl ⟨⟨_, _, _, rfl, by omega, hR.out, by simp, fun _ => rfl⟩, b3⟩
    · rw [if_neg hw] at hl
      rw [decide_eq_false hw] at hwd
      have hln : (((n : Int) + 1) != 4) = true := by simp; omega
      clear hw
      go_enter Tryz.func23, Tryz.ntmps23
      go_wp2_with fail
      refine Calls.mono (hop.out _) ?_
      rintro e y ⟨rfl, b1⟩
      go_wp2_with fail
      refine Calls.mono (hwd.out _) ?_
      rintro e y2 ⟨rfl, b2⟩
      have b3 := b1.trans (b2.mono b1.size)
      clear b1 b2
      go_wp2_with fail
      exact bodyPost_ret (v := .tuple #[.int .u32 0, .bool false]) (by simp [results, Tryz.results23, go_sem] <;> omega) rfl ⟨⟨_, _, _, rfl, by omega, hR.out, by simp, fun _ => rfl⟩, b3⟩
theorem wordWide (k : Nat) (hk : k < 34) (hw : WideOp k) (p1 p2 : ByteArray) (g c : Nat) (w : World) (c0 : w.cell? ⟨g, 0, none⟩ = some (.string (nm k))) (c1 : w.cell? ⟨g, 1, none⟩ = some (.string p1)) (c2 : w.cell? ⟨g, 2, none⟩ = some (.string p2)) (hg : g < w.heap.size) (z1 : p1.size ≤ 100000) (z2 : p2.size ≤ 100000) :
    Calls Tryz.prog 23 #[.slice (some ⟨g, 0, none⟩) 3 c] w fun e w' => WordEnds (nm k) [p1, p2] e ∧ Below w.heap.size w w' := by
  have hop := hidR (opCode_k k hk w)
  have hwd := hidR (fun y : World => l6Wide_in k hk y)
  rw [decide_eq_true hw] at hwd
  have hint := hidR (fun y : World => l6Int_in p2 z2 y)
  have hnat := hidR (fun y : World => l6Natural_in p1 z1 255 (by omega) (by omega) y)
  have hb := natOf_bd p1 (hi := 255) (by omega)
  have hR0 : Hid (StepW (nm k) [p1, p2] (match decOf p2 with | some s => if 0 ≤ natOf p1 255 ∧ -131072 ≤ s ∧ s ≤ 131071 then some (packed k (natOf p1 255) ((s + 131072) % 512) ((s + 131072) / 512) s) else none | none => none)) := by
    have := StepW.op (r := [p1, p2]) hk rfl
    unfold wordK at this
    rw [if_pos hw] at this
    exact this
  have hk0 : ¬ (k : Int) < 0 := by omega
  have hpk := hidR (fun (s : Int) => packWide k hk (natOf p1 255) s hb.1 hb.2)
  generalize natOf p1 255 = a at hnat hb hR0 hpk
  obtain ⟨P, hP⟩ : ∃ P, nm k = P := ⟨_, rfl⟩
  rw [hP] at c0 hR0 hop ⊢
  clear hP hw
  go_enter Tryz.func23, Tryz.ntmps23
  go_wp2_with fail
  refine Calls.mono hop.out ?_
  rintro e y ⟨rfl, b1⟩
  have q1 := (b1.cell (p := ⟨g, 1, none⟩) hg).trans c1
  have q2 := (b1.cell (p := ⟨g, 2, none⟩) hg).trans c2
  clear hop c0 c1 c2
  go_wp2_with fail
  refine Calls.mono (hwd.out _) ?_
  rintro e y2 ⟨rfl, b2⟩
  have b3 := b1.trans (b2.mono b1.size)
  have hgy : g < y.heap.size := Nat.lt_of_lt_of_le hg b1.size
  have r1 := (b2.cell (p := ⟨g, 1, none⟩) hgy).trans q1
  have r2 := (b2.cell (p := ⟨g, 2, none⟩) hgy).trans q2
  clear hwd q1 q2 b1
  go_wp2_with fail
  refine Calls.mono (hint.out _) ?_
  rintro e y3 ⟨⟨n, bo, rfl, hI, ht, hf⟩, b4⟩
  have b5 := b3.trans (b4.mono b3.size)
  have hgy2 : g < y2.heap.size := Nat.lt_of_lt_of_le hg b3.size
  have s1 := (b4.cell (p := ⟨g, 1, none⟩) hgy2).trans r1
  clear hint r1 r2 b3 b4 b2
  replace ht := hidR ht
  replace hf := hidR hf
  go_wp2_with fail
  refine Calls.mono (hnat.out _) ?_
  rintro e y4 ⟨rfl, b6⟩
  have b7 := b5.trans (b6.mono b5.size)
  clear hnat s1 b5 b6
  obtain ⟨V, x, hx, hxv, hWd, hPk⟩ := hpk.out n
  replace hWd := hidR hWd
  replace hPk := hidR hPk
  replace hxv := hidR hxv
  clear hpk
  unfold I64 at hI
  go_wp2_with fail
  refine Calls.mono (hWd.out _) ?_
  rintro e y5 ⟨rfl, b8⟩
  have b9 := b7.trans (b8.mono b7.size)
  clear hWd b7 b8
  go_wp2_with fail
  refine Calls.mono (hPk.out _) ?_
  rintro e y6 ⟨rfl, b10⟩
  have b11 := b9.trans (b10.mono b9.size)
  clear hPk b9 b10
  cases bo with
  | false =>
    have hR : Hid (StepW P [p1, p2] none) := by have h := hR0.out; rw [hf.out rfl] at h; exact h
    clear hR0 hf ht
    go_wp2_with fail
    exact bodyPost_ret (v := .tuple #[.int .u32 x, .bool false]) (by simp [results, Tryz.results23, go_sem] <;> omega) rfl ⟨⟨_, _, _, rfl, hx, hR.out, by simp, fun _ => rfl⟩, b11⟩
  | true =>
    have hR1 : Hid (StepW P [p1, p2] (if 0 ≤ a ∧ -131072 ≤ n ∧ n ≤ 131071 then some (packed k a ((n + 131072) % 512) ((n + 131072) / 512) n) else none)) := by have h := hR0.out; rw [ht.out rfl] at h; exact h
    clear hR0 hf ht
    by_cases ha : a < 0
    · have hR : Hid (StepW P [p1, p2] none) := by have h := hR1.out; rw [if_neg (by omega)] at h; exact h
      have ha' : ¬ a ≥ 0 := by omega
      go_wp2_with fail
      exact bodyPost_ret (v := .tuple #[.int .u32 x, .bool false]) (by simp [results, Tryz.results23, go_sem] <;> omega) rfl ⟨⟨_, _, _, rfl, hx, hR.out, by simp, fun _ => rfl⟩, b11⟩
    have ha' : a ≥ 0 := by omega
    by_cases hs1 : n < -131072
    · have hR : Hid (StepW P [p1, p2] none) := by have h := hR1.out; rw [if_neg (by omega)] at h; exact h
      have hs1' : ¬ n ≥ -131072 := by omega
      go_wp2_with fail
      exact bodyPost_ret (v := .tuple #[.int .u32 x, .bool false]) (by simp [results, Tryz.results23, go_sem] <;> omega) rfl ⟨⟨_, _, _, rfl, hx, hR.out, by simp, fun _ => rfl⟩, b11⟩
    have hs1' : n ≥ -131072 := by omega
    by_cases hs2 : n > 131071
    · have hR : Hid (StepW P [p1, p2] none) := by have h := hR1.out; rw [if_neg (by omega)] at h; exact h
      have hs2' : ¬ n ≤ 131071 := by omega
      go_wp2_with fail
      exact bodyPost_ret (v := .tuple #[.int .u32 x, .bool false]) (by simp [results, Tryz.results23, go_sem] <;> omega) rfl ⟨⟨_, _, _, rfl, hx, hR.out, by simp, fun _ => rfl⟩, b11⟩
    have hs2' : n ≤ 131071 := by omega
    have hR : Hid (StepW P [p1, p2] (some x)) := by have h := hR1.out; rw [if_pos ⟨ha', hs1', hs2'⟩] at h; rw [hxv.out ⟨ha', hs1', hs2'⟩]; exact h
    go_wp2_with fail
    exact bodyPost_ret (v := .tuple #[.int .u32 x, .bool true]) (by simp [results, Tryz.results23, go_sem] <;> omega) rfl ⟨⟨_, _, _, rfl, hx, hR.out, fun _ => rfl, by simp⟩, b11⟩
theorem wordThree (k : Nat) (hk : k < 34) (hw : ¬ WideOp k) (p1 p2 p3 : ByteArray) (g c : Nat) (w : World) (c0 : w.cell? ⟨g, 0, none⟩ = some (.string (nm k))) (c1 : w.cell? ⟨g, 1, none⟩ = some (.string p1)) (c2 : w.cell? ⟨g, 2, none⟩ = some (.string p2)) (c3 : w.cell? ⟨g, 3, none⟩ = some (.string p3)) (hg : g < w.heap.size) (z1 : p1.size ≤ 100000) (z2 : p2.size ≤ 100000) (z3 : p3.size ≤ 100000) :
    Calls Tryz.prog 23 #[.slice (some ⟨g, 0, none⟩) 4 c] w fun e w' => WordEnds (nm k) [p1, p2, p3] e ∧ Below w.heap.size w w' := by
  have hop := hidR (opCode_k k hk w)
  have hwd := hidR (fun y : World => l6Wide_in k hk y)
  rw [decide_eq_false hw] at hwd
  have hn1 := hidR (fun y : World => l6Natural_in p1 z1 255 (by omega) (by omega) y)
  have hn2 := hidR (fun y : World => l6Natural_in p2 z2 511 (by omega) (by omega) y)
  have hn3 := hidR (fun y : World => l6Natural_in p3 z3 511 (by omega) (by omega) y)
  have hb1 := natOf_bd p1 (hi := 255) (by omega)
  have hb2 := natOf_bd p2 (hi := 511) (by omega)
  have hb3 := natOf_bd p3 (hi := 511) (by omega)
  have hR0 : Hid (StepW (nm k) [p1, p2, p3] (if 0 ≤ natOf p1 255 ∧ 0 ≤ natOf p2 511 ∧ 0 ≤ natOf p3 511 then some (packed k (natOf p1 255) (natOf p2 511) (natOf p3 511) (natOf p2 511 + 512 * natOf p3 511 - 131072)) else none)) := by
    have := StepW.op (r := [p1, p2, p3]) hk rfl
    unfold wordK at this
    rw [if_neg hw] at this
    exact this
  have hk0 : ¬ (k : Int) < 0 := by omega
  have hI4 := hidR (fun y : World => l4I_in k (natOf p1 255) (natOf p2 511) (natOf p3 511) (by omega) (by omega) hb1.1 hb1.2 hb2.1 hb2.2 hb3.1 hb3.2 y)
  generalize natOf p1 255 = a at hn1 hb1 hR0 hI4
  generalize natOf p2 511 = b at hn2 hb2 hR0 hI4
  generalize natOf p3 511 = d at hn3 hb3 hR0 hI4
  have hx : 0 ≤ packed k a b d (b + 512 * d - 131072) ∧ packed k a b d (b + 512 * d - 131072) ≤ 4294967295 := packed_bd
  generalize packed k a b d (b + 512 * d - 131072) = x at hR0 hI4 hx
  obtain ⟨P, hP⟩ : ∃ P, nm k = P := ⟨_, rfl⟩
  rw [hP] at c0 hR0 hop ⊢
  clear hP hw
  go_enter Tryz.func23, Tryz.ntmps23
  go_wp2_with fail
  refine Calls.mono hop.out ?_
  rintro e y ⟨rfl, b1⟩
  have q1 := (b1.cell (p := ⟨g, 1, none⟩) hg).trans c1
  have q2 := (b1.cell (p := ⟨g, 2, none⟩) hg).trans c2
  have q3 := (b1.cell (p := ⟨g, 3, none⟩) hg).trans c3
  clear hop c0 c1 c2 c3
  go_wp2_with fail
  refine Calls.mono (hwd.out _) ?_
  rintro e y2 ⟨rfl, b2⟩
  have b3 := b1.trans (b2.mono b1.size)
  have hgy : g < y.heap.size := Nat.lt_of_lt_of_le hg b1.size
  have r1 := (b2.cell (p := ⟨g, 1, none⟩) hgy).trans q1
  have r2 := (b2.cell (p := ⟨g, 2, none⟩) hgy).trans q2
  have r3 := (b2.cell (p := ⟨g, 3, none⟩) hgy).trans q3
  clear hwd q1 q2 q3 b1 b2
  have hgy2 : g < y2.heap.size := Nat.lt_of_lt_of_le hg b3.size
  go_wp2_with fail
  refine Calls.mono (hn1.out _) ?_
  rintro e y3 ⟨rfl, b4⟩
  have b5 := b3.trans (b4.mono b3.size)
  have s2 := (b4.cell (p := ⟨g, 2, none⟩) hgy2).trans r2
  have s3 := (b4.cell (p := ⟨g, 3, none⟩) hgy2).trans r3
  clear hn1 r1 r2 r3 b3 b4
  have hgy3 : g < y3.heap.size := Nat.lt_of_lt_of_le hg b5.size
  go_wp2_with fail
  refine Calls.mono (hn2.out _) ?_
  rintro e y4 ⟨rfl, b6⟩
  have b7 := b5.trans (b6.mono b5.size)
  have u3 := (b6.cell (p := ⟨g, 3, none⟩) hgy3).trans s3
  clear hn2 s2 s3 b5 b6
  go_wp2_with fail
  refine Calls.mono (hn3.out _) ?_
  rintro e y5 ⟨rfl, b8⟩
  have b9 := b7.trans (b8.mono b7.size)
  clear hn3 u3 b7 b8
  go_wp2_with fail
  refine Calls.mono (hI4.out _) ?_
  rintro e y6 ⟨rfl, b10⟩
  have b11 := b9.trans (b10.mono b9.size)
  clear hI4 b9 b10
  by_cases ha : a < 0
  · have hR : Hid (StepW P [p1, p2, p3] none) := by have h := hR0.out; rw [if_neg (by omega)] at h; exact h
    have ha' : ¬ a ≥ 0 := by omega
    go_wp2_with fail
    exact bodyPost_ret (v := .tuple #[.int .u32 x, .bool false]) (by simp [results, Tryz.results23, go_sem] <;> omega) rfl ⟨⟨_, _, _, rfl, hx, hR.out, by simp, fun _ => rfl⟩, b11⟩
  have ha' : a ≥ 0 := by omega
  by_cases hb : b < 0
  · have hR : Hid (StepW P [p1, p2, p3] none) := by have h := hR0.out; rw [if_neg (by omega)] at h; exact h
    have hb' : ¬ b ≥ 0 := by omega
    go_wp2_with fail
    exact bodyPost_ret (v := .tuple #[.int .u32 x, .bool false]) (by simp [results, Tryz.results23, go_sem] <;> omega) rfl ⟨⟨_, _, _, rfl, hx, hR.out, by simp, fun _ => rfl⟩, b11⟩
  have hb' : b ≥ 0 := by omega
  by_cases hd : d < 0
  · have hR : Hid (StepW P [p1, p2, p3] none) := by have h := hR0.out; rw [if_neg (by omega)] at h; exact h
    have hd' : ¬ d ≥ 0 := by omega
    go_wp2_with fail
    exact bodyPost_ret (v := .tuple #[.int .u32 x, .bool false]) (by simp [results, Tryz.results23, go_sem] <;> omega) rfl ⟨⟨_, _, _, rfl, hx, hR.out, by simp, fun _ => rfl⟩, b11⟩
  have hd' : d ≥ 0 := by omega
  have hR : Hid (StepW P [p1, p2, p3] (some x)) := by have h := hR0.out; rw [if_pos ⟨ha', hb', hd'⟩] at h; exact h
  go_wp2_with fail
  exact bodyPost_ret (v := .tuple #[.int .u32 x, .bool true]) (by simp [results, Tryz.results23, go_sem] <;> omega) rfl ⟨⟨_, _, _, rfl, hx, hR.out, fun _ => rfl, by simp⟩, b11⟩
theorem l6ReadWord_in (p0 : ByteArray) (r : List ByteArray) (g c : Nat) (w : World) (hc : ∀ (j : Nat) x, (p0 :: r)[j]? = some x → w.cell? ⟨g, j, none⟩ = some (.string x)) (hg : g < w.heap.size) (hN : r.length ≤ 100000) (hz : ∀ x ∈ r, x.size ≤ 100000) :
    Calls Tryz.prog 23 #[.slice (some ⟨g, 0, none⟩) (r.length + 1) c] w fun e w' => WordEnds p0 r e ∧ Below w.heap.size w w' := by
  have c0 := hc 0 p0 rfl
  by_cases hA : p0 = wordB ∧ r.length = 1
  · obtain ⟨rfl, hl⟩ := hA
    match r, hl, hc, hz with
    | [p1], _, hc, hz => exact wordA p1 g c w c0 (hc 1 p1 rfl) hg (hz p1 (by simp))
  by_cases hno : ∀ k, k < 34 → nm k ≠ p0
  · exact wordNo p0 r g c w c0 hg hA hno hN
  · have hno2 : ∃ k, k < 34 ∧ nm k = p0 := Classical.byContradiction fun h => hno fun k hk e => h ⟨k, hk, e⟩
    obtain ⟨k, hk, rfl⟩ := hno2
    by_cases hw : WideOp k
    · by_cases hl : r.length = 2
      · match r, hl, hc, hz with
        | [p1, p2], _, hc, hz => exact wordWide k hk hw p1 p2 g c w c0 (hc 1 p1 rfl) (hc 2 p2 rfl) hg (hz p1 (by simp)) (hz p2 (by simp))
      · exact wordLen k hk r g c w c0 hg (by rw [if_pos hw]; exact hl) hN
    · by_cases hl : r.length = 3
      · match r, hl, hc, hz with
        | [p1, p2, p3], _, hc, hz => exact wordThree k hk hw p1 p2 p3 g c w c0 (hc 1 p1 rfl) (hc 2 p2 rfl) (hc 3 p3 rfl) hg (hz p1 (by simp)) (hz p2 (by simp)) (hz p3 (by simp))
      · exact wordLen k hk r g c w c0 hg (by rw [if_neg hw]; exact hl) hN
end
section
open Go.RowKit
set_option linter.unusedVariables false
set_option linter.unusedSimpArgs false
set_option maxRecDepth 100000
set_option maxHeartbeats 1000000
theorem RowL.setRow {w : World} {b : Nat} {t : TypeId} {L : List Value} (h : RowL w b t L) (vs : List Value) (hl : vs.length = L.length) : RowL (w.setRow b vs.toArray) b t vs := by
  obtain ⟨c, hc, hs, _⟩ := h
  refine ⟨vs.toArray, setRow_heap w b c _ t _ hc, by simp, fun i hi => ?_⟩
  simp [hi, List.getD]
theorem RowL.rowOther {w : World} {b g : Nat} {t : TypeId} {L : List Value} (h : RowL w b t L) (hb : b ≠ g) (c : Array Value) : RowL (w.setRow g c) b t L := World.rowIs.of_block h (setRow_other _ _ _ _ hb)
theorem below_row {n b : Nat} {w w' : World} (h : Below n w w') (hb : n ≤ b) (c : Array Value) : Below n w (w'.setRow b c) :=
  ⟨h.os, h.tape, h.output, by rw [setRow_size]; exact h.size, fun i hi => (setRow_other _ _ _ _ (by omega)).trans (h.block i hi)⟩
theorem step_store_row {P : Program} {ops : Array Oper} {o : Oper} {a : Act} {w : World} {K : Act → World → Prop} {Q : Exit → Act → World → Prop} {E : Prop} (ty : TypeId) (x y : Operand) (hgd : o.guard = none) (ho : o.op = .store ty x y)
    (g : Nat) (cells : Array Value) (hx : a.eval x = .pointer (some ⟨g, 0, none⟩)) (hy : a.eval y = .agg cells)
    (t : TypeId) (old : Array Value) (hg : w.heap[g]? = some (.cells old t (0, 0))) (hi : (P.info? ty).map (·.size) = some cells.size)
    (hold : old.size = cells.size) (h1 : cells.all (·.oneCell') = true)
    (h : K (a.put o.dst undef) (w.setRow g cells)) : if Region.wanted o (yielded ops a.tmps) = true then Oper.wp P o a w K Q else E := by
  have hw : Region.wanted o (yielded ops a.tmps) = true := by simp [Region.wanted, hgd]
  rw [if_pos hw]
  exact wp_store_row ty x y ho g cells hx hy t old hg hi hold h1 h
theorem ready_storeL {P : Program} {md : Region.Mode} {ops : Array Oper} {Q : Exit → Act → World → Prop} {S : World → Prop} {fuel : Nat} {listed : Array Bool} {a : Act} {w : World} (i : Nat) {o : Oper} (hr : Region.ready md ops listed = [i]) (hi : ops[i]? = some o)
    (ty : TypeId) (x y : Operand) (hgd : o.guard = none) (ho : o.op = .store ty x y) (hd : o.dst = none)
    (g : Nat) (L vs : List Value) (hx : a.eval x = .pointer (some ⟨g, 0, none⟩)) (hy : a.eval y = .agg vs.toArray)
    (t : TypeId) (hg : RowL w g t L) (hin : (P.info? ty).map (·.size) = some vs.length)
    (hold : L.length = vs.length) (h1 : vs.all (·.oneCell') = true) (hS : S (w.setRow g vs.toArray))
    (h : wpAnyH P md ops Q S fuel (listed.setIfInBounds i true) a (w.setRow g vs.toArray)) : wpAnyH P md ops Q S (fuel + 1) listed a w := by
  obtain ⟨old, hg, ho1, _⟩ := hg
  exact wpAnyH_ready hr (by simp) (AllReadyH.cons hi (fun K hK => step_store_row ty x y hgd ho g vs.toArray hx hy t old hg (by simpa using hin) (by simp; omega) (by simpa using h1) (hK.out _ _ hS (fun _ => by rw [hd]; exact h))) AllReadyH.nil)
theorem infP1 : (Tryz.prog.info? 53).map (·.size) = some 10 := by kernel_rfl
theorem infU1 : (Tryz.prog.info? 61).map (·.size) = some 2 := by kernel_rfl
theorem infC1 : (Tryz.prog.info? 24).map (·.size) = some 1 := by kernel_rfl
end
section
open Go.RowKit Go.Shelf
set_option linter.unusedVariables false
set_option linter.unusedSimpArgs false
set_option maxRecDepth 100000
set_option maxHeartbeats 2000000
def stackB : ByteArray := ⟨#[115, 116, 97, 99, 107]⟩
def cellB : ByteArray := ⟨#[99, 101, 108, 108]⟩
/-- what a line up says. -/
noncomputable def upP (r : List ByteArray) : Option UD := match r with
  | [p, q] => if (p = stackB ∨ p = cellB) ∧ 0 ≤ natOf q 16777215 then some ⟨decide (p = stackB), natOf q 16777215⟩ else none
  | _ => none
def UpEnds (r : List ByteArray) (e : Ending) : Prop := ∃ (u : UD) (b : Bool), e = .returned (.tuple #[.agg #[.bool u.stack, .int .i64 u.index], .bool b]) ∧ (b = true → upP r = some u) ∧ (b = false → upP r = none)
theorem lit_is {p q : ByteArray} {l : List UInt8} (hq : q.data.toList = l) : (p.toList == l) = decide (p = q) := by
  have := str_eq p q
  rw [ByteArray.toList_eq q, hq] at this
  exact this
theorem upTwo (p1 p2 : ByteArray) (g c : Nat) (w : World) (c1 : w.cell? ⟨g, 1, none⟩ = some (.string p1)) (c2 : w.cell? ⟨g, 2, none⟩ = some (.string p2)) (hg : g < w.heap.size) (z2 : p2.size ≤ 100000) :
    Calls Tryz.prog 22 #[.slice (some ⟨g, 0, none⟩) 3 c] w fun e w' => UpEnds [p1, p2] e ∧ Below w.heap.size w w' := by
  have hnat := hidR (fun y : World => l6Natural_in p2 z2 16777215 (by omega) (by omega) y)
  have hb := natOf_bd p2 (hi := 16777215) (by omega)
  have hR0 : Hid (upP [p1, p2] = if (p1 = stackB ∨ p1 = cellB) ∧ 0 ≤ natOf p2 16777215 then some ⟨decide (p1 = stackB), natOf p2 16777215⟩ else none) := rfl
  generalize natOf p2 16777215 = n at hnat hb hR0
  have hst0 := lit_is (p := p1) (q := stackB) rfl
  have hce0 := lit_is (p := p1) (q := cellB) rfl
  obtain ⟨st, hst⟩ : ∃ st, decide (p1 = stackB) = st := ⟨_, rfl⟩
  obtain ⟨ce, hce⟩ : ∃ ce, decide (p1 = cellB) = ce := ⟨_, rfl⟩
  rw [hst] at hst0
  rw [hce] at hce0
  replace hst := hidR hst
  replace hce := hidR hce
  replace hst0 : (p1.toList == [115, 116, 97, 99, 107]) = st := hst0
  replace hce0 : (p1.toList == [99, 101, 108, 108]) = ce := hce0
  go_enter Tryz.func22, Tryz.ntmps22
  go_upto_region 1 with fail
  have RB := RowL.new w [.bool false, .int .i64 0] 61
  have bw : Below w.heap.size w (w.alloc (.cells #[.bool false, .int .i64 0] 61)) := (Below.refl _ _).alloc (Nat.le_refl _) _
  generalize w.alloc (.cells #[.bool false, .int .i64 0] 61) = w2 at RB bw ⊢
  have hg2 : g < w2.heap.size := Nat.lt_of_lt_of_le hg bw.size
  have d1 := (bw.cell (p := ⟨g, 1, none⟩) hg).trans c1
  have d2 := (bw.cell (p := ⟨g, 2, none⟩) hg).trans c2
  clear c1 c2
  have hSk : Hid (∀ y, Below w2.heap.size w2 y → (y.cell? ⟨g, 1, none⟩ = some (.string p1) ∧ y.cell? ⟨g, 2, none⟩ = some (.string p2))) := fun y hy => ⟨(hy.cell (p := ⟨g, 1, none⟩) hg2).trans d1, (hy.cell (p := ⟨g, 2, none⟩) hg2).trans d2⟩
  go_upto_region 3 with fail
  clear d1 d2
  replace RB := hidR RB
  replace bw := hidR bw
  go_cut [4] from 5 (fun u wr => ∃ UB, u = .pointer (some ⟨UB, 0, none⟩) ∧ w2.heap.size ≤ UB ∧ Hid (RowL wr UB 61 [.bool st, .int .i64 n] ∧ Below w2.heap.size w2 wr))
  case first =>
    have bY0 : Below w2.heap.size w2 w2.drew := (Below.refl _ _).drew
    have hS0 := hSk.out _ bY0
    refine wp_region_held_drew (S := fun y => y.cell? ⟨g, 1, none⟩ = some (.string p1) ∧ y.cell? ⟨g, 2, none⟩ = some (.string p2)) (by kernel_rfl) hS0 (fun hH => ?_)
    clear hH
    generalize w2.drew = yd at bY0 hS0 ⊢
    refine take_dst 0 9 (.slice (some ⟨g, 0, none⟩) 3 c) rfl (by kernel_rfl) (by kernel_rfl) (by kernel_rfl) (fun _ _ _ h => h) (Or.inl ⟨by rfl, by intro wv hSv; (try dsimp only at hSv); go_simp⟩) hS0 rfl ?_
    try simp only [Act.put, List.setIfInBounds_toArray, List.set_cons_zero, List.set_cons_succ]
    refine take_dst 1 10 (.pointer (some ⟨g, 1, none⟩)) rfl (by kernel_rfl) (by kernel_rfl) (by kernel_rfl) (fun _ _ _ h => h) (Or.inl ⟨by rfl, by intro wv hSv; (try dsimp only at hSv); go_simp⟩) hS0 rfl ?_
    try simp only [Act.put, List.setIfInBounds_toArray, List.set_cons_zero, List.set_cons_succ]
    refine take_dst 2 11 (.string p1) rfl (by kernel_rfl) (by kernel_rfl) (by kernel_rfl) (fun _ _ _ h => h) (Or.inl ⟨by rfl, by intro wv hSv; (try dsimp only at hSv); go_simp⟩) hS0 rfl ?_
    try simp only [Act.put, List.setIfInBounds_toArray, List.set_cons_zero, List.set_cons_succ]
    refine take_dst 3 12 (.bool st) rfl (by kernel_rfl) (by kernel_rfl) (by kernel_rfl) (fun _ _ _ h => h) (Or.inl ⟨by rfl, by intro wv hSv; (try dsimp only at hSv); go_simp⟩) hS0 rfl ?_
    try simp only [Act.put, List.setIfInBounds_toArray, List.set_cons_zero, List.set_cons_succ]
    refine take_dst 4 13 (.slice (some ⟨g, 0, none⟩) 3 c) rfl (by kernel_rfl) (by kernel_rfl) (by kernel_rfl) (fun _ _ _ h => h) (Or.inl ⟨by rfl, by intro wv hSv; (try dsimp only at hSv); go_simp⟩) hS0 rfl ?_
    try simp only [Act.put, List.setIfInBounds_toArray, List.set_cons_zero, List.set_cons_succ]
    refine take_dst 5 14 (.pointer (some ⟨g, 2, none⟩)) rfl (by kernel_rfl) (by kernel_rfl) (by kernel_rfl) (fun _ _ _ h => h) (Or.inl ⟨by rfl, by intro wv hSv; (try dsimp only at hSv); go_simp⟩) hS0 rfl ?_
    try simp only [Act.put, List.setIfInBounds_toArray, List.set_cons_zero, List.set_cons_succ]
    refine take_dst 6 15 (.string p2) rfl (by kernel_rfl) (by kernel_rfl) (by kernel_rfl) (fun _ _ _ h => h) (Or.inl ⟨by rfl, by intro wv hSv; (try dsimp only at hSv); go_simp⟩) hS0 rfl ?_
    try simp only [Act.put, List.setIfInBounds_toArray, List.set_cons_zero, List.set_cons_succ]
    refine wpAnyH_ready (rs := [7, 9]) (by kernel_rfl) (by simp) ?_
    refine (AllReadyH.cons rfl (fun K hK => ?_) (AllReadyH.cons rfl (fun K hK => ?_) AllReadyH.nil))
    ·
      go_simp
      refine Calls.mono (hnat.out _) ?_
      rintro e y1 ⟨rfl, b1⟩
      have bY1 := bY0.trans (b1.mono bY0.size)
      have hS1 := hSk.out _ bY1
      go_wp2_with fail
      refine hK.out _ _ hS1 (fun _ => ?_)
      clear hK K
      try simp only [Act.put, List.setIfInBounds_toArray, List.set_cons_zero, List.set_cons_succ]
      refine take_dst 8 17 (.agg #[.bool st, .int .i64 n]) rfl (by kernel_rfl) (by kernel_rfl) (by kernel_rfl) (fun _ _ _ h => h) (Or.inl ⟨by rfl, by intro wv hSv; go_simp⟩) hS1 rfl ?_
      try simp only [Act.put, List.setIfInBounds_toArray, List.set_cons_zero, List.set_cons_succ]
      refine wpAnyH_ready (rs := [9]) (by kernel_rfl) (by simp) ?_
      refine (AllReadyH.cons rfl (fun K hK => ?_) AllReadyH.nil)
      go_simp
      have b2 : Below y1.heap.size y1 (y1.alloc (.cells #[.bool false, .int .i64 0] 61)) := (Below.refl _ _).alloc (Nat.le_refl _) _
      have bY2 := bY1.trans (b2.mono bY1.size)
      have hS2 := hSk.out _ bY2
      have hU2 := RowL.new y1 [.bool false, .int .i64 0] 61
      refine hK.out _ _ hS2 (fun _ => ?_)
      clear hK K
      try simp only [Act.put, List.setIfInBounds_toArray, List.set_cons_zero, List.set_cons_succ]
      generalize y1.alloc (.cells #[.bool false, .int .i64 0] 61) = y2 at b2 bY2 hS2 hU2 ⊢
      have hle : w2.heap.size ≤ y1.heap.size := by have := bY1.size; omega
      have hSf := hSk.out _ (below_row bY2 hle #[.bool st, .int .i64 n])
      have hfin := hidR (show RowL (y2.setRow (y1.heap.size) #[.bool st, .int .i64 n]) (y1.heap.size) 61 [.bool st, .int .i64 n] ∧ Below w2.heap.size w2 (y2.setRow (y1.heap.size) #[.bool st, .int .i64 n]) from ⟨hU2.setRow [.bool st, .int .i64 n] rfl, below_row bY2 hle _⟩)
      refine ready_storeL 10 (by kernel_rfl) rfl 61 (.tmp 4) (.tmp 17) rfl rfl rfl (y1.heap.size) _ [.bool st, .int .i64 n] rfl rfl _ hU2 infU1 rfl (by simp [Value.oneCell']) hSf ?_
      refine wpAnyH_done (by kernel_rfl) ?_ _
      go_wp2_with fail
      go_meet
      case rel => exact ⟨y1.heap.size, rfl, hle, hfin.out⟩
    ·
      go_simp
      have b3 : Below yd.heap.size yd (yd.alloc (.cells #[.bool false, .int .i64 0] 61)) := (Below.refl _ _).alloc (Nat.le_refl _) _
      have bY3 := bY0.trans (b3.mono bY0.size)
      have hS3 := hSk.out _ bY3
      have hU3 := RowL.new yd [.bool false, .int .i64 0] 61
      refine hK.out _ _ hS3 (fun _ => ?_)
      clear hK K
      try simp only [Act.put, List.setIfInBounds_toArray, List.set_cons_zero, List.set_cons_succ]
      generalize yd.alloc (.cells #[.bool false, .int .i64 0] 61) = y3 at b3 bY3 hS3 hU3 ⊢
      refine wpAnyH_ready (rs := [7]) (by kernel_rfl) (by simp) ?_
      refine (AllReadyH.cons rfl (fun K hK => ?_) AllReadyH.nil)
      go_simp
      refine Calls.mono (hnat.out _) ?_
      rintro e y4 ⟨rfl, b4⟩
      have bY4 := bY3.trans (b4.mono bY3.size)
      have hS4 := hSk.out _ bY4
      have hU4 := hU3.call b4
      go_wp2_with fail
      refine hK.out _ _ hS4 (fun _ => ?_)
      clear hK K
      try simp only [Act.put, List.setIfInBounds_toArray, List.set_cons_zero, List.set_cons_succ]
      refine take_dst 8 17 (.agg #[.bool st, .int .i64 n]) rfl (by kernel_rfl) (by kernel_rfl) (by kernel_rfl) (fun _ _ _ h => h) (Or.inl ⟨by rfl, by intro wv hSv; go_simp⟩) hS4 rfl ?_
      try simp only [Act.put, List.setIfInBounds_toArray, List.set_cons_zero, List.set_cons_succ]
      have hle : w2.heap.size ≤ yd.heap.size := by have := bY0.size; omega
      have hSf := hSk.out _ (below_row bY4 hle #[.bool st, .int .i64 n])
      have hfin := hidR (show RowL (y4.setRow (yd.heap.size) #[.bool st, .int .i64 n]) (yd.heap.size) 61 [.bool st, .int .i64 n] ∧ Below w2.heap.size w2 (y4.setRow (yd.heap.size) #[.bool st, .int .i64 n]) from ⟨hU4.setRow [.bool st, .int .i64 n] rfl, below_row bY4 hle _⟩)
      refine ready_storeL 10 (by kernel_rfl) rfl 61 (.tmp 4) (.tmp 17) rfl rfl rfl (yd.heap.size) _ [.bool st, .int .i64 n] rfl rfl _ hU4 infU1 rfl (by simp [Value.oneCell']) hSf ?_
      refine wpAnyH_done (by kernel_rfl) ?_ _
      go_wp2_with fail
      go_meet
      case rel => exact ⟨yd.heap.size, rfl, hle, hfin.out⟩
  obtain ⟨UB, rfl, hle, hq⟩ := hcut
  obtain ⟨yz, hyz⟩ : ∃ x, x = wc := ⟨_, rfl⟩
  subst hyz
  have hU := hq.out.1
  have hB := hq.out.2
  have hR := RB.out.call hB
  have bz := bw.out.trans (hB.mono bw.out.size)
  obtain ⟨d1, -⟩ := hSk.out _ hB
  have u0 := hU.cell 0 rfl
  have u1 := hU.cell 1 rfl
  have ul := hU.lt
  have e0 := hR.cell 0 rfl
  have e1 := hR.cell 1 rfl
  have ef := hR.frozen
  have el := hR.lt
  have gl : g < yz.heap.size := Nat.lt_of_lt_of_le hg2 hB.size
  have hwl : w.heap.size < w2.heap.size := RB.out.lt
  have L := (hR.set 0 (.bool st)).set 1 (.int .i64 n)
  have l0 := L.cell 0 rfl
  have l1 := L.cell 1 rfl
  have bf := Below.setCell (Below.setCell bz (p := ⟨w.heap.size, 0, none⟩) (Nat.le_refl _) (.bool st)) (p := ⟨w.heap.size, 1, none⟩) (Nat.le_refl _) (.int .i64 n)
  replace L := hidR L
  replace hR := hidR hR
  replace hU := hidR hU
  clear hq hSk hnat
  have hends : Hid (∀ b : Bool, b = ((st || ce) && decide (0 ≤ n)) → UpEnds [p1, p2] (.returned (.tuple #[.agg #[.bool st, .int .i64 n], .bool b]))) := fun b hb9 => by
    refine ⟨⟨st, n⟩, b, rfl, fun h => ?_, fun h => ?_⟩
    · rw [h] at hb9
      rw [hR0.out, hst.out]
      rw [← hst.out, ← hce.out] at hb9
      have h2 := hb9.symm
      simp only [Bool.and_eq_true, Bool.or_eq_true, decide_eq_true_eq] at h2
      rw [if_pos h2]
    · rw [h] at hb9
      rw [hR0.out]
      rw [← hst.out, ← hce.out] at hb9
      rw [if_neg]
      intro h2
      have : ((decide (p1 = stackB) || decide (p1 = cellB)) && decide (0 ≤ n)) = true := by simpa using h2
      rw [this] at hb9
      cases hb9
  clear hR0 hst hce
  have hne1 : ¬ (UB = w.heap.size) := by omega
  have hne2 : ¬ (w.heap.size = UB) := by omega
  by_cases hn0 : n ≥ 0
  ·
    cases st with
    | true =>
      have hE := hidR (hends.out true (by simp; omega))
      clear hends
      go_wp2_with fail
      go_region
      go_wp2_with fail
      exact bodyPost_ret (v := .tuple #[.agg #[.bool true, .int .i64 n], .bool true]) (by simp [results, Tryz.results22, go_sem, l0, l1] <;> omega) rfl ⟨hE.out, bf.drew⟩
    | false =>
      cases ce with
      | true =>
        have hE := hidR (hends.out true (by simp; omega))
        clear hends
        go_wp2_with fail
        go_region
        go_wp2_with fail
        exact bodyPost_ret (v := .tuple #[.agg #[.bool false, .int .i64 n], .bool true]) (by simp [results, Tryz.results22, go_sem, l0, l1] <;> omega) rfl ⟨hE.out, bf.drew⟩
      | false =>
        have hE := hidR (hends.out false (by simp))
        clear hends
        go_wp2_with fail
        go_region
        go_wp2_with fail
        exact bodyPost_ret (v := .tuple #[.agg #[.bool false, .int .i64 n], .bool false]) (by simp [results, Tryz.results22, go_sem, l0, l1] <;> omega) rfl ⟨hE.out, bf.drew⟩
  ·
    cases st with
    | true =>
      have hE := hidR (hends.out false (by simp; omega))
      clear hends
      go_wp2_with fail
      go_region
      go_wp2_with fail
      exact bodyPost_ret (v := .tuple #[.agg #[.bool true, .int .i64 n], .bool false]) (by simp [results, Tryz.results22, go_sem, l0, l1] <;> omega) rfl ⟨hE.out, bf.drew⟩
    | false =>
      cases ce with
      | true =>
        have hE := hidR (hends.out false (by simp; omega))
        clear hends
        go_wp2_with fail
        go_region
        go_wp2_with fail
        exact bodyPost_ret (v := .tuple #[.agg #[.bool false, .int .i64 n], .bool false]) (by simp [results, Tryz.results22, go_sem, l0, l1] <;> omega) rfl ⟨hE.out, bf.drew⟩
      | false =>
        have hE := hidR (hends.out false (by simp))
        clear hends
        go_wp2_with fail
        go_region
        go_wp2_with fail
        exact bodyPost_ret (v := .tuple #[.agg #[.bool false, .int .i64 n], .bool false]) (by simp [results, Tryz.results22, go_sem, l0, l1] <;> omega) rfl ⟨hE.out, bf.drew⟩
theorem upLen (r : List ByteArray) (g c : Nat) (w : World) (hl : r.length ≠ 2) (hN : r.length ≤ 100000) :
    Calls Tryz.prog 22 #[.slice (some ⟨g, 0, none⟩) (r.length + 1) c] w fun e w' => UpEnds r e ∧ Below w.heap.size w w' := by
  have hE : Hid (UpEnds r (.returned (.tuple #[.agg #[.bool false, .int .i64 0], .bool false]))) := by
    refine ⟨⟨false, 0⟩, false, rfl, by simp, fun _ => ?_⟩
    unfold upP
    split
    · exact absurd rfl hl
    · rfl
  have hlb : (((r.length : Int) + 1) != 3) = true := by simp; omega
  generalize r.length = n at hl hlb hN ⊢
  go_enter Tryz.func22, Tryz.ntmps22
  go_wp2_with fail
  exact bodyPost_ret (v := .tuple #[.agg #[.bool false, .int .i64 0], .bool false]) (by simp [results, Tryz.results22, go_sem]) rfl ⟨hE.out, by go_grown⟩
theorem l6ReadUp_in (p0 : ByteArray) (r : List ByteArray) (g c : Nat) (w : World) (hc : ∀ (j : Nat) x, (p0 :: r)[j]? = some x → w.cell? ⟨g, j, none⟩ = some (.string x)) (hg : g < w.heap.size) (hN : r.length ≤ 100000) (hz : ∀ x ∈ r, x.size ≤ 100000) :
    Calls Tryz.prog 22 #[.slice (some ⟨g, 0, none⟩) (r.length + 1) c] w fun e w' => UpEnds r e ∧ Below w.heap.size w w' := by
  by_cases hl : r.length = 2
  · match r, hl, hc, hz with
    | [p1, p2], _, hc, hz => exact upTwo p1 p2 g c w (hc 1 p1 rfl) (hc 2 p2 rfl) hg (hz p2 (by simp))
  · exact upLen r g c w hl hN
end
end Go.Proofs.YtkanjbopfflioaaGreatDoor

import Derived.Test.YtebjplogpngeaaaGreatDoorGq
import Derived.Deep.RegionHeld3
import Derived.Deep.QuietTactic
import Derived.Deep.RegionWith
import Derived.IntWalk
import Derived.Deep.Cut
import Derived.Test.YtebjplogpngeaaaGreatDoorGp
import Derived.Test.YtebjplogpngeaaaGreatDoorShelf
namespace Go.Proofs.YtebjplogpngeaaaGreatDoor
open Go.RowKit
set_option linter.unusedVariables false
set_option linter.unusedSimpArgs false
set_option maxRecDepth 100000
set_option maxHeartbeats 1000000
theorem within1 (n a b : Int) (w : World) : Calls Tryz.prog 18 #[.int .i64 n, .int .i64 a, .int .i64 b] w fun e w' => Tells e (a ≤ n ∧ n ≤ b) ∧ w' = w := by
  by_cases h1 : a ≤ n
  · have h1I : n ≥ a := h1
    by_cases h2 : n ≤ b
    · go_enter Tryz.func18, Tryz.ntmps18
      go_wp2_with fail
      go_ret
      exact ⟨⟨_, rfl, by simp [h1, h2]⟩, rfl⟩
    · go_enter Tryz.func18, Tryz.ntmps18
      go_wp2_with fail
      go_ret
      exact ⟨⟨_, rfl, by simp; omega⟩, rfl⟩
  · have h1I : ¬ n ≥ a := h1
    go_enter Tryz.func18, Tryz.ntmps18
    go_wp2_with fail
    go_ret
    exact ⟨⟨_, rfl, by simp; omega⟩, rfl⟩
theorem number_in (s : ByteArray) (V : Nat → Option (Int × Nat)) (hV : VrOk s V) (lo hi : Int) (r : RS) (ab an : Int) (R : Nat) (w : World) (h : RowL w R 103 (rdL s r ab an)) (hs : s.size ≤ 2000000000) (hp : r.pos ≤ s.size) :
    Calls Tryz.prog 87 #[.pointer (some ⟨R, 0, none⟩), .int .i64 lo, .int .i64 hi] w fun e w' => e = .returned (.int .i64 (rdNum s V lo hi r).1) ∧ RowL w' R 103 (rdL s (rdNum s V lo hi r).2 ab an) ∧ Ex R w w' := by
  have ha : Hid (Calls Tryz.prog 98 #[.pointer (some ⟨R, 0, none⟩)] w fun e w' => e = .returned (.int .i64 (rdAny s V r).1) ∧ RowL w' R 103 (rdL s (rdAny s V r).2 ab an) ∧ Ex R w w') := any_in s V hV r ab an R w h hs hp
  have hz : (rdAny s V r).2.bad ≠ 0 → (rdAny s V r).1 = 0 := by
    unfold rdAny
    split
    · exact fun _ => rfl
    · split
      · exact fun h => absurd rfl h
      · exact fun _ => rfl
  unfold rdNum
  dsimp only
  generalize rdAny s V r = x at ha hz ⊢
  obtain ⟨n, r1⟩ := x
  dsimp only at ha hz ⊢
  clear h hV
  have hw9 : Hid (∀ y, Calls Tryz.prog 18 #[.int .i64 n, .int .i64 lo, .int .i64 hi] y fun e w' => Tells e (lo ≤ n ∧ n ≤ hi) ∧ w' = y) := fun y => within1 n lo hi y
  have hfl : Hid (∀ y, RowL y R 103 (rdL s r1 ab an) → Calls Tryz.prog 74 #[.pointer (some ⟨R, 0, none⟩), .int .i64 4] y fun e w' => e = .returned (.tuple #[]) ∧ RowL w' R 103 (rdL s (r1.fail 4) ab an) ∧ Ex R y w') := fun y hy => reader_fail s r1 ab an 4 R y hy (by decide)
  have hans : Hid ((lo ≤ n ∧ n ≤ hi → (if r1.bad ≠ 0 then ((0 : Int), r1) else if n < lo ∨ hi < n then (0, ⟨r1.pos, 4⟩) else (n, r1)) = (n, r1)) ∧ (¬ (lo ≤ n ∧ n ≤ hi) → (if r1.bad ≠ 0 then ((0 : Int), r1) else if n < lo ∨ hi < n then (0, ⟨r1.pos, 4⟩) else (n, r1)) = (0, r1.fail 4))) := by
    by_cases hb : r1.bad = 0
    · refine ⟨fun h => ?_, fun h => ?_⟩
      · rw [if_neg (by simp [hb]), if_neg (by omega)]
      · rw [if_neg (by simp [hb]), if_pos (by omega), RS.fail_ok hb]
    · refine ⟨fun h => ?_, fun h => ?_⟩
      · rw [if_pos hb, hz hb]
      · rw [if_pos hb, RS.fail_bad hb]
  generalize (if r1.bad ≠ 0 then ((0 : Int), r1) else if n < lo ∨ hi < n then (0, ⟨r1.pos, 4⟩) else (n, r1)) = z at hans ⊢
  clear hz
  go_enter Tryz.func87, Tryz.ntmps87
  go_wp2_with fail
  refine Calls.mono ha.out ?_
  rintro e y ⟨rfl, hy, hx⟩
  clear ha
  replace hy : Hid (RowL y R 103 (rdL s r1 ab an)) := hy
  go_wp2_with fail
  refine Calls.mono (hw9.out y) ?_
  rintro e y2 ⟨⟨q, rfl, hq⟩, rfl⟩
  clear hw9
  cases q with
  | true =>
    obtain rfl := hans.out.1 (hq.1 rfl)
    clear hq hans hfl
    go_wp2_with fail
    go_ret
    exact ⟨rfl, hy.out, hx⟩
  | false =>
    obtain rfl := hans.out.2 (fun h => absurd (hq.2 h) (by decide))
    clear hq hans
    go_wp2_with fail
    refine Calls.mono (hfl.out _ hy.out) ?_
    rintro e y3 ⟨rfl, hy3, hx3⟩
    have hx4 := hx.trans hx3
    clear hfl hy hx hx3
    replace hy3 : Hid (RowL y3 R 103 (rdL s (r1.fail 4) ab an)) := hy3
    go_wp2_with fail
    go_ret
    exact ⟨rfl, hy3.out, hx4⟩
end Go.Proofs.YtebjplogpngeaaaGreatDoor
namespace Go.Proofs.YtebjplogpngeaaaGreatDoor
open Go.RowKit
set_option linter.unusedVariables false
set_option linter.unusedSimpArgs false
set_option maxRecDepth 100000
set_option maxHeartbeats 1000000
theorem kids_in (s : ByteArray) (V : Nat → Option (Int × Nat)) (hV : VrOk s V) (r : RS) (ab an most : Int) (R : Nat) (w : World) (h : RowL w R 103 (rdL s r ab an)) (hs : s.size ≤ 2000000000) (hp : r.pos ≤ s.size) (ha0 : 0 ≤ an) (ha1 : an ≤ 200) (hm : most = if ab = 63 then 0 else 200 - an) :
    Calls Tryz.prog 94 #[.pointer (some ⟨R, 0, none⟩)] w fun e w' => e = .returned (.int .i64 (rdNum s V 0 most r).1) ∧ RowL w' R 103 (rdL s (rdNum s V 0 most r).2 ab (an + (rdNum s V 0 most r).1)) ∧ Ex R w w' := by
  have h3 : w.cell? ⟨R, 3, none⟩ = some (.int .i64 ab) := h.cell 3 rfl
  have h4 : w.cell? ⟨R, 4, none⟩ = some (.int .i64 an) := h.cell 4 rfl
  have hl := h.lt
  have hmb : 0 ≤ most ∧ most ≤ 200 := by subst hm; split <;> omega
  have hnum : Hid (Calls Tryz.prog 87 #[.pointer (some ⟨R, 0, none⟩), .int .i64 0, .int .i64 most] w fun e w' => e = .returned (.int .i64 (rdNum s V 0 most r).1) ∧ RowL w' R 103 (rdL s (rdNum s V 0 most r).2 ab an) ∧ Ex R w w') := number_in s V hV 0 most r ab an R w h hs hp
  have hbd := rdNum_bd (s := s) (V := V) (lo := 0) (hi := most) r (by decide) hmb.1
  generalize rdNum s V 0 most r = x at hnum hbd ⊢
  obtain ⟨n, r1⟩ := x
  dsimp only at hnum hbd ⊢
  clear h hV hp
  by_cases h63 : ab = 63
  · subst h63
    rw [if_pos rfl] at hm
    subst hm
    go_enter Tryz.func94, Tryz.ntmps94
    go_wp2_with fail
    refine Calls.mono hnum.out ?_
    rintro e y ⟨rfl, hy, hx⟩
    clear hnum h3 h4 hl
    have h4 : y.cell? ⟨R, 4, none⟩ = some (.int .i64 an) := hy.cell 4 rfl
    have hf := hy.frozen
    have hl := hy.lt
    have hS : Hid (RowL (y.setCell ⟨R, 4, none⟩ (.int .i64 (an + n))) R 103 (rdL s r1 _ (an + n))) := hy.set 4 (.int .i64 (an + n))
    have hx2 := hx.set 4 (.int .i64 (an + n))
    replace hy : Hid _ := hy
    go_wp2_with fail
    go_ret
    exact ⟨rfl, hS.out, hx2⟩
  · rw [if_neg h63] at hm
    subst hm
    have hne : (ab == 63) = false := by simpa using h63
    go_enter Tryz.func94, Tryz.ntmps94
    go_wp2_with fail
    refine Calls.mono hnum.out ?_
    rintro e y ⟨rfl, hy, hx⟩
    clear hnum h3 h4 hl
    have h4 : y.cell? ⟨R, 4, none⟩ = some (.int .i64 an) := hy.cell 4 rfl
    have hf := hy.frozen
    have hl := hy.lt
    have hS : Hid (RowL (y.setCell ⟨R, 4, none⟩ (.int .i64 (an + n))) R 103 (rdL s r1 _ (an + n))) := hy.set 4 (.int .i64 (an + n))
    have hx2 := hx.set 4 (.int .i64 (an + n))
    replace hy : Hid _ := hy
    go_wp2_with fail
    go_ret
    exact ⟨rfl, hS.out, hx2⟩
/-- the number of Lines or of UpNames. -/
noncomputable def rdCnt (s : ByteArray) (V : Nat → Option (Int × Nat)) (all : Int) (r : RS) : Int × RS :=
  let x := rdAny s V r
  if x.2.bad ≠ 0 then (0, x.2) else if x.1 = 0 ∨ x.1 = all then x else (0, ⟨x.2.pos, 4⟩)
theorem noneOrAll1 (n a : Int) (w : World) : Calls Tryz.prog 48 #[.int .i64 n, .int .i64 a] w fun e w' => Tells e (n = 0 ∨ n = a) ∧ w' = w := by
  by_cases h1 : n = 0
  · subst h1
    go_enter Tryz.func48, Tryz.ntmps48
    go_wp2_with fail
    go_ret
    exact ⟨⟨_, rfl, by simp⟩, rfl⟩
  · have h1b : (n == 0) = false := by simpa using h1
    by_cases h2 : n = a
    · subst h2
      go_enter Tryz.func48, Tryz.ntmps48
      go_wp2_with fail
      go_ret
      exact ⟨⟨_, rfl, by simp⟩, rfl⟩
    · have h2b : (n == a) = false := by simpa using h2
      go_enter Tryz.func48, Tryz.ntmps48
      go_wp2_with fail
      go_ret
      exact ⟨⟨_, rfl, by simp [h1, h2]⟩, rfl⟩
theorem debugCount_in (s : ByteArray) (V : Nat → Option (Int × Nat)) (hV : VrOk s V) (all : Int) (r : RS) (ab an : Int) (R : Nat) (w : World) (h : RowL w R 103 (rdL s r ab an)) (hs : s.size ≤ 2000000000) (hp : r.pos ≤ s.size) :
    Calls Tryz.prog 104 #[.pointer (some ⟨R, 0, none⟩), .int .i64 all] w fun e w' => e = .returned (.int .i64 (rdCnt s V all r).1) ∧ RowL w' R 103 (rdL s (rdCnt s V all r).2 ab an) ∧ Ex R w w' := by
  have ha : Hid (Calls Tryz.prog 98 #[.pointer (some ⟨R, 0, none⟩)] w fun e w' => e = .returned (.int .i64 (rdAny s V r).1) ∧ RowL w' R 103 (rdL s (rdAny s V r).2 ab an) ∧ Ex R w w') := any_in s V hV r ab an R w h hs hp
  have hz : (rdAny s V r).2.bad ≠ 0 → (rdAny s V r).1 = 0 := by
    unfold rdAny
    split
    · exact fun _ => rfl
    · split
      · exact fun h => absurd rfl h
      · exact fun _ => rfl
  unfold rdCnt
  dsimp only
  generalize rdAny s V r = x at ha hz ⊢
  obtain ⟨n, r1⟩ := x
  dsimp only at ha hz ⊢
  clear h hV
  have hw9 : Hid (∀ y, Calls Tryz.prog 48 #[.int .i64 n, .int .i64 all] y fun e w' => Tells e (n = 0 ∨ n = all) ∧ w' = y) := fun y => noneOrAll1 n all y
  have hfl : Hid (∀ y, RowL y R 103 (rdL s r1 ab an) → Calls Tryz.prog 74 #[.pointer (some ⟨R, 0, none⟩), .int .i64 4] y fun e w' => e = .returned (.tuple #[]) ∧ RowL w' R 103 (rdL s (r1.fail 4) ab an) ∧ Ex R y w') := fun y hy => reader_fail s r1 ab an 4 R y hy (by decide)
  have hans : Hid ((n = 0 ∨ n = all → (if r1.bad ≠ 0 then ((0 : Int), r1) else if n = 0 ∨ n = all then (n, r1) else (0, ⟨r1.pos, 4⟩)) = (n, r1)) ∧ (¬ (n = 0 ∨ n = all) → (if r1.bad ≠ 0 then ((0 : Int), r1) else if n = 0 ∨ n = all then (n, r1) else (0, ⟨r1.pos, 4⟩)) = (0, r1.fail 4))) := by
    by_cases hb : r1.bad = 0
    · refine ⟨fun h => ?_, fun h => ?_⟩
      · rw [if_neg (by simp [hb]), if_pos h]
      · rw [if_neg (by simp [hb]), if_neg h, RS.fail_ok hb]
    · refine ⟨fun h => ?_, fun h => ?_⟩
      · rw [if_pos hb, hz hb]
      · rw [if_pos hb, RS.fail_bad hb]
  generalize (if r1.bad ≠ 0 then ((0 : Int), r1) else if n = 0 ∨ n = all then (n, r1) else (0, ⟨r1.pos, 4⟩)) = z at hans ⊢
  clear hz
  go_enter Tryz.func104, Tryz.ntmps104
  go_wp2_with fail
  refine Calls.mono ha.out ?_
  rintro e y ⟨rfl, hy, hx⟩
  clear ha
  replace hy : Hid (RowL y R 103 (rdL s r1 ab an)) := hy
  go_wp2_with fail
  refine Calls.mono (hw9.out y) ?_
  rintro e y2 ⟨⟨q, rfl, hq⟩, rfl⟩
  clear hw9
  cases q with
  | true =>
    obtain rfl := hans.out.1 (hq.1 rfl)
    clear hq hans hfl
    go_wp2_with fail
    go_ret
    exact ⟨rfl, hy.out, hx⟩
  | false =>
    obtain rfl := hans.out.2 (fun h => absurd (hq.2 h) (by decide))
    clear hq hans
    go_wp2_with fail
    refine Calls.mono (hfl.out _ hy.out) ?_
    rintro e y3 ⟨rfl, hy3, hx3⟩
    have hx4 := hx.trans hx3
    clear hfl hy hx hx3
    replace hy3 : Hid (RowL y3 R 103 (rdL s (r1.fail 4) ab an)) := hy3
    go_wp2_with fail
    go_ret
    exact ⟨rfl, hy3.out, hx4⟩
end Go.Proofs.YtebjplogpngeaaaGreatDoor
namespace Go.Proofs.YtebjplogpngeaaaGreatDoor
open Go.RowKit
set_option linter.unusedVariables false
set_option linter.unusedSimpArgs false
set_option maxRecDepth 100000
set_option maxHeartbeats 1000000
theorem Ex.setNew {R : Nat} {a b : World} (h : Ex R a b) (p : Addr) (hp : a.heap.size ≤ p.block) (v : Value) : Ex R a (b.setCell p v) :=
  ⟨h.os, h.tape, h.output, by rw [World.size_setCell]; exact h.size, fun i hi hR => (Below.heap_setCell _ _ _ _ (by omega)).trans (h.block i hi hR)⟩
/-- an upvalue. -/
noncomputable def rdUp (s : ByteArray) (V : Nat → Option (Int × Nat)) (r : RS) : UD × RS :=
  let a := rdByte s 1 r
  let b := rdAny s V a.2
  (⟨decide (a.1 = 1), b.1⟩, b.2)
theorem up_in (s : ByteArray) (V : Nat → Option (Int × Nat)) (hV : VrOk s V) (r : RS) (ab an : Int) (R : Nat) (w : World) (h : RowL w R 103 (rdL s r ab an)) (hs : s.size ≤ 2000000000) (hp : r.pos ≤ s.size) :
    Calls Tryz.prog 93 #[.pointer (some ⟨R, 0, none⟩)] w fun e w' => e = .returned (.agg #[.bool (rdUp s V r).1.stack, .int .i64 (rdUp s V r).1.index]) ∧ RowL w' R 103 (rdL s (rdUp s V r).2 ab an) ∧ Ex R w w' := by
  have hfl : Hid (∀ y, RowL y R 103 (rdL s r ab an) → Calls Tryz.prog 86 #[.pointer (some ⟨R, 0, none⟩)] y fun e w' => e = .returned (.bool (decide ((rdByte s 1 r).1 = 1))) ∧ RowL w' R 103 (rdL s (rdByte s 1 r).2 ab an) ∧ Ex R y w') := fun y hy => flag_in s r ab an R y hy hs hp
  have hp1 := rdByte_pos (hi := 1) hp
  unfold rdUp
  dsimp only
  generalize rdByte s 1 r = a at hfl hp1 ⊢
  obtain ⟨k, r1⟩ := a
  dsimp only at hfl hp1 ⊢
  have han : Hid (∀ y, RowL y R 103 (rdL s r1 ab an) → Calls Tryz.prog 98 #[.pointer (some ⟨R, 0, none⟩)] y fun e w' => e = .returned (.int .i64 (rdAny s V r1).1) ∧ RowL w' R 103 (rdL s (rdAny s V r1).2 ab an) ∧ Ex R y w') := fun y hy => any_in s V hV r1 ab an R y hy hs hp1
  generalize rdAny s V r1 = b at han ⊢
  obtain ⟨n, r2⟩ := b
  dsimp only at han ⊢
  generalize decide (k = 1) = f at hfl ⊢
  have hRl := h.lt
  have b0 : Below w.heap.size w (w.alloc (.cells #[.bool false, .int .i64 0] 78)) := (Below.refl _ _).alloc (Nat.le_refl _) _
  have h' : Hid (RowL (w.alloc (.cells #[.bool false, .int .i64 0] 78)) R 103 (rdL s r ab an)) := h.call b0
  have B0 := RowL.new w [.bool false, .int .i64 0] 78
  have hx0 := Ex.of (R := R) b0
  have hne : w.heap.size ≠ R := by omega
  clear h hV hp hp1 b0
  go_enter Tryz.func93, Tryz.ntmps93
  go_wp2_with fail
  generalize w.alloc (.cells #[.bool false, .int .i64 0] 78) = w1 at h' B0 hx0 ⊢
  refine Calls.mono (hfl.out _ h'.out) ?_
  rintro e y ⟨rfl, hy, hx⟩
  replace B0 := hx.row B0 hne
  replace hx0 := hx0.trans hx
  clear hfl h' hx
  replace hy : Hid (RowL y R 103 (rdL s r1 ab an)) := hy
  go_wp2_with fail
  refine Calls.mono (han.out _ hy.out) ?_
  rintro e y2 ⟨rfl, hy2, hx⟩
  replace B0 := hx.row B0 hne
  replace hx0 := hx0.trans hx
  clear han hy hx
  have e0 := B0.cell 0 rfl
  have e1 := B0.cell 1 rfl
  have ef := B0.frozen
  have el := B0.lt
  have L := (B0.set 0 (.bool f)).set 1 (.int .i64 n)
  have hM : Hid (RowL ((y2.setCell ⟨w.heap.size, 0, none⟩ (.bool f)).setCell ⟨w.heap.size, 1, none⟩ (.int .i64 n)) R 103 (rdL s r2 ab an)) := (hy2.other (a := ⟨w.heap.size, 0, none⟩) (Ne.symm hne) (.bool f)).other (a := ⟨w.heap.size, 1, none⟩) (Ne.symm hne) (.int .i64 n)
  have hX := (hx0.setNew ⟨w.heap.size, 0, none⟩ (Nat.le_refl _) (.bool f)).setNew ⟨w.heap.size, 1, none⟩ (Nat.le_refl _) (.int .i64 n)
  have l0 := L.cell 0 rfl
  have l1 := L.cell 1 rfl
  replace L : Hid _ := L
  replace B0 : Hid _ := B0
  replace hy2 : Hid _ := hy2
  go_wp2_with fail
  refine bodyPost_ret (v := .agg #[.bool f, .int .i64 n]) ?_ rfl ⟨rfl, hM.out, hX⟩
  simp [results, Tryz.results93, go_sem, l0, l1]
end Go.Proofs.YtebjplogpngeaaaGreatDoor
namespace Go.Proofs.YtebjplogpngeaaaGreatDoor
open Go.RowKit
set_option linter.unusedVariables false
set_option linter.unusedSimpArgs false
set_option maxRecDepth 100000
set_option maxHeartbeats 1000000
/-- strings.Clone gives back what it is given. -/
def ClOk : Prop := ∀ (t : ByteArray) (y : World), t.size ≤ 2000000000 → Calls Tryz.prog 108 #[.string t] y fun e w' => e = .returned (.string t) ∧ Below y.heap.size y w'
theorem text_in (s : ByteArray) (V : Nat → Option (Int × Nat)) (hV : VrOk s V) (hCl : ClOk) (r : RS) (ab an : Int) (R : Nat) (w : World) (h : RowL w R 103 (rdL s r ab an)) (hs : s.size ≤ 2000000000) (hp : r.pos ≤ s.size) :
    Calls Tryz.prog 102 #[.pointer (some ⟨R, 0, none⟩)] w fun e w' => e = .returned (.string (rdText s V r).1) ∧ RowL w' R 103 (rdL s (rdText s V r).2 ab an) ∧ Ex R w w' := by
  have hn : Hid (Calls Tryz.prog 87 #[.pointer (some ⟨R, 0, none⟩), .int .i64 0, .int .i64 1000] w fun e w' => e = .returned (.int .i64 (rdNum s V 0 1000 r).1) ∧ RowL w' R 103 (rdL s (rdNum s V 0 1000 r).2 ab an) ∧ Ex R w w') := number_in s V hV 0 1000 r ab an R w h hs hp
  have hp2 := rdNum_pos (lo := 0) (hi := 1000) hV hp
  have hbd := rdNum_bd (s := s) (V := V) (lo := 0) (hi := 1000) r (by decide) (by decide)
  unfold rdText
  dsimp only
  generalize rdNum s V 0 1000 r = x at hn hp2 hbd ⊢
  obtain ⟨n, r1⟩ := x
  dsimp only at hn hp2 hbd ⊢
  obtain ⟨k, rfl⟩ : ∃ k : Nat, n = (k : Int) := ⟨n.toNat, by omega⟩
  rw [Int.toNat_natCast]
  have hb : Hid (∀ y, RowL y R 103 (rdL s r1 ab an) → Calls Tryz.prog 99 #[.pointer (some ⟨R, 0, none⟩), .int .i64 (k : Int)] y fun e w' => e = .returned (.string (rdBytes s k r1).1) ∧ RowL w' R 103 (rdL s (rdBytes s k r1).2 ab an) ∧ Ex R y w') := fun y hy => take_in s k r1 ab an R y hy hs hp2 (by omega)
  have hsz := rdBytes_size s k r1
  generalize rdBytes s k r1 = z at hb hsz ⊢
  obtain ⟨t, r2⟩ := z
  dsimp only at hb hsz ⊢
  have hcl : Hid (∀ y, Calls Tryz.prog 108 #[.string t] y fun e w' => e = .returned (.string t) ∧ Below y.heap.size y w') := fun y => hCl t y (by omega)
  clear hV hp2 hbd hp h hCl
  go_enter Tryz.func102, Tryz.ntmps102
  go_wp2_with fail
  refine Calls.mono hn.out ?_
  rintro e y ⟨rfl, hy, hx⟩
  clear hn
  replace hy : Hid (RowL y R 103 (rdL s r1 ab an)) := hy
  go_wp2_with fail
  refine Calls.mono (hb.out _ hy.out) ?_
  rintro e y2 ⟨rfl, hy2, hx2⟩
  replace hx := hx.trans hx2
  clear hb hy hx2
  replace hy2 : Hid (RowL y2 R 103 (rdL s r2 ab an)) := hy2
  go_wp2_with fail
  refine Calls.mono (hcl.out _) ?_
  rintro e y3 ⟨rfl, b3⟩
  have hx3 := hx.trans (Ex.of b3)
  have hy3 : Hid (RowL y3 R 103 (rdL s r2 ab an)) := RowL.call hy2.out b3
  clear hcl hy2 hx b3
  go_wp2_with fail
  go_ret
  exact ⟨rfl, hy3.out, hx3⟩
end Go.Proofs.YtebjplogpngeaaaGreatDoor
namespace Go.Proofs.YtebjplogpngeaaaGreatDoor
open Go.RowKit
set_option linter.unusedVariables false
set_option linter.unusedSimpArgs false
set_option maxRecDepth 100000
set_option maxHeartbeats 1000000
theorem val_nil (s : ByteArray) (r r1 : RS) (ab an : Int) (R : Nat)  (w : World) (h : RowL w R 103 (rdL s r ab an)) (hc : Hid (∀ y, RowL y R 103 (rdL s r ab an) → Calls Tryz.prog 97 #[.pointer (some ⟨R, 0, none⟩), .int .u8 4] y fun e w' => e = .returned (.int .u8 0) ∧ RowL w' R 103 (rdL s r1 ab an) ∧ Ex R y w')) :
    Calls Tryz.prog 91 #[.pointer (some ⟨R, 0, none⟩)] w fun e w' => e = .returned (.agg #[.int .i64 0, .int .i64 0, .string ⟨#[]⟩]) ∧ RowL w' R 103 (rdL s r1 ab an) ∧ Ex R w w' := by
  have hRl := h.lt
  have b0 : Below w.heap.size w (w.alloc (.cells #[.int .i64 0, .int .i64 0, .string ⟨#[]⟩] 76)) := (Below.refl _ _).alloc (Nat.le_refl _) _
  have h' : Hid (RowL (w.alloc (.cells #[.int .i64 0, .int .i64 0, .string ⟨#[]⟩] 76)) R 103 (rdL s r ab an)) := h.call b0
  have B0 := RowL.new w [.int .i64 0, .int .i64 0, .string ⟨#[]⟩] 76
  have hx0 := Ex.of (R := R) b0
  have hne : w.heap.size ≠ R := by omega
  clear h b0
  go_enter Tryz.func91, Tryz.ntmps91
  go_wp2_with fail
  generalize w.alloc (.cells #[.int .i64 0, .int .i64 0, .string ⟨#[]⟩] 76) = w1 at h' B0 hx0 ⊢
  refine Calls.mono (hc.out _ h'.out) ?_
  rintro e y ⟨rfl, hy, hx⟩
  replace B0 := hx.row B0 hne
  replace hx0 := hx0.trans hx
  clear hc h' hx
  have e0 := B0.cell 0 rfl
  have e1 := B0.cell 1 rfl
  have e2 := B0.cell 2 rfl
  have ef := B0.frozen
  have el := B0.lt
  have L := ((B0.set 0 (.int .i64 0)).set 1 (.int .i64 0)).set 2 (.string ⟨#[]⟩)
  have hM : Hid (RowL (((y.setCell ⟨w.heap.size, 0, none⟩ (.int .i64 0)).setCell ⟨w.heap.size, 1, none⟩ (.int .i64 0)).setCell ⟨w.heap.size, 2, none⟩ (.string ⟨#[]⟩)) R 103 (rdL s r1 ab an)) := ((hy.other (a := ⟨w.heap.size, 0, none⟩) (Ne.symm hne) (.int .i64 0)).other (a := ⟨w.heap.size, 1, none⟩) (Ne.symm hne) (.int .i64 0)).other (a := ⟨w.heap.size, 2, none⟩) (Ne.symm hne) (.string ⟨#[]⟩)
  have hX := ((hx0.setNew ⟨w.heap.size, 0, none⟩ (Nat.le_refl _) (.int .i64 0)).setNew ⟨w.heap.size, 1, none⟩ (Nat.le_refl _) (.int .i64 0)).setNew ⟨w.heap.size, 2, none⟩ (Nat.le_refl _) (.string ⟨#[]⟩)
  have l0 := L.cell 0 rfl
  have l1 := L.cell 1 rfl
  have l2 := L.cell 2 rfl
  replace L : Hid _ := L
  replace B0 : Hid _ := B0
  replace hy : Hid _ := hy
  go_wp2_with fail
  refine bodyPost_ret (v := .agg #[.int .i64 0, .int .i64 0, .string ⟨#[]⟩]) ?_ rfl ⟨rfl, hM.out, hX⟩
  simp [results, Tryz.results91, go_sem, l0, l1, l2]
theorem val_false (s : ByteArray) (r r1 : RS) (ab an : Int) (R : Nat)  (w : World) (h : RowL w R 103 (rdL s r ab an)) (hc : Hid (∀ y, RowL y R 103 (rdL s r ab an) → Calls Tryz.prog 97 #[.pointer (some ⟨R, 0, none⟩), .int .u8 4] y fun e w' => e = .returned (.int .u8 1) ∧ RowL w' R 103 (rdL s r1 ab an) ∧ Ex R y w')) :
    Calls Tryz.prog 91 #[.pointer (some ⟨R, 0, none⟩)] w fun e w' => e = .returned (.agg #[.int .i64 1, .int .i64 0, .string ⟨#[]⟩]) ∧ RowL w' R 103 (rdL s r1 ab an) ∧ Ex R w w' := by
  have hRl := h.lt
  have b0 : Below w.heap.size w (w.alloc (.cells #[.int .i64 0, .int .i64 0, .string ⟨#[]⟩] 76)) := (Below.refl _ _).alloc (Nat.le_refl _) _
  have h' : Hid (RowL (w.alloc (.cells #[.int .i64 0, .int .i64 0, .string ⟨#[]⟩] 76)) R 103 (rdL s r ab an)) := h.call b0
  have B0 := RowL.new w [.int .i64 0, .int .i64 0, .string ⟨#[]⟩] 76
  have hx0 := Ex.of (R := R) b0
  have hne : w.heap.size ≠ R := by omega
  clear h b0
  go_enter Tryz.func91, Tryz.ntmps91
  go_wp2_with fail
  generalize w.alloc (.cells #[.int .i64 0, .int .i64 0, .string ⟨#[]⟩] 76) = w1 at h' B0 hx0 ⊢
  refine Calls.mono (hc.out _ h'.out) ?_
  rintro e y ⟨rfl, hy, hx⟩
  replace B0 := hx.row B0 hne
  replace hx0 := hx0.trans hx
  clear hc h' hx
  have e0 := B0.cell 0 rfl
  have e1 := B0.cell 1 rfl
  have e2 := B0.cell 2 rfl
  have ef := B0.frozen
  have el := B0.lt
  have L := ((B0.set 0 (.int .i64 1)).set 1 (.int .i64 0)).set 2 (.string ⟨#[]⟩)
  have hM : Hid (RowL (((y.setCell ⟨w.heap.size, 0, none⟩ (.int .i64 1)).setCell ⟨w.heap.size, 1, none⟩ (.int .i64 0)).setCell ⟨w.heap.size, 2, none⟩ (.string ⟨#[]⟩)) R 103 (rdL s r1 ab an)) := ((hy.other (a := ⟨w.heap.size, 0, none⟩) (Ne.symm hne) (.int .i64 1)).other (a := ⟨w.heap.size, 1, none⟩) (Ne.symm hne) (.int .i64 0)).other (a := ⟨w.heap.size, 2, none⟩) (Ne.symm hne) (.string ⟨#[]⟩)
  have hX := ((hx0.setNew ⟨w.heap.size, 0, none⟩ (Nat.le_refl _) (.int .i64 1)).setNew ⟨w.heap.size, 1, none⟩ (Nat.le_refl _) (.int .i64 0)).setNew ⟨w.heap.size, 2, none⟩ (Nat.le_refl _) (.string ⟨#[]⟩)
  have l0 := L.cell 0 rfl
  have l1 := L.cell 1 rfl
  have l2 := L.cell 2 rfl
  replace L : Hid _ := L
  replace B0 : Hid _ := B0
  replace hy : Hid _ := hy
  go_wp2_with fail
  refine bodyPost_ret (v := .agg #[.int .i64 1, .int .i64 0, .string ⟨#[]⟩]) ?_ rfl ⟨rfl, hM.out, hX⟩
  simp [results, Tryz.results91, go_sem, l0, l1, l2]
theorem val_true (s : ByteArray) (r r1 : RS) (ab an : Int) (R : Nat)  (w : World) (h : RowL w R 103 (rdL s r ab an)) (hc : Hid (∀ y, RowL y R 103 (rdL s r ab an) → Calls Tryz.prog 97 #[.pointer (some ⟨R, 0, none⟩), .int .u8 4] y fun e w' => e = .returned (.int .u8 2) ∧ RowL w' R 103 (rdL s r1 ab an) ∧ Ex R y w')) :
    Calls Tryz.prog 91 #[.pointer (some ⟨R, 0, none⟩)] w fun e w' => e = .returned (.agg #[.int .i64 1, .int .i64 1, .string ⟨#[]⟩]) ∧ RowL w' R 103 (rdL s r1 ab an) ∧ Ex R w w' := by
  have hRl := h.lt
  have b0 : Below w.heap.size w (w.alloc (.cells #[.int .i64 0, .int .i64 0, .string ⟨#[]⟩] 76)) := (Below.refl _ _).alloc (Nat.le_refl _) _
  have h' : Hid (RowL (w.alloc (.cells #[.int .i64 0, .int .i64 0, .string ⟨#[]⟩] 76)) R 103 (rdL s r ab an)) := h.call b0
  have B0 := RowL.new w [.int .i64 0, .int .i64 0, .string ⟨#[]⟩] 76
  have hx0 := Ex.of (R := R) b0
  have hne : w.heap.size ≠ R := by omega
  clear h b0
  go_enter Tryz.func91, Tryz.ntmps91
  go_wp2_with fail
  generalize w.alloc (.cells #[.int .i64 0, .int .i64 0, .string ⟨#[]⟩] 76) = w1 at h' B0 hx0 ⊢
  refine Calls.mono (hc.out _ h'.out) ?_
  rintro e y ⟨rfl, hy, hx⟩
  replace B0 := hx.row B0 hne
  replace hx0 := hx0.trans hx
  clear hc h' hx
  have e0 := B0.cell 0 rfl
  have e1 := B0.cell 1 rfl
  have e2 := B0.cell 2 rfl
  have ef := B0.frozen
  have el := B0.lt
  have L := ((B0.set 0 (.int .i64 1)).set 1 (.int .i64 1)).set 2 (.string ⟨#[]⟩)
  have hM : Hid (RowL (((y.setCell ⟨w.heap.size, 0, none⟩ (.int .i64 1)).setCell ⟨w.heap.size, 1, none⟩ (.int .i64 1)).setCell ⟨w.heap.size, 2, none⟩ (.string ⟨#[]⟩)) R 103 (rdL s r1 ab an)) := ((hy.other (a := ⟨w.heap.size, 0, none⟩) (Ne.symm hne) (.int .i64 1)).other (a := ⟨w.heap.size, 1, none⟩) (Ne.symm hne) (.int .i64 1)).other (a := ⟨w.heap.size, 2, none⟩) (Ne.symm hne) (.string ⟨#[]⟩)
  have hX := ((hx0.setNew ⟨w.heap.size, 0, none⟩ (Nat.le_refl _) (.int .i64 1)).setNew ⟨w.heap.size, 1, none⟩ (Nat.le_refl _) (.int .i64 1)).setNew ⟨w.heap.size, 2, none⟩ (Nat.le_refl _) (.string ⟨#[]⟩)
  have l0 := L.cell 0 rfl
  have l1 := L.cell 1 rfl
  have l2 := L.cell 2 rfl
  replace L : Hid _ := L
  replace B0 : Hid _ := B0
  replace hy : Hid _ := hy
  go_wp2_with fail
  refine bodyPost_ret (v := .agg #[.int .i64 1, .int .i64 1, .string ⟨#[]⟩]) ?_ rfl ⟨rfl, hM.out, hX⟩
  simp [results, Tryz.results91, go_sem, l0, l1, l2]
theorem val_text (s : ByteArray) (r r1 : RS) (ab an : Int) (R : Nat) (t : ByteArray) (r2 : RS) (ht : Hid (∀ y, RowL y R 103 (rdL s r1 ab an) → Calls Tryz.prog 102 #[.pointer (some ⟨R, 0, none⟩)] y fun e w' => e = .returned (.string t) ∧ RowL w' R 103 (rdL s r2 ab an) ∧ Ex R y w')) (w : World) (h : RowL w R 103 (rdL s r ab an)) (hc : Hid (∀ y, RowL y R 103 (rdL s r ab an) → Calls Tryz.prog 97 #[.pointer (some ⟨R, 0, none⟩), .int .u8 4] y fun e w' => e = .returned (.int .u8 4) ∧ RowL w' R 103 (rdL s r1 ab an) ∧ Ex R y w')) :
    Calls Tryz.prog 91 #[.pointer (some ⟨R, 0, none⟩)] w fun e w' => e = .returned (.agg #[.int .i64 3, .int .i64 0, .string t]) ∧ RowL w' R 103 (rdL s r2 ab an) ∧ Ex R w w' := by
  have hRl := h.lt
  have b0 : Below w.heap.size w (w.alloc (.cells #[.int .i64 0, .int .i64 0, .string ⟨#[]⟩] 76)) := (Below.refl _ _).alloc (Nat.le_refl _) _
  have h' : Hid (RowL (w.alloc (.cells #[.int .i64 0, .int .i64 0, .string ⟨#[]⟩] 76)) R 103 (rdL s r ab an)) := h.call b0
  have B0 := RowL.new w [.int .i64 0, .int .i64 0, .string ⟨#[]⟩] 76
  have hx0 := Ex.of (R := R) b0
  have hne : w.heap.size ≠ R := by omega
  clear h b0
  go_enter Tryz.func91, Tryz.ntmps91
  go_wp2_with fail
  generalize w.alloc (.cells #[.int .i64 0, .int .i64 0, .string ⟨#[]⟩] 76) = w1 at h' B0 hx0 ⊢
  refine Calls.mono (hc.out _ h'.out) ?_
  rintro e y ⟨rfl, hy, hx⟩
  replace B0 := hx.row B0 hne
  replace hx0 := hx0.trans hx
  clear hc h' hx
  replace hy : Hid (RowL y R 103 (rdL s r1 ab an)) := hy
  go_wp2_with fail
  refine Calls.mono (ht.out _ hy.out) ?_
  rintro e y2 ⟨rfl, hy2, hx⟩
  replace B0 := hx.row B0 hne
  replace hx0 := hx0.trans hx
  clear ht hy hx
  have hy := hy2
  clear hy2
  have e0 := B0.cell 0 rfl
  have e1 := B0.cell 1 rfl
  have e2 := B0.cell 2 rfl
  have ef := B0.frozen
  have el := B0.lt
  have L := ((B0.set 0 (.int .i64 3)).set 1 (.int .i64 0)).set 2 (.string t)
  have hM : Hid (RowL (((y2.setCell ⟨w.heap.size, 0, none⟩ (.int .i64 3)).setCell ⟨w.heap.size, 1, none⟩ (.int .i64 0)).setCell ⟨w.heap.size, 2, none⟩ (.string t)) R 103 (rdL s r2 ab an)) := ((hy.other (a := ⟨w.heap.size, 0, none⟩) (Ne.symm hne) (.int .i64 3)).other (a := ⟨w.heap.size, 1, none⟩) (Ne.symm hne) (.int .i64 0)).other (a := ⟨w.heap.size, 2, none⟩) (Ne.symm hne) (.string t)
  have hX := ((hx0.setNew ⟨w.heap.size, 0, none⟩ (Nat.le_refl _) (.int .i64 3)).setNew ⟨w.heap.size, 1, none⟩ (Nat.le_refl _) (.int .i64 0)).setNew ⟨w.heap.size, 2, none⟩ (Nat.le_refl _) (.string t)
  have l0 := L.cell 0 rfl
  have l1 := L.cell 1 rfl
  have l2 := L.cell 2 rfl
  replace L : Hid _ := L
  replace B0 : Hid _ := B0
  replace hy : Hid _ := hy
  go_wp2_with fail
  refine bodyPost_ret (v := .agg #[.int .i64 3, .int .i64 0, .string t]) ?_ rfl ⟨rfl, hM.out, hX⟩
  simp [results, Tryz.results91, go_sem, l0, l1, l2]
theorem val_int (s : ByteArray) (r r1 : RS) (ab an : Int) (R : Nat) (t : ByteArray) (r2 : RS) (ht : Hid (∀ y, RowL y R 103 (rdL s r1 ab an) → Calls Tryz.prog 99 #[.pointer (some ⟨R, 0, none⟩), .int .i64 8] y fun e w' => e = .returned (.string t) ∧ RowL w' R 103 (rdL s r2 ab an) ∧ Ex R y w')) (n q : Int) (bo : Bool) (hg : Hid (∀ y, Calls Tryz.prog 101 #[.string t, .int .i64 0] y fun e w' => e = .returned (.tuple #[.int .i64 n, .int .i64 q, .bool bo]) ∧ Below y.heap.size y w')) (w : World) (h : RowL w R 103 (rdL s r ab an)) (hc : Hid (∀ y, RowL y R 103 (rdL s r ab an) → Calls Tryz.prog 97 #[.pointer (some ⟨R, 0, none⟩), .int .u8 4] y fun e w' => e = .returned (.int .u8 3) ∧ RowL w' R 103 (rdL s r1 ab an) ∧ Ex R y w')) :
    Calls Tryz.prog 91 #[.pointer (some ⟨R, 0, none⟩)] w fun e w' => e = .returned (.agg #[.int .i64 2, .int .i64 n, .string ⟨#[]⟩]) ∧ RowL w' R 103 (rdL s r2 ab an) ∧ Ex R w w' := by
  have hRl := h.lt
  have b0 : Below w.heap.size w (w.alloc (.cells #[.int .i64 0, .int .i64 0, .string ⟨#[]⟩] 76)) := (Below.refl _ _).alloc (Nat.le_refl _) _
  have h' : Hid (RowL (w.alloc (.cells #[.int .i64 0, .int .i64 0, .string ⟨#[]⟩] 76)) R 103 (rdL s r ab an)) := h.call b0
  have B0 := RowL.new w [.int .i64 0, .int .i64 0, .string ⟨#[]⟩] 76
  have hx0 := Ex.of (R := R) b0
  have hne : w.heap.size ≠ R := by omega
  clear h b0
  go_enter Tryz.func91, Tryz.ntmps91
  go_wp2_with fail
  generalize w.alloc (.cells #[.int .i64 0, .int .i64 0, .string ⟨#[]⟩] 76) = w1 at h' B0 hx0 ⊢
  refine Calls.mono (hc.out _ h'.out) ?_
  rintro e y ⟨rfl, hy, hx⟩
  replace B0 := hx.row B0 hne
  replace hx0 := hx0.trans hx
  clear hc h' hx
  replace hy : Hid (RowL y R 103 (rdL s r1 ab an)) := hy
  go_wp2_with fail
  refine Calls.mono (ht.out _ hy.out) ?_
  rintro e y2 ⟨rfl, hy2, hx⟩
  replace B0 := hx.row B0 hne
  replace hx0 := hx0.trans hx
  clear ht hy hx
  have hy := hy2
  clear hy2
  replace hy : Hid (RowL y2 R 103 (rdL s r2 ab an)) := hy
  go_wp2_with fail
  refine Calls.mono (hg.out _) ?_
  rintro e y3 ⟨rfl, b3⟩
  replace B0 := B0.call b3
  replace hx0 := hx0.trans (Ex.of b3)
  have hy3 := RowL.call hy.out b3
  clear hg hy b3
  have hy := hy3
  clear hy3
  have e0 := B0.cell 0 rfl
  have e1 := B0.cell 1 rfl
  have e2 := B0.cell 2 rfl
  have ef := B0.frozen
  have el := B0.lt
  have L := ((B0.set 0 (.int .i64 2)).set 1 (.int .i64 n)).set 2 (.string ⟨#[]⟩)
  have hM : Hid (RowL (((y3.setCell ⟨w.heap.size, 0, none⟩ (.int .i64 2)).setCell ⟨w.heap.size, 1, none⟩ (.int .i64 n)).setCell ⟨w.heap.size, 2, none⟩ (.string ⟨#[]⟩)) R 103 (rdL s r2 ab an)) := ((hy.other (a := ⟨w.heap.size, 0, none⟩) (Ne.symm hne) (.int .i64 2)).other (a := ⟨w.heap.size, 1, none⟩) (Ne.symm hne) (.int .i64 n)).other (a := ⟨w.heap.size, 2, none⟩) (Ne.symm hne) (.string ⟨#[]⟩)
  have hX := ((hx0.setNew ⟨w.heap.size, 0, none⟩ (Nat.le_refl _) (.int .i64 2)).setNew ⟨w.heap.size, 1, none⟩ (Nat.le_refl _) (.int .i64 n)).setNew ⟨w.heap.size, 2, none⟩ (Nat.le_refl _) (.string ⟨#[]⟩)
  have l0 := L.cell 0 rfl
  have l1 := L.cell 1 rfl
  have l2 := L.cell 2 rfl
  replace L : Hid _ := L
  replace B0 : Hid _ := B0
  replace hy : Hid _ := hy
  go_wp2_with fail
  refine bodyPost_ret (v := .agg #[.int .i64 2, .int .i64 n, .string ⟨#[]⟩]) ?_ rfl ⟨rfl, hM.out, hX⟩
  simp [results, Tryz.results91, go_sem, l0, l1, l2]
theorem giOk : GiOk gi0 := ⟨impl_gi⟩
theorem value_in (s : ByteArray) (V : Nat → Option (Int × Nat)) (hV : VrOk s V) (G : ByteArray → Int) (hG : GiOk G) (hCl : ClOk) (r : RS) (ab an : Int) (R : Nat) (w : World) (h : RowL w R 103 (rdL s r ab an)) (hs : s.size ≤ 2000000000) (hp : r.pos ≤ s.size) :
    Calls Tryz.prog 91 #[.pointer (some ⟨R, 0, none⟩)] w fun e w' => e = .returned (.agg #[.int .i64 (rdVal s V G r).1.kind, .int .i64 (rdVal s V G r).1.num, .string (rdVal s V G r).1.text]) ∧ RowL w' R 103 (rdL s (rdVal s V G r).2 ab an) ∧ Ex R w w' := by
  have hc : Hid (∀ y, RowL y R 103 (rdL s r ab an) → Calls Tryz.prog 97 #[.pointer (some ⟨R, 0, none⟩), .int .u8 4] y fun e w' => e = .returned (.int .u8 ((rdByte s 4 r).1 : Int)) ∧ RowL w' R 103 (rdL s (rdByte s 4 r).2 ab an) ∧ Ex R y w') := fun y hy => choice_in s 4 r ab an R y hy hs hp (by decide)
  have hp1 := rdByte_pos (hi := 4) hp
  have hb4 := rdByte_bd s 4 r
  unfold rdVal
  dsimp only
  generalize rdByte s 4 r = x at hc hp1 hb4 ⊢
  obtain ⟨k, r1⟩ := x
  dsimp only at hc hp1 hb4 ⊢
  by_cases h1 : k = 1
  · subst h1
    rw [if_pos (.inl rfl)]
    exact val_false s r r1 ab an R w h hc
  by_cases h2 : k = 2
  · subst h2
    rw [if_pos (.inr rfl)]
    exact val_true s r r1 ab an R w h hc
  rw [if_neg (by omega)]
  by_cases h3 : k = 3
  · subst h3
    rw [if_pos rfl]
    obtain ⟨q, bo, hg⟩ := hG.im (rdBytes s 8 r1).1 (Nat.le_trans (rdBytes_size s 8 r1) hs)
    exact val_int s r r1 ab an R (rdBytes s 8 r1).1 (rdBytes s 8 r1).2 (fun y hy => take_in s 8 r1 ab an R y hy hs hp1 (by decide)) (G (rdBytes s 8 r1).1) q bo hg w h hc
  rw [if_neg h3]
  by_cases h4 : k = 4
  · subst h4
    rw [if_pos rfl]
    exact val_text s r r1 ab an R (rdText s V r1).1 (rdText s V r1).2 (fun y hy => text_in s V hV hCl r1 ab an R y hy hs hp1) w h hc
  rw [if_neg h4]
  obtain rfl : k = 0 := by omega
  exact val_nil s r r1 ab an R w h hc
end Go.Proofs.YtebjplogpngeaaaGreatDoor
namespace Go.Proofs.YtebjplogpngeaaaGreatDoor
open Go.RowKit
set_option linter.unusedVariables false
set_option linter.unusedSimpArgs false
set_option maxRecDepth 100000
set_option maxHeartbeats 1000000
/-- a word of code. -/
def rdWord (s : ByteArray) (r : RS) : Nat × RS :=
  let x := rdBytes s 4 r
  (if x.1.size = 0 then 0 else le4 x.1 0, x.2)
theorem rdBytes_is (s : ByteArray) (n : Nat) (r : RS) (hp : r.pos ≤ s.size) : (rdBytes s n r).1 = ⟨#[]⟩ ∨ (rdBytes s n r).1.size = n := by
  unfold rdBytes
  split
  · exact .inl rfl
  · split
    · right; rw [ByteArray.size_extract]; omega
    · exact .inl rfl
theorem word_in (s : ByteArray) (r : RS) (ab an : Int) (R : Nat) (w : World) (h : RowL w R 103 (rdL s r ab an)) (hs : s.size ≤ 2000000000) (hp : r.pos ≤ s.size) :
    Calls Tryz.prog 89 #[.pointer (some ⟨R, 0, none⟩)] w fun e w' => e = .returned (.int .u32 ((rdWord s r).1 : Int)) ∧ RowL w' R 103 (rdL s (rdWord s r).2 ab an) ∧ Ex R w w' := by
  have ht : Hid (Calls Tryz.prog 99 #[.pointer (some ⟨R, 0, none⟩), .int .i64 4] w fun e w' => e = .returned (.string (rdBytes s 4 r).1) ∧ RowL w' R 103 (rdL s (rdBytes s 4 r).2 ab an) ∧ Ex R w w') := take_in s 4 r ab an R w h hs hp (by decide)
  have hi := rdBytes_is s 4 r hp
  unfold rdWord
  dsimp only
  generalize rdBytes s 4 r = x at ht hi ⊢
  obtain ⟨t, r1⟩ := x
  dsimp only at ht hi ⊢
  clear h
  rcases hi with rfl | h4
  · rw [if_pos (show (⟨#[]⟩ : ByteArray).size = 0 from rfl)]
    go_enter Tryz.func89, Tryz.ntmps89
    go_wp2_with fail
    refine Calls.mono ht.out ?_
    rintro e y ⟨rfl, hy, hx⟩
    clear ht
    replace hy : Hid (RowL y R 103 (rdL s r1 ab an)) := hy
    go_wp2_with fail
    go_ret
    exact ⟨rfl, hy.out, hx⟩
  · rw [if_neg (by omega)]
    have hne : t.toList.isEmpty = false := text_some1 t (by omega)
    have hw4 : Hid (∀ y, Calls Tryz.prog 100 #[.string t, .int .i64 0] y fun e w' => e = .returned (.int .u32 (le4 t 0 : Int)) ∧ w' = y) := fun y => wordAt_any t 0 (by omega) (by unfold maxLen; omega) y
    go_enter Tryz.func89, Tryz.ntmps89
    go_wp2_with fail
    refine Calls.mono ht.out ?_
    rintro e y ⟨rfl, hy, hx⟩
    clear ht
    replace hy : Hid (RowL y R 103 (rdL s r1 ab an)) := hy
    go_wp2_with fail
    refine Calls.mono (hw4.out y) ?_
    rintro e y2 ⟨rfl, rfl⟩
    clear hw4
    go_wp2_with fail
    go_ret
    exact ⟨rfl, hy.out, hx⟩
end Go.Proofs.YtebjplogpngeaaaGreatDoor
namespace Go.Proofs.YtebjplogpngeaaaGreatDoor
open Go.RowKit
set_option linter.unusedVariables false
set_option maxRecDepth 100000
set_option maxHeartbeats 1000000
theorem clOk : ClOk := by
  intro t y ht
  have hc : ∀ z, Calls Tryz.prog 111 #[.string t] z fun e w' => e = .returned (.string t) ∧ Below z.heap.size z w' := fun z => Any.stringslite_Clone Tryz.lays316 t z (by omega)
  go_enter Tryz.func108, Tryz.ntmps108
  go_wp2_with (go_at_call 111; refine (hc _).mono ?_; rintro e w' ⟨rfl, hb⟩)
  go_ret
  exact ⟨rfl, hb⟩
end Go.Proofs.YtebjplogpngeaaaGreatDoor

import Derived.Test.YtckapapejfnojaaGreatDoorUsA
namespace Go.Proofs.YtckapapejfnojaaGreatDoor
open Go.RowKit
set_option linter.unusedVariables false
set_option linter.unusedSimpArgs false
/-- a prototype behind a pointer. -/
structure PtrP (w : World) (pb po : Nat) (p : PD) (a3 a4 a5 : Value) : Prop where
  lt : pb < w.heap.size
  c1 : w.cell? ⟨pb, po + 1, none⟩ = some (.bool p.vararg)
  c2 : w.cell? ⟨pb, po + 2, none⟩ = some (.int .i64 p.regs)
  c3 : w.cell? ⟨pb, po + 3, none⟩ = some a3
  c4 : w.cell? ⟨pb, po + 4, none⟩ = some a4
  c5 : w.cell? ⟨pb, po + 5, none⟩ = some a5
  c6 : w.cell? ⟨pb, po + 6, none⟩ = some (.int .i64 p.kids)
  code : IsInts .u32 (· < w.heap.size) w a3 p.code
  consts : ∃ ao cap, a4 = .slice ao p.consts.n cap
  ups : IsUps (· < w.heap.size) w a5 p.ups
theorem PtrP.later {w w' : World} {pb po : Nat} {p : PD} {a3 a4 a5 : Value} (h : PtrP w pb po p a3 a4 a5) (hb : Below w.heap.size w w') : PtrP w' pb po p a3 a4 a5 :=
  ⟨Nat.lt_of_lt_of_le h.lt hb.size, (hb.cell (p := ⟨pb, po + 1, none⟩) h.lt).trans h.c1, (hb.cell (p := ⟨pb, po + 2, none⟩) h.lt).trans h.c2, (hb.cell (p := ⟨pb, po + 3, none⟩) h.lt).trans h.c3, (hb.cell (p := ⟨pb, po + 4, none⟩) h.lt).trans h.c4, (hb.cell (p := ⟨pb, po + 5, none⟩) h.lt).trans h.c5, (hb.cell (p := ⟨pb, po + 6, none⟩) h.lt).trans h.c6, IsArr.later h.code hb, h.consts, IsArr.later h.ups hb⟩
/-- the word at a place, as the walk reads it. -/
theorem PtrP.word {w : World} {pb po : Nat} {p : PD} {a3 a4 a5 : Value} (h : PtrP w pb po p a3 a4 a5) {pc : Nat} (hp : pc < p.code.n) : ∃ b o cap, a3 = .slice (some ⟨b, o, none⟩) p.code.n cap ∧ b < w.heap.size ∧ w.cell? ⟨b, o + pc, none⟩ = some (.int .u32 (p.code.f pc)) := by
  obtain ⟨ao, cap, rfl, -, h2⟩ := h.code
  obtain ⟨b, o, rfl, hb, hc⟩ := h2 (by omega)
  exact ⟨b, o, cap, rfl, hb, by simpa [iC] using hc pc hp 0 (by omega)⟩
/-- a place's value. -/
abbrev plV (pb po B : Nat) (pc z : Int) : Value := .agg #[.pointer (some ⟨pb, po, none⟩), .pointer (some ⟨B, (opW z).toNat * 10, none⟩), .int .i64 pc, .int .i64 (opW z), .int .i64 (aW z), .int .i64 (bW z), .int .i64 (cW z), .int .i64 (sW z)]
set_option maxRecDepth 100000 in
set_option maxHeartbeats 1000000 in
theorem placeAt_in (w : World) (pb po B : Nat) (p : PD) (a3 a4 a5 : Value) (pc : Nat) (z : Int) (hP : PtrP w pb po p a3 a4 a5) (hS : Spans w) (hp : pc < p.code.n) (hn : p.code.n ≤ 2000) (hz : p.code.f pc = z) (hz1 : 0 ≤ z) (hz2 : z ≤ 4294967295) :
    Calls Tryz.prog 95 #[.pointer (some ⟨pb, po, none⟩), .pointer (some ⟨B, 0, none⟩), .int .i64 pc] w fun e w' => e = .returned (plV pb po B pc z) ∧ Below w.heap.size w w' := by
  obtain ⟨b, o, cap, rfl, hb, hc⟩ := hP.word hp
  rw [hz] at hc
  have c3 := hP.c3
  have lt := hP.lt
  have hpI : (pc : Int) < (p.code.n : Int) := by omega
  replace hP : Hid _ := hP
  replace hz : Hid _ := hz
  go_enter Tryz.func95, Tryz.ntmps95
  go_wp2_with fail
  have bw : Below w.heap.size w (w.alloc (.cells #[.pointer none, .pointer none, .int .i64 0, .int .i64 0, .int .i64 0, .int .i64 0, .int .i64 0, .int .i64 0] 150)) := (Below.refl _ _).alloc (Nat.le_refl _) _
  have R0 := RowL.new w [.pointer none, .pointer none, .int .i64 0, .int .i64 0, .int .i64 0, .int .i64 0, .int .i64 0, .int .i64 0] 150
  have sx : (w.alloc (.cells #[.pointer none, .pointer none, .int .i64 0, .int .i64 0, .int .i64 0, .int .i64 0, .int .i64 0, .int .i64 0] 150)).heap.size = w.heap.size + 1 := World.size_alloc _ _
  generalize w.alloc (.cells #[.pointer none, .pointer none, .int .i64 0, .int .i64 0, .int .i64 0, .int .i64 0, .int .i64 0, .int .i64 0] 150) = w0 at bw R0 sx ⊢
  refine (unpackI z _ (hS.below bw) hz1 hz2).mono ?_
  rintro e y ⟨rfl, bU⟩
  replace R0 := R0.call bU
  replace bw := bw.trans (bU.mono bw.size)
  have sy := bU.size
  clear bU
  have o1 : 0 ≤ opW z := by unfold opW; omega
  have o2 : opW z < 64 := by unfold opW; omega
  go_wp2_with fail
  have I0 := RowL.new y [.int .i64 (opW z), .int .i64 (aW z), .int .i64 (bW z), .int .i64 (cW z), .int .i64 (sW z)] 88
  have bI : Below y.heap.size y (y.alloc (.cells #[.int .i64 (opW z), .int .i64 (aW z), .int .i64 (bW z), .int .i64 (cW z), .int .i64 (sW z)] 88)) := (Below.refl _ _).alloc (Nat.le_refl _) _
  replace R0 := R0.call bI
  replace bw := bw.trans (bI.mono bw.size)
  generalize y.alloc (.cells #[.int .i64 (opW z), .int .i64 (aW z), .int .i64 (bW z), .int .i64 (cW z), .int .i64 (sW z)] 88) = y2 at I0 R0 bw bI ⊢
  generalize hyb : y.heap.size = yb at I0 ⊢
  have ne1 : ¬ (w.heap.size = yb) := by omega
  have ne2 : ¬ (yb = w.heap.size) := by omega
  replace hyb : Hid _ := hyb
  have i0 := I0.cell 0 rfl
  have i1 := I0.cell 1 rfl
  have i2 := I0.cell 2 rfl
  have i3 := I0.cell 3 rfl
  have i4 := I0.cell 4 rfl
  have r0 := R0.cell 0 rfl
  have r1 := R0.cell 1 rfl
  have r2 := R0.cell 2 rfl
  have r3 := R0.cell 3 rfl
  have r4 := R0.cell 4 rfl
  have r5 := R0.cell 5 rfl
  have r6 := R0.cell 6 rfl
  have r7 := R0.cell 7 rfl
  have rf := R0.frozen
  replace I0 : Hid _ := I0
  replace R0 : Hid _ := R0
  replace bI : Hid _ := bI
  go_region_held3 (fun x => x.cell? ⟨yb, 0, none⟩ = some (.int .i64 (opW z)) ∧ x.cell? ⟨yb, 1, none⟩ = some (.int .i64 (aW z)) ∧ x.cell? ⟨yb, 2, none⟩ = some (.int .i64 (bW z)) ∧ x.cell? ⟨yb, 3, none⟩ = some (.int .i64 (cW z)) ∧ x.cell? ⟨yb, 4, none⟩ = some (.int .i64 (sW z))) (go_keep) (first | fail)
  go_wp2_with fail
  have L := (RowL.set ((RowL.set ((RowL.set ((RowL.set ((RowL.set ((RowL.set ((RowL.set ((RowL.set (show RowL y2 w.heap.size 150 _ from R0.out) 0 (.pointer (some ⟨pb, po, none⟩)))) 1 (.pointer (some ⟨B, (opW z).toNat * 10, none⟩)))) 2 (.int .i64 pc))) 3 (.int .i64 (opW z)))) 4 (.int .i64 (aW z)))) 5 (.int .i64 (bW z)))) 6 (.int .i64 (cW z)))) 7 (.int .i64 (sW z)))
  have bf := (Below.setCell (Below.setCell (Below.setCell (Below.setCell (Below.setCell (Below.setCell (Below.setCell (Below.setCell bw (p := ⟨w.heap.size, 0, none⟩) (Nat.le_refl _) (.pointer (some ⟨pb, po, none⟩))) (p := ⟨w.heap.size, 1, none⟩) (Nat.le_refl _) (.pointer (some ⟨B, (opW z).toNat * 10, none⟩))) (p := ⟨w.heap.size, 2, none⟩) (Nat.le_refl _) (.int .i64 pc)) (p := ⟨w.heap.size, 3, none⟩) (Nat.le_refl _) (.int .i64 (opW z))) (p := ⟨w.heap.size, 4, none⟩) (Nat.le_refl _) (.int .i64 (aW z))) (p := ⟨w.heap.size, 5, none⟩) (Nat.le_refl _) (.int .i64 (bW z))) (p := ⟨w.heap.size, 6, none⟩) (Nat.le_refl _) (.int .i64 (cW z))) (p := ⟨w.heap.size, 7, none⟩) (Nat.le_refl _) (.int .i64 (sW z)))
  have l0 := L.cell 0 rfl
  have l1 := L.cell 1 rfl
  have l2 := L.cell 2 rfl
  have l3 := L.cell 3 rfl
  have l4 := L.cell 4 rfl
  have l5 := L.cell 5 rfl
  have l6 := L.cell 6 rfl
  have l7 := L.cell 7 rfl
  clear L R0
  refine bodyPost_ret (v := plV pb po B pc z) ?_ rfl ⟨rfl, bf.drew⟩
  unfold plV
  simp [results, Tryz.results95, go_sem, l0, l1, l2, l3, l4, l5, l6, l7]
end Go.Proofs.YtckapapejfnojaaGreatDoor

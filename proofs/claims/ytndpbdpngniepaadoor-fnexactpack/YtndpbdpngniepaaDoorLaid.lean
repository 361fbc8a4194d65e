import Derived.Test.YtndpbdpngniepaaDoorRows
import Derived.WalkKit
import Derived.ProofKit
import Derived.OpenShut
import Derived.LaidMore
import Derived.WalkSmall
import Derived.Stop.Joined
namespace Go.Proofs.YtndpbdpngniepaaDoor
open Go.ChangeShapes Go.WideShapes Go.ChangeAt Go.RowKit
set_option linter.unusedVariables false
theorem own : ownKnob Tryd.prog.godebug = none := by kernel_rfl
theorem gSpans : Tryd.prog.globalNamed "loop.example/s02979/impl.spans" = some 0 := by kernel_rfl
theorem tSpans : (Tryd.prog.globals[0]?).map (·.type) = some 40 := by kernel_rfl
theorem cells3 : Tryd.prog.cellsOf 3 = 1 := by kernel_rfl
theorem cells38 : Tryd.prog.cellsOf 39 = 2 := by kernel_rfl
theorem cells39 : Tryd.prog.cellsOf 40 = 8 := by kernel_rfl
/-- The table of the parts' shifts and sizes, as it lies in memory. -/
structure Spans (w : World) : Prop where
  c0 : w.cell? ⟨0, 0, none⟩ = some (.int .i64 0)
  c1 : w.cell? ⟨0, 1, none⟩ = some (.int .i64 6)
  c2 : w.cell? ⟨0, 2, none⟩ = some (.int .i64 6)
  c3 : w.cell? ⟨0, 3, none⟩ = some (.int .i64 8)
  c4 : w.cell? ⟨0, 4, none⟩ = some (.int .i64 14)
  c5 : w.cell? ⟨0, 5, none⟩ = some (.int .i64 9)
  c6 : w.cell? ⟨0, 6, none⟩ = some (.int .i64 23)
  c7 : w.cell? ⟨0, 7, none⟩ = some (.int .i64 9)
  pos : 0 < w.heap.size
def cells8 : Array Value := #[.int .i64 0, .int .i64 6, .int .i64 6, .int .i64 8, .int .i64 14, .int .i64 9, .int .i64 23, .int .i64 9]
abbrev tableH {H : Type} : DataW H := Rows.laid_loop_example_s02979_impl_spans
/-- One row of the table: two integers. -/
theorem pair_of {H : Type} {enc : TypeId × Value → H} {w : World} {base : Nat} {sp : Nat → Bool} {held : Bool} {fuel : Nat} {a b : Value} {m n : Int} {p : List MemPlace}
    (h : DataW.trod enc Tryd.prog w base sp held fuel 39 [a, b] = some (.agg [.lit (.int .i64 m), .lit (.int .i64 n)], p)) : a = .int .i64 m ∧ b = .int .i64 n := by
  obtain ⟨y0, y1, k, hx, _, e0, e1⟩ := trod_struct2 Tryd.underlying39 h
  simp only [Prod.mk.injEq, DataW.agg.injEq, List.cons.injEq, and_true] at hx
  obtain ⟨⟨i0, i1⟩, _⟩ := hx
  simp only [cells3] at e0 e1
  obtain ⟨k0, f0, g0, _⟩ := DataW.trod_int Tryd.underlying3 e0
  obtain ⟨k1, f1, g1, _⟩ := DataW.trod_int Tryd.underlying3 e1
  rw [g0] at i0
  rw [g1] at i1
  simp at i0 i1 f0 f1
  subst i0 i1 f0 f1
  exact ⟨rfl, rfl⟩
theorem cells_of_laid {W : World} (h : laidMetH Tryd.prog [("loop.example/s02979/impl.spans", Rows.laid_loop_example_s02979_impl_spans)] W) : W.var? Tryd.prog "loop.example/s02979/impl.spans" = some cells8 := by
  rw [MakeChecks.laidMetH_plain _ _ _ (by kernel_rfl)] at h
  obtain ⟨ps, ⟨g, t, cs, fuel, p, q, hg, ht, hvar, hd, _, _⟩, _⟩ := h
  obtain rfl := Option.some.inj (gSpans.symm.trans hg)
  obtain rfl := Option.some.inj (tSpans.symm.trans ht)
  rw [hvar]
  congr 1
  obtain ⟨l⟩ := cs
  obtain ⟨xs, m, rfl, hx, hlen, hn, hel⟩ := DataW.trod_array Tryd.underlying40 hd
  rw [cells39] at hlen
  rw [cells38] at hel
  obtain ⟨a0, a1, a2, a3, a4, a5, a6, a7, rfl⟩ : ∃ a0 a1 a2 a3 a4 a5 a6 a7, l = [a0, a1, a2, a3, a4, a5, a6, a7] := by
    match l, hlen with
    | [a0, a1, a2, a3, a4, a5, a6, a7], _ => exact ⟨a0, a1, a2, a3, a4, a5, a6, a7, rfl⟩
  match xs, hn, hx, hel with
  | [x0, x1, x2, x3], _, hx, hel =>
    simp only [Rows.laid_loop_example_s02979_impl_spans, List.map_cons, List.map_nil, Prod.mk.injEq, DataW.agg.injEq, List.cons.injEq, and_true] at hx
    obtain ⟨⟨i0, i1, i2, i3⟩, _⟩ := hx
    obtain ⟨x0, p0⟩ := x0
    obtain ⟨x1, p1⟩ := x1
    obtain ⟨x2, p2⟩ := x2
    obtain ⟨x3, p3⟩ := x3
    simp only at i0 i1 i2 i3
    subst i0 i1 i2 i3
    obtain ⟨rfl, rfl⟩ := pair_of (hel 0 (by decide))
    obtain ⟨rfl, rfl⟩ := pair_of (hel 1 (by decide))
    obtain ⟨rfl, rfl⟩ := pair_of (hel 2 (by decide))
    obtain ⟨rfl, rfl⟩ := pair_of (hel 3 (by decide))
    rfl
theorem spans_of_var {W : World} (h : W.var? Tryd.prog "loop.example/s02979/impl.spans" = some cells8) : Spans W := by
  have c0 : W.cell? ⟨0, 0, none⟩ = some (.int .i64 0) := World.var?_cell gSpans h 0
  exact ⟨c0, World.var?_cell gSpans h 1, World.var?_cell gSpans h 2, World.var?_cell gSpans h 3, World.var?_cell gSpans h 4, World.var?_cell gSpans h 5, World.var?_cell gSpans h 6, World.var?_cell gSpans h 7, World.block_lt_of_cell? _ _ c0⟩
theorem reads_table {H : Type} (enc : TypeId × Value → H) (W : World) (sp : Nat → Bool) : DataW.trod enc Tryd.prog W 0 sp true 4 40 cells8.toList = some (tableH, []) := by kernel_rfl
theorem vars_again {H : Type} (enc : TypeId × Value → H) {W : World} (h : W.var? Tryd.prog "loop.example/s02979/impl.spans" = some cells8) (sp : Nat → Bool) :
    DataW.TrodVars enc Tryd.prog W sp ["loop.example/s02979/impl.spans"] [tableH] (MemPlace.row ⟨0, 0, none⟩ cells8.size ++ [] ++ []) :=
  ⟨0, 40, cells8, 4, [], [], gSpans, tSpans, h, reads_table enc W sp, rfl, rfl⟩
/-- The door's own heap meets the condition. -/
theorem door_met (os : Os) (args : Array Value) : laidMetH Tryd.prog [("loop.example/s02979/impl.spans", Rows.laid_loop_example_s02979_impl_spans)] ((World.doorLaid Tryd.prog 400 os).forCall (fun _ _ => 0) ⟨#[], args, []⟩).memory :=
  laidMetH_of_parts3 (fuel := 8) (laidMet_of_run' 8 (by kernel_rfl) (by kernel_rfl)) (by kernel_rfl) (by kernel_rfl)
end Go.Proofs.YtndpbdpngniepaaDoor

import Derived.Test.YtckapapejfnojaaGreatDoorTpU
import Derived.WalkKit
import Derived.ProofKit
import Derived.OpenShut
import Derived.LaidMore
import Derived.WalkSmall
import Derived.Stop.Joined
namespace Go.Proofs.YtckapapejfnojaaGreatDoor
open Go.ChangeShapes Go.WideShapes Go.ChangeAt Go.RowKit
set_option linter.unusedVariables false
set_option linter.unusedSimpArgs false
set_option maxRecDepth 100000
theorem own : ownKnob Tryz.prog.godebug = none := by kernel_rfl
theorem gSpans : Tryz.prog.globalNamed "loop.example/s02979/impl.spans" = some 1 := by kernel_rfl
theorem tSpans : (Tryz.prog.globals[1]?).map (·.type) = some 236 := by kernel_rfl
theorem cellsI : Tryz.prog.cellsOf 3 = 1 := by kernel_rfl
theorem cells38 : Tryz.prog.cellsOf 235 = 2 := by kernel_rfl
theorem cells39 : Tryz.prog.cellsOf 236 = 8 := by kernel_rfl
def cells8 : Array Value := #[.int .i64 0, .int .i64 6, .int .i64 6, .int .i64 8, .int .i64 14, .int .i64 9, .int .i64 23, .int .i64 9]
abbrev tableH {H : Type} : DataW H := Rows.laid_loop_example_s02979_impl_spans
/-- One row of the table: two integers. -/
theorem pair_of {H : Type} {enc : TypeId × Value → H} {w : World} {base : Nat} {sp : Nat → Bool} {held : Bool} {fuel : Nat} {a b : Value} {m n : Int} {p : List MemPlace}
    (h : DataW.trod enc Tryz.prog w base sp held fuel 235 [a, b] = some (.agg [.lit (.int .i64 m), .lit (.int .i64 n)], p)) : a = .int .i64 m ∧ b = .int .i64 n := by
  obtain ⟨y0, y1, k, hx, _, e0, e1⟩ := trod_struct2 Tryz.underlying235 h
  simp only [Prod.mk.injEq, DataW.agg.injEq, List.cons.injEq, and_true] at hx
  obtain ⟨⟨i0, i1⟩, _⟩ := hx
  simp only [cellsI] at e0 e1
  obtain ⟨k0, f0, g0, _⟩ := DataW.trod_int Tryz.underlying3 e0
  obtain ⟨k1, f1, g1, _⟩ := DataW.trod_int Tryz.underlying3 e1
  rw [g0] at i0
  rw [g1] at i1
  simp at i0 i1 f0 f1
  subst i0 i1 f0 f1
  exact ⟨rfl, rfl⟩
theorem cells_of_laid {W : World} (h : laidMetH Tryz.prog [("loop.example/s02979/impl.spans", Rows.laid_loop_example_s02979_impl_spans)] W) : W.var? Tryz.prog "loop.example/s02979/impl.spans" = some cells8 := by
  rw [MakeChecks.laidMetH_plain _ _ _ (by kernel_rfl)] at h
  obtain ⟨ps, ⟨g, t, cs, fuel, p, q, hg, ht, hvar, hd, _, _⟩, _⟩ := h
  obtain rfl := Option.some.inj (gSpans.symm.trans hg)
  obtain rfl := Option.some.inj (tSpans.symm.trans ht)
  rw [hvar]
  congr 1
  obtain ⟨l⟩ := cs
  obtain ⟨xs, m, rfl, hx, hlen, hn, hel⟩ := DataW.trod_array Tryz.underlying236 hd
  rw [cells39] at hlen
  rw [cells38] at hel
  obtain ⟨a0, a1, a2, a3, a4, a5, a6, a7, rfl⟩ : ∃ a0 a1 a2 a3 a4 a5 a6 a7, l = [a0, a1, a2, a3, a4, a5, a6, a7] := by
    match l, hlen with
    | [a0, a1, a2, a3, a4, a5, a6, a7], _ => exact ⟨a0, a1, a2, a3, a4, a5, a6, a7, rfl⟩
  match xs, hn, hx, hel with
  | [x0, x1, x2, x3], _, hx, hel =>
    simp only [Rows.laid_loop_example_s02979_impl_spans, List.map_cons, List.map_nil, Prod.mk.injEq, DataW.agg.injEq, List.cons.injEq, and_true] at hx
    obtain ⟨⟨i0, i1, i2, i3⟩, _⟩ := hx
    obtain ⟨x0, p0⟩ := x0
    obtain ⟨x1, p1⟩ := x1
    obtain ⟨x2, p2⟩ := x2
    obtain ⟨x3, p3⟩ := x3
    simp only at i0 i1 i2 i3
    subst i0 i1 i2 i3
    obtain ⟨rfl, rfl⟩ := pair_of (hel 0 (by decide))
    obtain ⟨rfl, rfl⟩ := pair_of (hel 1 (by decide))
    obtain ⟨rfl, rfl⟩ := pair_of (hel 2 (by decide))
    obtain ⟨rfl, rfl⟩ := pair_of (hel 3 (by decide))
    rfl
theorem spans_of_var {W : World} (h : W.var? Tryz.prog "loop.example/s02979/impl.spans" = some cells8) : Spans W := by
  have c0 : W.cell? ⟨1, 0, none⟩ = some (.int .i64 0) := World.var?_cell gSpans h 0
  exact ⟨c0, World.var?_cell gSpans h 1, World.var?_cell gSpans h 2, World.var?_cell gSpans h 3, World.var?_cell gSpans h 4, World.var?_cell gSpans h 5, World.var?_cell gSpans h 6, World.var?_cell gSpans h 7, World.block_lt_of_cell? _ _ c0⟩
theorem reads_table {H : Type} (enc : TypeId × Value → H) (W : World) (sp : Nat → Bool) : DataW.trod enc Tryz.prog W 0 sp true 4 236 cells8.toList = some (tableH, []) := by kernel_rfl
theorem vars_again {H : Type} (enc : TypeId × Value → H) {W : World} (h : W.var? Tryz.prog "loop.example/s02979/impl.spans" = some cells8) (sp : Nat → Bool) :
    DataW.TrodVars enc Tryz.prog W sp ["loop.example/s02979/impl.spans"] [tableH] (MemPlace.row ⟨1, 0, none⟩ cells8.size ++ [] ++ []) :=
  ⟨1, 236, cells8, 4, [], [], gSpans, tSpans, h, reads_table enc W sp, rfl, rfl⟩
/-- The door's own heap meets the condition. -/
theorem door_met (os : Os) (args : Array Value) : laidMetH Tryz.prog [("loop.example/s02979/impl.spans", Rows.laid_loop_example_s02979_impl_spans)] ((World.doorLaid Tryz.prog 400 os).forCall (fun _ _ => 0) ⟨#[], args, []⟩).memory :=
  laidMetH_of_parts3 (fuel := 8) (laidMet_of_run' 8 (by kernel_rfl) (by kernel_rfl)) (by kernel_rfl) (by kernel_rfl)
end Go.Proofs.YtckapapejfnojaaGreatDoor

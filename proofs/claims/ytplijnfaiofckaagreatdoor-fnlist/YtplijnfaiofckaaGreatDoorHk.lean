import Derived.Test.YtplijnfaiofckaaGreatDoorGz
import Derived.Stop.ErrReads
import Derived.LaidSub
import Derived.Stop.LaidErr
import Derived.Stop.Joined
import Derived.Lib.LaidIn
namespace Go.Proofs.YtplijnfaiofckaaGreatDoor
open Go.ChangeShapes Go.WideShapes Go.ChangeAt Go.RowKit
set_option linter.unusedVariables false
set_option linter.unusedSimpArgs false
set_option maxRecDepth 100000
set_option maxHeartbeats 9000000
theorem own : ownKnob Tryz.prog.godebug = none := by kernel_rfl
theorem gSpans : Tryz.prog.globalNamed "loop.example/s02979/impl.spans" = some 1 := by kernel_rfl
theorem tSpans : (Tryz.prog.globals[1]?).map (·.type) = some 181 := by kernel_rfl
theorem cellsI : Tryz.prog.cellsOf 3 = 1 := by kernel_rfl
theorem cells38 : Tryz.prog.cellsOf 180 = 2 := by kernel_rfl
theorem cells39 : Tryz.prog.cellsOf 181 = 8 := by kernel_rfl
def cells8 : Array Value := #[.int .i64 0, .int .i64 6, .int .i64 6, .int .i64 8, .int .i64 14, .int .i64 9, .int .i64 23, .int .i64 9]
abbrev tableH {H : Type} : DataW H := Rows.laid_loop_example_s02979_impl_spans
theorem pair_of {H : Type} {enc : TypeId × Value → H} {w : World} {base : Nat} {sp : Nat → Bool} {held : Bool} {fuel : Nat} {a b : Value} {m n : Int} {p : List MemPlace}
  (h : DataW.trod enc Tryz.prog w base sp held fuel 180 [a, b] = some (.agg [.lit (.int .i64 m), .lit (.int .i64 n)], p)) : a = .int .i64 m ∧ b = .int .i64 n := by
 obtain ⟨y0, y1, k, hx, _, e0, e1⟩ := trod_struct2 Tryz.underlying180 h;simp only [Prod.mk.injEq, DataW.agg.injEq, List.cons.injEq, and_true] at hx;obtain ⟨⟨i0, i1⟩, _⟩ := hx;simp only [cellsI] at e0 e1;obtain ⟨k0, f0, g0, _⟩ := DataW.trod_int Tryz.underlying3 e0;obtain ⟨k1, f1, g1, _⟩ := DataW.trod_int Tryz.underlying3 e1;rw [g0] at i0;rw [g1] at i1;simp at i0 i1 f0 f1;subst i0 i1 f0 f1;exact ⟨rfl, rfl⟩
theorem cellsS_of_laid {W : World} (h : laidMetH Tryz.prog [("loop.example/s02979/impl.spans", Rows.laid_loop_example_s02979_impl_spans)] W) : W.var? Tryz.prog "loop.example/s02979/impl.spans" = some cells8 := by
 rw [MakeChecks.laidMetH_plain _ _ _ (by kernel_rfl)] at h;obtain ⟨ps, ⟨g, t, cs, fuel, p, q, hg, ht, hvar, hd, _, _⟩, _⟩ := h;obtain rfl := Option.some.inj (gSpans.symm.trans hg);obtain rfl := Option.some.inj (tSpans.symm.trans ht);rw [hvar]
 congr 1
 obtain ⟨l⟩ := cs;obtain ⟨xs, m, rfl, hx, hlen, hn, hel⟩ := DataW.trod_array Tryz.underlying181 hd;rw [cells39] at hlen;rw [cells38] at hel
 obtain ⟨a0, a1, a2, a3, a4, a5, a6, a7, rfl⟩ : ∃ a0 a1 a2 a3 a4 a5 a6 a7, l = [a0, a1, a2, a3, a4, a5, a6, a7] := by
  match l, hlen with
  | [a0, a1, a2, a3, a4, a5, a6, a7], _ => exact ⟨a0, a1, a2, a3, a4, a5, a6, a7, rfl⟩
 match xs, hn, hx, hel with
 | [x0, x1, x2, x3], _, hx, hel =>
  simp only [Rows.laid_loop_example_s02979_impl_spans, List.map_cons, List.map_nil, Prod.mk.injEq, DataW.agg.injEq, List.cons.injEq, and_true] at hx;obtain ⟨⟨i0, i1, i2, i3⟩, _⟩ := hx;obtain ⟨x0, p0⟩ := x0;obtain ⟨x1, p1⟩ := x1;obtain ⟨x2, p2⟩ := x2;obtain ⟨x3, p3⟩ := x3;simp only at i0 i1 i2 i3;subst i0 i1 i2 i3;obtain ⟨rfl, rfl⟩ := pair_of (hel 0 (by decide));obtain ⟨rfl, rfl⟩ := pair_of (hel 1 (by decide));obtain ⟨rfl, rfl⟩ := pair_of (hel 2 (by decide));obtain ⟨rfl, rfl⟩ := pair_of (hel 3 (by decide));rfl
theorem spans_of_var {W : World} (h : W.var? Tryz.prog "loop.example/s02979/impl.spans" = some cells8) : Spans W := by
 have c0 : W.cell? ⟨1, 0, none⟩ = some (.int .i64 0) := World.var?_cell gSpans h 0;exact ⟨c0, World.var?_cell gSpans h 1, World.var?_cell gSpans h 2, World.var?_cell gSpans h 3, World.var?_cell gSpans h 4, World.var?_cell gSpans h 5, World.var?_cell gSpans h 6, World.var?_cell gSpans h 7, World.block_lt_of_cell? _ _ c0⟩
theorem reads_spans {H : Type} (enc : TypeId × Value → H) (W : World) (sp : Nat → Bool) : DataW.trod enc Tryz.prog W 0 sp true 4 181 cells8.toList = some (tableH, []) := by kernel_rfl
theorem gNames : Tryz.prog.globalNamed "loop.example/s02979/impl.opNames" = some 0 := by kernel_rfl
theorem tNames : (Tryz.prog.globals[0]?).map (·.type) = some 167 := by kernel_rfl
theorem cellsT : Tryz.prog.cellsOf 9 = 1 := by kernel_rfl
theorem cells44 : Tryz.prog.cellsOf 167 = 34 := by kernel_rfl
theorem laid_eq {H : Type} : (Rows.laid_loop_example_s02979_impl_opNames : DataW H) = .agg (names.map fun b => .lit (.string b.data.toList)) := rfl
theorem cellsN_of_laid {W : World} (h : laidMetH Tryz.prog [("loop.example/s02979/impl.opNames", Rows.laid_loop_example_s02979_impl_opNames)] W) : W.var? Tryz.prog "loop.example/s02979/impl.opNames" = some qd0 := by
 rw [MakeChecks.laidMetH_plain _ _ _ (by kernel_rfl)] at h;obtain ⟨ps, ⟨g, t, cs, fuel, p, q, hg, ht, hvar, hd, _, _⟩, _⟩ := h;obtain rfl := Option.some.inj (gNames.symm.trans hg);obtain rfl := Option.some.inj (tNames.symm.trans ht);rw [hvar]
 congr 1
 obtain ⟨l⟩ := cs;obtain ⟨xs, m, rfl, hx, hlen, hn, hel⟩ := DataW.trod_array Tryz.underlying167 hd;rw [cells44] at hlen;rw [cellsT] at hel;rw [laid_eq] at hx;simp only [Prod.mk.injEq, DataW.agg.injEq] at hx;have hx := hx.1;apply Array.ext';rw [cells34_eq];have hlen' : l.length = 34 := hlen;apply List.ext_getElem
 ·rw [hlen']; rfl
 ·intro i h1 h2;have hi : i < 34 := by rw [← hlen']; exact h1
  have he := hel i hi;have hxi : i < xs.length := by omega
  rw [List.getElem?_eq_getElem hxi] at he;obtain ⟨s, hs, hxs, _⟩ := DataW.trod_string Tryz.underlying9 he
  have h3 : (l.drop (i * 1)).take 1 = [l[i]] := by
   rw [Nat.mul_one, List.drop_eq_getElem_cons h1];rfl
  have hs' : (l.drop (i * 1)).take 1 = [.string s] := hs;rw [h3] at hs';simp only [List.cons.injEq, and_true] at hs';rw [hs', List.getElem_map];have hni : i < names.length := by rw [names_len]; exact hi
  have h4 : ((names.map fun b => (DataW.lit (Lit.string b.data.toList) : DataW _)))[i]? = (xs.map (·.1))[i]? := by rw [hx]
  rw [List.getElem?_map, List.getElem?_map, List.getElem?_eq_getElem hni, List.getElem?_eq_getElem hxi, hxs] at h4;simp only [Option.map_some, Option.some.injEq, DataW.lit.injEq, Lit.string.injEq] at h4
  congr 1
  exact ByteArray.ext (Array.ext' h4.symm)
theorem named_of_var {W : World} (h : W.var? Tryz.prog "loop.example/s02979/impl.opNames" = some qd0) : Named W := by
 have hc : ∀ i, i < 34 → W.cell? ⟨0, i, none⟩ = (names[i]?).map Value.string := fun i hi => by
  rw [World.var?_cell gNames h i, ← Array.getElem?_toList, cells34_eq, List.getElem?_map]
 exact ⟨hc, World.block_lt_of_cell? _ _ (hc 0 (by omega))⟩
theorem reads_names {H : Type} (enc : TypeId × Value → H) (W : World) (sp : Nat → Bool) : DataW.trod enc Tryz.prog W 0 sp true 4 167 qd0.toList = some (Rows.laid_loop_example_s02979_impl_opNames, []) := by kernel_rfl
theorem vars_again {H : Type} (enc : TypeId × Value → H) {W : World} (h : W.var? Tryz.prog "loop.example/s02979/impl.spans" = some cells8) (k : W.var? Tryz.prog "loop.example/s02979/impl.opNames" = some qd0) (sp : Nat → Bool) :
  DataW.TrodVars enc Tryz.prog W sp ["loop.example/s02979/impl.spans", "loop.example/s02979/impl.opNames"] [Rows.laid_loop_example_s02979_impl_spans, Rows.laid_loop_example_s02979_impl_opNames] (MemPlace.row ⟨1, 0, none⟩ cells8.size ++ [] ++ (MemPlace.row ⟨0, 0, none⟩ qd0.size ++ [] ++ [])) :=
 ⟨1, 181, cells8, 4, [], _, gSpans, tSpans, h, reads_spans enc W sp, ⟨0, 167, qd0, 4, [], [], gNames, tNames, k, reads_names enc W sp, rfl, rfl⟩, rfl⟩
abbrev lsLaid : List (String × DataW Unit) := [("math/bits.deBruijn32tab", Rows.laid_math_bits_deBruijn32tab), ("math/bits.deBruijn64tab", Rows.laid_math_bits_deBruijn64tab), ("internal/strconv.uint64pow10", Rows.laid_internal_strconv_uint64pow10), ("unicode/utf8.acceptRanges", Rows.laid_unicode_utf8_acceptRanges), ("strconv.ErrRange", Rows.laid_strconv_ErrRange), ("strconv.ErrSyntax", Rows.laid_strconv_ErrSyntax), ("loop.example/s02979/impl.spans", Rows.laid_loop_example_s02979_impl_spans), ("loop.example/s02979/impl.opNames", Rows.laid_loop_example_s02979_impl_opNames), ("unicode/utf8.first", Rows.laid_unicode_utf8_first)]
theorem gPow : Tryz.prog.globalNamed "internal/strconv.uint64pow10" = some 3 := by kernel_rfl
theorem tPow : (Tryz.prog.globals[3]?).map (·.type) = some 201 := by kernel_rfl
theorem powTab_of {W : World} (h : laidMetH Tryz.prog lsLaid W) : PowTab W := by
 have h1 := h.filter (fun x => x.1 == "internal/strconv.uint64pow10");have e : lsLaid.filter (fun x => x.1 == "internal/strconv.uint64pow10") = [("internal/strconv.uint64pow10", Rows.laid_internal_strconv_uint64pow10)] := by rfl
 rw [e, MakeChecks.laidMetH_plain _ _ _ (by kernel_rfl)] at h1;exact Lib.tabIs_of_head (rest := []) gPow tPow Tryz.underlying201 Tryz.underlying155 (by kernel_rfl) (by kernel_rfl) h1
theorem spans_of {W : World} (h : laidMetH Tryz.prog lsLaid W) : W.var? Tryz.prog "loop.example/s02979/impl.spans" = some cells8 := by
 have h1 := h.filter (fun x => x.1 == "loop.example/s02979/impl.spans");have e : lsLaid.filter (fun x => x.1 == "loop.example/s02979/impl.spans") = [("loop.example/s02979/impl.spans", Rows.laid_loop_example_s02979_impl_spans)] := by rfl
 rw [e] at h1;exact cellsS_of_laid h1
theorem names_of {W : World} (h : laidMetH Tryz.prog lsLaid W) : W.var? Tryz.prog "loop.example/s02979/impl.opNames" = some qd0 := by
 have h1 := h.filter (fun x => x.1 == "loop.example/s02979/impl.opNames");have e : lsLaid.filter (fun x => x.1 == "loop.example/s02979/impl.opNames") = [("loop.example/s02979/impl.opNames", Rows.laid_loop_example_s02979_impl_opNames)] := by rfl
 rw [e] at h1;exact cellsN_of_laid h1
theorem starE : "*" ++ "errors.errorString" = "*errors.errorString" := by decide
theorem rowE (u : TypeId) (h : Tryz.prog.typeName? 3 u = some "*errors.errorString") : u = 223 :=
 typeName_ptr_named (nm := "errors.errorString") (by rw [starE]; kernel_rfl) (by kernel_rfl) (by decide) u (by rw [starE]; exact h)
theorem gSyn : Tryz.prog.globalNamed "strconv.ErrSyntax" = some 6 := by kernel_rfl
theorem tSyn : (Tryz.prog.globals[6]?).map (·.type) = some 149 := by kernel_rfl
theorem gRan : Tryz.prog.globalNamed "strconv.ErrRange" = some 7 := by kernel_rfl
theorem tRan : (Tryz.prog.globals[7]?).map (·.type) = some 149 := by kernel_rfl
theorem cellsEs : Tryz.prog.cellsOf 225 = 1 := by kernel_rfl
theorem errV_of {W : World} (h : laidMetH Tryz.prog lsLaid W) : ErrV W := by
 have h1 := h.filter (fun x => x.1 == "strconv.ErrSyntax");have e1 : lsLaid.filter (fun x => x.1 == "strconv.ErrSyntax") = [("strconv.ErrSyntax", Rows.laid_strconv_ErrSyntax)] := by rfl
 rw [e1, MakeChecks.laidMetH_plain _ _ _ (by kernel_rfl)] at h1;have h2 := h.filter (fun x => x.1 == "strconv.ErrRange");have e2 : lsLaid.filter (fun x => x.1 == "strconv.ErrRange") = [("strconv.ErrRange", Rows.laid_strconv_ErrRange)] := by rfl
 rw [e2, MakeChecks.laidMetH_plain _ _ _ (by kernel_rfl)] at h2;obtain ⟨a1, s1, hv1, -, -, -⟩ := laid_sentinel h1 gSyn tSyn Tryz.underlying149 rowE Tryz.underlying223 Tryz.underlying225 rfl rfl Tryz.underlying9 cellsEs cellsT;obtain ⟨a2, s2, hv2, -, -, -⟩ := laid_sentinel h2 gRan tRan Tryz.underlying149 rowE Tryz.underlying223 Tryz.underlying225 rfl rfl Tryz.underlying9 cellsEs cellsT;have c1 : W.cell? ⟨6, 0, none⟩ = some (.iface 223 (.pointer (some a1))) := World.var?_cell gSyn hv1 0;have c2 : W.cell? ⟨7, 0, none⟩ = some (.iface 223 (.pointer (some a2))) := World.var?_cell gRan hv2 0;exact ⟨⟨_, c1, .inr ⟨_, _, rfl⟩⟩, ⟨_, c2, .inr ⟨_, _, rfl⟩⟩, World.block_lt_of_cell? _ _ c1, World.block_lt_of_cell? _ _ c2⟩
theorem maxLen_of {W : World} (h : W.ShapedOpen Tryz.prog) : ∃ m, W.cell? ⟨2, 0, none⟩ = some (.int .i64 m) :=
 cell_of_shapedOpen_int (P := Tryz.prog) (g := 2) (t := 3) (zero := #[.int .i64 0]) h (of_decide_eq_true (by kernel_rfl)) (by kernel_rfl) rfl (by kernel_rfl) (by kernel_rfl) Tryz.underlying3
noncomputable def doorPin (os : Os) : World :=
 let w := World.doorLaid Tryz.prog 400 os
 { w with heap := w.heap.modify 4 fun
  | .cells _ t frozen => .cells (Go.Pinned.utf8FirstZ.map fun (z : Nat) => Value.int .u8 (z : Int)).toArray t frozen
  | o => o }
theorem door_plain (os : Os) (args : Array Value) : laidMet Tryz.prog lsLaid ((doorPin os).forCall (fun _ _ => 0) ⟨#[], args, []⟩).memory :=
 (LaidIn.of_run (List.range 300) 8 (by kernel_rfl) (by kernel_rfl) (by kernel_rfl) (by kernel_rfl)).met
theorem door_met (os : Os) (args : Array Value) : laidMetH Tryz.prog lsLaid ((doorPin os).forCall (fun _ _ => 0) ⟨#[], args, []⟩).memory := by
 rw [MakeChecks.laidMetH_plain _ _ _ (by kernel_rfl)];exact door_plain os args
end Go.Proofs.YtplijnfaiofckaaGreatDoor

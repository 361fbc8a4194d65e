import Derived.Test.YtndpbdpngniepaaDoorRows
import Derived.WalkKit
import Derived.ProofKit
import Derived.OpenShut
import Derived.LaidMore
import Derived.WalkSmall
import Derived.Stop.Joined
import Derived.Handy
import Derived.WalkLawsBesides
import Derived.WalkSpells
namespace Go.Proofs.YtndpbdpngniepaaDoor
open Go.ChangeShapes Go.WideShapes Go.ChangeAt Go.RowKit
set_option linter.unusedVariables false
set_option linter.unusedSimpArgs false
theorem own : ownKnob Tryd.prog.godebug = none := by kernel_rfl
theorem gNames : Tryd.prog.globalNamed "loop.example/s02979/impl.opNames" = some 1 := by kernel_rfl
theorem tNames : (Tryd.prog.globals[1]?).map (·.type) = some 44 := by kernel_rfl
theorem cells9 : Tryd.prog.cellsOf 9 = 1 := by kernel_rfl
theorem cells44 : Tryd.prog.cellsOf 44 = 34 := by kernel_rfl
/-- the names of the operations. -/
def names : List ByteArray := [⟨#[109, 111, 118, 101]⟩, ⟨#[108, 111, 97, 100, 107]⟩, ⟨#[108, 111, 97, 100, 110, 105, 108]⟩, ⟨#[108, 111, 97, 100, 98, 111, 111, 108]⟩, ⟨#[103, 101, 116, 117, 112]⟩, ⟨#[115, 101, 116, 117, 112]⟩, ⟨#[110, 101, 119, 116, 97, 98, 108, 101]⟩, ⟨#[103, 101, 116, 116, 97, 98, 108, 101]⟩, ⟨#[115, 101, 116, 116, 97, 98, 108, 101]⟩, ⟨#[97, 100, 100]⟩, ⟨#[115, 117, 98]⟩, ⟨#[109, 117, 108]⟩, ⟨#[100, 105, 118]⟩, ⟨#[109, 111, 100]⟩, ⟨#[99, 111, 110, 99, 97, 116]⟩, ⟨#[110, 111, 116]⟩, ⟨#[110, 101, 103]⟩, ⟨#[108, 101, 110]⟩, ⟨#[106, 117, 109, 112]⟩, ⟨#[101, 113]⟩, ⟨#[108, 101, 115, 115]⟩, ⟨#[116, 101, 115, 116]⟩, ⟨#[99, 97, 108, 108]⟩, ⟨#[114, 101, 116, 117, 114, 110]⟩, ⟨#[118, 97, 114, 97, 114, 103]⟩, ⟨#[99, 108, 111, 115, 117, 114, 101]⟩, ⟨#[99, 108, 111, 115, 101]⟩, ⟨#[102, 111, 114, 112, 114, 101, 112]⟩, ⟨#[102, 111, 114, 108, 111, 111, 112]⟩, ⟨#[99, 114, 101, 97, 116, 101]⟩, ⟨#[114, 101, 115, 117, 109, 101]⟩, ⟨#[121, 105, 101, 108, 100]⟩, ⟨#[115, 116, 97, 116, 117, 115]⟩, ⟨#[101, 114, 114, 111, 114]⟩]
def cells34 : Array Value := #[.string ⟨#[109, 111, 118, 101]⟩, .string ⟨#[108, 111, 97, 100, 107]⟩, .string ⟨#[108, 111, 97, 100, 110, 105, 108]⟩, .string ⟨#[108, 111, 97, 100, 98, 111, 111, 108]⟩, .string ⟨#[103, 101, 116, 117, 112]⟩, .string ⟨#[115, 101, 116, 117, 112]⟩, .string ⟨#[110, 101, 119, 116, 97, 98, 108, 101]⟩, .string ⟨#[103, 101, 116, 116, 97, 98, 108, 101]⟩, .string ⟨#[115, 101, 116, 116, 97, 98, 108, 101]⟩, .string ⟨#[97, 100, 100]⟩, .string ⟨#[115, 117, 98]⟩, .string ⟨#[109, 117, 108]⟩, .string ⟨#[100, 105, 118]⟩, .string ⟨#[109, 111, 100]⟩, .string ⟨#[99, 111, 110, 99, 97, 116]⟩, .string ⟨#[110, 111, 116]⟩, .string ⟨#[110, 101, 103]⟩, .string ⟨#[108, 101, 110]⟩, .string ⟨#[106, 117, 109, 112]⟩, .string ⟨#[101, 113]⟩, .string ⟨#[108, 101, 115, 115]⟩, .string ⟨#[116, 101, 115, 116]⟩, .string ⟨#[99, 97, 108, 108]⟩, .string ⟨#[114, 101, 116, 117, 114, 110]⟩, .string ⟨#[118, 97, 114, 97, 114, 103]⟩, .string ⟨#[99, 108, 111, 115, 117, 114, 101]⟩, .string ⟨#[99, 108, 111, 115, 101]⟩, .string ⟨#[102, 111, 114, 112, 114, 101, 112]⟩, .string ⟨#[102, 111, 114, 108, 111, 111, 112]⟩, .string ⟨#[99, 114, 101, 97, 116, 101]⟩, .string ⟨#[114, 101, 115, 117, 109, 101]⟩, .string ⟨#[121, 105, 101, 108, 100]⟩, .string ⟨#[115, 116, 97, 116, 117, 115]⟩, .string ⟨#[101, 114, 114, 111, 114]⟩]
theorem cells34_eq : cells34.toList = names.map Value.string := rfl
theorem names_len : names.length = 34 := rfl
/-- the table lies in memory. -/
structure Named (w : World) : Prop where
  cell : ∀ i, i < 34 → w.cell? ⟨1, i, none⟩ = (names[i]?).map Value.string
  pos : 1 < w.heap.size
theorem Named.below {w w' : World} (h : Named w) (b : Below w.heap.size w w') : Named w' :=
  ⟨fun i hi => (b.cell (p := ⟨1, i, none⟩) h.pos).trans (h.cell i hi), Nat.lt_of_lt_of_le h.pos b.size⟩
theorem laid_eq {H : Type} : (Rows.laid_loop_example_s02979_impl_opNames : DataW H) = .agg (names.map fun b => .lit (.string b.data.toList)) := rfl
theorem cells_of_laid {W : World} (h : laidMetH Tryd.prog [("loop.example/s02979/impl.opNames", Rows.laid_loop_example_s02979_impl_opNames)] W) : W.var? Tryd.prog "loop.example/s02979/impl.opNames" = some cells34 := by
  rw [MakeChecks.laidMetH_plain _ _ _ (by kernel_rfl)] at h
  obtain ⟨ps, ⟨g, t, cs, fuel, p, q, hg, ht, hvar, hd, _, _⟩, _⟩ := h
  obtain rfl := Option.some.inj (gNames.symm.trans hg)
  obtain rfl := Option.some.inj (tNames.symm.trans ht)
  rw [hvar]
  congr 1
  obtain ⟨l⟩ := cs
  obtain ⟨xs, m, rfl, hx, hlen, hn, hel⟩ := DataW.trod_array Tryd.underlying44 hd
  rw [cells44] at hlen
  rw [cells9] at hel
  rw [laid_eq] at hx
  simp only [Prod.mk.injEq, DataW.agg.injEq] at hx
  have hx := hx.1
  apply Array.ext'
  rw [cells34_eq]
  have hlen' : l.length = 34 := hlen
  apply List.ext_getElem
  · rw [hlen']; rfl
  · intro i h1 h2
    have hi : i < 34 := by rw [← hlen']; exact h1
    have he := hel i hi
    have hxi : i < xs.length := by omega
    rw [List.getElem?_eq_getElem hxi] at he
    obtain ⟨s, hs, hxs, _⟩ := DataW.trod_string Tryd.underlying9 he
    have h3 : (l.drop (i * 1)).take 1 = [l[i]] := by
      rw [Nat.mul_one, List.drop_eq_getElem_cons h1]
      rfl
    have hs' : (l.drop (i * 1)).take 1 = [.string s] := hs
    rw [h3] at hs'
    simp only [List.cons.injEq, and_true] at hs'
    rw [hs', List.getElem_map]
    have hni : i < names.length := by rw [names_len]; exact hi
    have h4 : ((names.map fun b => (DataW.lit (Lit.string b.data.toList) : DataW _)))[i]? = (xs.map (·.1))[i]? := by rw [hx]
    rw [List.getElem?_map, List.getElem?_map, List.getElem?_eq_getElem hni, List.getElem?_eq_getElem hxi, hxs] at h4
    simp only [Option.map_some, Option.some.injEq, DataW.lit.injEq, Lit.string.injEq] at h4
    congr 1
    exact ByteArray.ext (Array.ext' h4.symm)
theorem named_of_var {W : World} (h : W.var? Tryd.prog "loop.example/s02979/impl.opNames" = some cells34) : Named W := by
  have hc : ∀ i, i < 34 → W.cell? ⟨1, i, none⟩ = (names[i]?).map Value.string := fun i hi => by
    rw [World.var?_cell gNames h i, ← Array.getElem?_toList, cells34_eq, List.getElem?_map]
  exact ⟨hc, World.block_lt_of_cell? _ _ (hc 0 (by omega))⟩
theorem reads_table {H : Type} (enc : TypeId × Value → H) (W : World) (sp : Nat → Bool) : DataW.trod enc Tryd.prog W 0 sp true 4 44 cells34.toList = some (Rows.laid_loop_example_s02979_impl_opNames, []) := by kernel_rfl
theorem vars_again {H : Type} (enc : TypeId × Value → H) {W : World} (h : W.var? Tryd.prog "loop.example/s02979/impl.opNames" = some cells34) (sp : Nat → Bool) :
    DataW.TrodVars enc Tryd.prog W sp ["loop.example/s02979/impl.opNames"] [Rows.laid_loop_example_s02979_impl_opNames] (MemPlace.row ⟨1, 0, none⟩ cells34.size ++ [] ++ []) :=
  ⟨1, 44, cells34, 4, [], [], gNames, tNames, h, reads_table enc W sp, rfl, rfl⟩
/-- The door's own heap meets the condition. -/
theorem door_met (os : Os) (args : Array Value) : laidMetH Tryd.prog [("loop.example/s02979/impl.opNames", Rows.laid_loop_example_s02979_impl_opNames)] ((World.doorLaid Tryd.prog 400 os).forCall (fun _ _ => 0) ⟨#[], args, []⟩).memory :=
  laidMetH_of_parts3 (fuel := 8) (laidMet_of_run' 8 (by kernel_rfl) (by kernel_rfl)) (by kernel_rfl) (by kernel_rfl)
end Go.Proofs.YtndpbdpngniepaaDoor

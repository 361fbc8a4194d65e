import Derived.Test.YtebjplogpngeaaaGreatDoorGu
import Derived.Test.YtebjplogpngeaaaGreatDoorGv
import Derived.Test.YtebjplogpngeaaaGreatDoorRows
import Derived.WalkKit
import Derived.ProofKit
import Derived.OpenShut
import Derived.LaidMore
import Derived.WalkSmall
import Derived.LaidLaws
import Derived.LaidHandle
import Derived.Stop.Joined
namespace Go.Proofs.YtebjplogpngeaaaGreatDoor
open Go.RowKit Go.Shelf
set_option linter.unusedVariables false
set_option linter.unusedSimpArgs false
set_option maxRecDepth 100000
set_option maxHeartbeats 2000000
/-- the variable that errors.As looks at. -/
def ErrT (w : World) : Prop := w.cell? ⟨0, 0, none⟩ = some (.iface 140 (.agg #[.pointer (some ⟨1, 59, none⟩)]))
theorem ErrT.below {w w' : World} (h : ErrT w) (b : Below w.heap.size w w') : ErrT w' := (b.cell (p := ⟨0, 0, none⟩) (World.block_lt_of_cell? _ _ h)).trans h
theorem implLoad_in (s : ByteArray) (V : Nat → Option (Int × Nat)) (hV : VrOk s V) (hs : s.size ≤ 2000000000) (w : World) (hE : ErrT w) :
    Calls Tryz.prog 8 #[.string s] w fun e w' => Below w.heap.size w w' ∧ (rdCode s V ≠ 0 → e = .returned (.tuple #[.agg #[.slice none 0 0], .int .i64 (rdCode s V)])) ∧
      (rdCode s V = 0 → ∃ v its mid y, w.heap.size ≤ y.heap.size ∧ e = .returned (.tuple #[.agg #[v], .int .i64 0]) ∧ TrOk y w' v its mid ∧ its.map (·.p) = (rdTree s V 64 0 (rd0 s) 1).1) := by
  obtain ⟨y0, hy0⟩ : ∃ y0, w.alloc (.cells #[.slice none 0 0] 25) = y0 := ⟨_, rfl⟩
  have hB0 : Below w.heap.size w y0 := by rw [← hy0]; exact (Below.refl w.heap.size w).alloc (Nat.le_refl _) _
  have hQ0 : RowL y0 w.heap.size 25 [.slice none 0 0] := by rw [← hy0]; exact RowL.new w [.slice none 0 0] 25
  have hl := hidR (load_in s V hV hs y0)
  obtain ⟨Q, hQe⟩ : ∃ Q, Q = w.heap.size := ⟨_, rfl⟩
  rw [← hQe] at hQ0
  have hQw : w.heap.size ≤ Q := by omega
  have hQl : Q < y0.heap.size := World.rowIs.lt hQ0
  replace hQ0 := hidR hQ0
  replace hE := hidR hE
  by_cases hc : rdCode s V = 0
  · go_enter Tryz.func8, Tryz.ntmps8
    go_wp2_with fail
    rw [← hQe]
    replace hQe := hidR hQe
    refine Calls.mono hl.out ?_
    rintro e y1 ⟨hb1, -, h2⟩
    obtain ⟨v, its, mid, yt, hyt, rfl, htr, hps⟩ := h2 hc
    clear hl h2
    obtain ⟨o, k, rfl⟩ := own_slL htr.row
    have hB1 := hB0.trans (hb1.mono hB0.size)
    have hQ1 := hQ0.out.call hb1
    obtain ⟨y2, hy2⟩ : ∃ y2, (y1.alloc (.cells #[.slice o its.length k] 25)).alloc (.cells #[.int .i64 0] 63) = y2 := ⟨_, rfl⟩
    have hC2 : RowL y2 y1.heap.size 25 [.slice o its.length k] := by rw [← hy2]; exact (RowL.new y1 [.slice o its.length k] 25).alloc _
    have hb2 : Below y1.heap.size y1 y2 := by rw [← hy2]; exact ((Below.refl y1.heap.size y1).alloc (Nat.le_refl _) _).alloc (by rw [World.size_alloc]; omega) _
    have hB2 := hB1.trans (hb2.mono hB1.size)
    have hQ2 := hQ1.call hb2
    have htr2 := htr.later (R := Q) (by omega) (Ex.of hb2)
    have c0 := hC2.cell 0 rfl
    have q0 := hQ2.cell 0 rfl
    have qf := hQ2.frozen 0
    have hQ3 := hidR (hQ2.set 0 (.slice o its.length k))
    have htr3 := hidR (htr2.later (R := Q) (by omega) ((Ex.refl Q y2).set 0 (.slice o its.length k)))
    have hB3 := hB2.setCell (p := ⟨Q, 0, none⟩) hQw (.slice o its.length k)
    replace hQ2 := hidR hQ2
    replace hC2 := hidR hC2
    replace hps := hidR hps
    replace hc := hidR hc
    clear htr htr2 hQ1 hQ0
    go_wp2_with (go_at_call 21; refine (as_nil _ _).mono ?_; rintro e w' ⟨rfl, rfl⟩)
    have q9 := hQ3.out.cell 0 rfl
    refine bodyPost_ret (v := .tuple #[.agg #[.slice o its.length k], .int .i64 0]) (by simp [results, Tryz.results8, go_sem, q9]) rfl ?_
    exact ⟨hB3, fun h => absurd hc.out h, fun _ => ⟨_, its, mid, yt, Nat.le_trans hB0.size hyt, rfl, htr3.out, hps.out⟩⟩
  · go_enter Tryz.func8, Tryz.ntmps8
    go_wp2_with fail
    rw [← hQe]
    replace hQe := hidR hQe
    refine Calls.mono hl.out ?_
    rintro e y1 ⟨hb1, h2, -⟩
    obtain rfl := h2 hc
    clear hl h2
    have hfb : fltV (rdCode s V) = .iface 63 (.agg #[.int .i64 (rdCode s V)]) := if_neg hc
    rw [hfb]
    clear hfb
    have hB1 := hB0.trans (hb1.mono hB0.size)
    have hQ1 := hQ0.out.call hb1
    obtain ⟨y2, hy2⟩ : ∃ y2, (y1.alloc (.cells #[.slice none 0 0] 25)).alloc (.cells #[.int .i64 0] 63) = y2 := ⟨_, rfl⟩
    have hF2 : RowL y2 (y1.heap.size + 1) 63 [.int .i64 0] := by
      rw [← hy2]
      have := RowL.new (y1.alloc (.cells #[.slice none 0 0] 25)) [.int .i64 0] 63
      rw [World.size_alloc] at this
      exact this
    have hb2 : Below y1.heap.size y1 y2 := by rw [← hy2]; exact ((Below.refl y1.heap.size y1).alloc (Nat.le_refl _) _).alloc (by rw [World.size_alloc]; omega) _
    have hB2 := hB1.trans (hb2.mono hB1.size)
    have hQ2 := hQ1.call hb2
    have has := hidR (as_hit (rdCode s V) (y1.heap.size + 1) (.int .i64 0) y2 (hE.out.below hB2) (hF2.cell 0 rfl) (hF2.frozen 0))
    replace hQ2 := hidR hQ2
    replace hc := hidR hc
    replace hF2 := hidR hF2
    clear hQ1 hQ0
    go_wp2_with fail
    obtain ⟨T, hT⟩ : ∃ T, T = y1.heap.size + 1 := ⟨_, rfl⟩
    rw [← hT] at has hF2 ⊢
    have hTw : w.heap.size ≤ T := by have := hB1.size; omega
    have hQT : Q ≠ T := by have := hB1.size; have := hb1.size; omega
    replace hT := hidR hT
    refine Calls.mono has.out ?_
    rintro e y3 ⟨rfl, hy3⟩
    have hF3 : RowL y3 T 63 [.int .i64 (rdCode s V)] := by
      rw [hy3]
      exact ((((hF2.out.alloc _).alloc _).alloc _).alloc _).set 0 _
    have hx3 : Ex T y2 y3 := by
      rw [hy3]
      exact (((((Ex.refl T y2).alloc _).alloc _).alloc _).alloc _).set 0 _
    have hQ3 := hx3.row hQ2.out hQT
    have hB3 : Below w.heap.size w y3 := hB2.trans ⟨hx3.os, hx3.tape, hx3.output, hx3.size, fun k hk => hx3.block k (Nat.lt_of_lt_of_le hk hB2.size) (by omega)⟩
    clear has hy3 hx3 hy2 hQ2 hF2
    have f0 := hF3.cell 0 rfl
    have q0 := hQ3.cell 0 rfl
    have qf := hQ3.frozen 0
    have hQ4 := hQ3.set 0 (.slice none 0 0)
    have hB4 := hB3.setCell (p := ⟨Q, 0, none⟩) hQw (.slice none 0 0)
    have q9 := hQ4.cell 0 rfl
    replace hF3 := hidR hF3
    replace hQ3 := hidR hQ3
    replace hQ4 := hidR hQ4
    go_wp2_with fail
    go_region
    go_wp2_with fail
    refine bodyPost_ret (v := .tuple #[.agg #[.slice none 0 0], .int .i64 (rdCode s V)]) (by simp [results, Tryz.results8, go_sem, q9]) rfl ?_
    exact ⟨hB4.drew, fun _ => rfl, fun h => absurd h hc.out⟩
end Go.Proofs.YtebjplogpngeaaaGreatDoor
namespace Go.Proofs.YtebjplogpngeaaaGreatDoor
open Go.ChangeShapes Go.WideShapes Go.ChangeAt Go.RowKit
set_option linter.unusedVariables false
set_option linter.unusedSimpArgs false
set_option maxRecDepth 100000
theorem own : ownKnob Tryz.prog.godebug = none := by kernel_rfl
theorem gErr : Tryz.prog.globalNamed "errors.errorType" = some 0 := by kernel_rfl
theorem tRt : (Tryz.prog.cutTypes.find? (·.1 == "internal/reflectlite.rtype")).map (·.2) = some 140 := by kernel_rfl
theorem oneRow : ((List.range 209).filter fun t => Tryz.prog.rowNamed t [101, 114, 114, 111, 114]) = [59] := by kernel_rfl
theorem tySize : Tryz.prog.types.size = 209 := by kernel_rfl
theorem tyHandle : typeHandle Tryz.prog 59 = .pointer (some ⟨1, 59, none⟩) := by kernel_rfl
/-- what the condition gives the walk. -/
theorem errT_of_laid {W : World} (h : laidMetH Tryz.prog [("errors.errorType", Rows.laid_errors_errorType)] W) : ErrT W := by
  have h' : laidMet Tryz.prog [] W ∧ handlesMet Tryz.prog [("errors.errorType", Rows.laid_errors_errorType)] W := h
  obtain ⟨name, u, ty, e1, e2, e3, e4, e5⟩ := h'.2 _ (List.mem_singleton.2 rfl)
  have en : name = [101, 114, 114, 111, 114] := (Option.some.inj e1).symm
  subst en
  obtain rfl := Option.some.inj (tRt.symm.trans e2)
  have hm : ty ∈ (List.range 209).filter fun t => Tryz.prog.rowNamed t [101, 114, 114, 111, 114] := List.mem_filter.2 ⟨List.mem_range.2 (by rw [← tySize]; exact e3), e4⟩
  rw [oneRow] at hm
  obtain rfl := List.mem_singleton.1 hm
  rw [tyHandle] at e5
  unfold ErrT
  simpa using World.var?_cell gErr e5 0
/-- the door's own heap meets the condition. -/
theorem door_met (os : Os) (args : Array Value) : laidMetH Tryz.prog [("errors.errorType", Rows.laid_errors_errorType)] ((World.doorLaid Tryz.prog 400 os).forCall (fun _ _ => 0) ⟨#[], args, []⟩).memory :=
  laidMetH_of_parts3 (fuel := 8) (laidMet_nil _ _) (by kernel_rfl) (by kernel_rfl)
end Go.Proofs.YtebjplogpngeaaaGreatDoor

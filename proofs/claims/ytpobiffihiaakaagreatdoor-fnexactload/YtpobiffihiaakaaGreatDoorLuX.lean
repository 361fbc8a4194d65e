import Derived.Test.YtpobiffihiaakaaGreatDoorLuR
import Derived.Test.YtpobiffihiaakaaGreatDoorTak
import Derived.Deep.Cut
namespace Go.Proofs.YtpobiffihiaakaaGreatDoor
open Go.RowKit
set_option linter.unusedVariables false
set_option linter.unusedSimpArgs false
set_option maxRecDepth 100000
set_option maxHeartbeats 1000000
theorem RowL.setRow {w : World} {b : Nat} {t : TypeId} {L : List Value} (h : RowL w b t L) (vs : List Value) (hl : vs.length = L.length) : RowL (w.setRow b vs.toArray) b t vs := by
  obtain ⟨c, hc, hs, _⟩ := h
  refine ⟨vs.toArray, setRow_heap w b c _ t _ hc, by simp, fun i hi => ?_⟩
  simp [hi, List.getD]
theorem RowL.rowOther {w : World} {b g : Nat} {t : TypeId} {L : List Value} (h : RowL w b t L) (hb : b ≠ g) (c : Array Value) : RowL (w.setRow g c) b t L := World.rowIs.of_block h (setRow_other _ _ _ _ hb)
theorem Ex2.rowR {R P : Nat} {a b : World} (h : Ex2 R P a b) (c : Array Value) : Ex2 R P a (b.setRow R c) :=
  ⟨h.os, h.tape, h.output, by rw [setRow_size]; exact h.size, fun i hi hR hP => (setRow_other _ _ _ _ hR).trans (h.block i hi hR hP)⟩
theorem Ex2.rowP {R P : Nat} {a b : World} (h : Ex2 R P a b) (c : Array Value) : Ex2 R P a (b.setRow P c) :=
  ⟨h.os, h.tape, h.output, by rw [setRow_size]; exact h.size, fun i hi hR hP => (setRow_other _ _ _ _ hP).trans (h.block i hi hR hP)⟩
theorem below_row {n b : Nat} {w w' : World} (h : Below n w w') (hb : n ≤ b) (c : Array Value) : Below n w (w'.setRow b c) :=
  ⟨h.os, h.tape, h.output, by rw [setRow_size]; exact h.size, fun i hi => (setRow_other _ _ _ _ (by omega)).trans (h.block i hi)⟩
theorem step_store_row {P : Program} {ops : Array Oper} {o : Oper} {a : Act} {w : World} {K : Act → World → Prop} {Q : Exit → Act → World → Prop} {E : Prop} (ty : TypeId) (x y : Operand) (hgd : o.guard = none) (ho : o.op = .store ty x y)
    (g : Nat) (cells : Array Value) (hx : a.eval x = .pointer (some ⟨g, 0, none⟩)) (hy : a.eval y = .agg cells)
    (t : TypeId) (old : Array Value) (hg : w.heap[g]? = some (.cells old t (0, 0))) (hi : (P.info? ty).map (·.size) = some cells.size)
    (hold : old.size = cells.size) (h1 : cells.all (·.oneCell') = true)
    (h : K (a.put o.dst undef) (w.setRow g cells)) : if Region.wanted o (yielded ops a.tmps) = true then Oper.wp P o a w K Q else E := by
  have hw : Region.wanted o (yielded ops a.tmps) = true := by simp [Region.wanted, hgd]
  rw [if_pos hw]
  exact wp_store_row ty x y ho g cells hx hy t old hg hi hold h1 h
theorem ready_storeL {P : Program} {md : Region.Mode} {ops : Array Oper} {Q : Exit → Act → World → Prop} {S : World → Prop} {fuel : Nat} {listed : Array Bool} {a : Act} {w : World} (i : Nat) {o : Oper} (hr : Region.ready md ops listed = [i]) (hi : ops[i]? = some o)
    (ty : TypeId) (x y : Operand) (hgd : o.guard = none) (ho : o.op = .store ty x y) (hd : o.dst = none)
    (g : Nat) (L vs : List Value) (hx : a.eval x = .pointer (some ⟨g, 0, none⟩)) (hy : a.eval y = .agg vs.toArray)
    (t : TypeId) (hg : RowL w g t L) (hin : (P.info? ty).map (·.size) = some vs.length)
    (hold : L.length = vs.length) (h1 : vs.all (·.oneCell') = true) (hS : S (w.setRow g vs.toArray))
    (h : wpAnyH P md ops Q S fuel (listed.setIfInBounds i true) a (w.setRow g vs.toArray)) : wpAnyH P md ops Q S (fuel + 1) listed a w := by
  obtain ⟨old, hg, ho1, _⟩ := hg
  exact wpAnyH_ready hr (by simp) (AllReadyH.cons hi (fun K hK => step_store_row ty x y hgd ho g vs.toArray hx hy t old hg (by simpa using hin) (by simp; omega) (by simpa using h1) (hK.out _ _ hS (fun _ => by rw [hd]; exact h))) AllReadyH.nil)
theorem infP1 : (Tryz.prog.info? 38).map (·.size) = some 10 := by kernel_rfl
theorem infR1 : (Tryz.prog.info? 31).map (·.size) = some 3 := by kernel_rfl
end Go.Proofs.YtpobiffihiaakaaGreatDoor

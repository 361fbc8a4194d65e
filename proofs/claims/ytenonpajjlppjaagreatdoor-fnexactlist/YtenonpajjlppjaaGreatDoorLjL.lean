import Derived.Test.YtenonpajjlppjaaGreatDoorLjA
import Derived.Lib.UnsafeStr
import Derived.Shelf.RegionOpenPlain
namespace Go.Proofs.YtenonpajjlppjaaGreatDoor
open Go.RowKit Go.Shelf
set_option linter.unusedVariables false
set_option linter.unusedSimpArgs false
set_option maxRecDepth 100000
set_option maxHeartbeats 2000000
theorem freeze_other (w : World) (p : Addr) (n k : Nat) (h : k ≠ p.block) : (w.freeze p n).heap[k]? = w.heap[k]? := by
  unfold World.freeze
  split
  · rfl
  · simp only [Array.getElem?_modify]
    rw [if_neg (by omega)]
theorem string_in (P : Nat) (U : List Value) (w0 : World) (v0 : Value) (y : World) (v : Value) (X : ByteArray) (h : Lw P U w0 v0 y v X) (h0 : X.size ≠ 0) (B : Nat) (hB : ∀ k, v.ownBlock = some k → B ≤ k) :
    Calls Tryz.prog 17 #[.pointer (some ⟨P, 0, none⟩)] y fun e w' => e = .returned (.string X) ∧ Below B y w' ∧ ∀ k, v.ownBlock ≠ some k → w'.heap[k]? = y.heap[k]? := by
  obtain ⟨a, ha, hb⟩ := h.box
  rcases h.buf with ⟨_, hz⟩ | ⟨g, cap, cur, fz, rfl, hg, hfz, hnc, hcm, hcs, htake⟩
  · exact absurd hz h0
  have hBg : B ≤ g := hB g rfl
  have hlen : X.data.toList.length = X.size := by rw [Array.length_toList]; rfl
  have c1 : y.drew.cell? ⟨P, 1, none⟩ = some (.slice (some ⟨g, 0, none⟩) X.size cap) := (hb.call (Below.refl _ _).drew).cell 1 rfl
  have hl := hb.lt
  have hSD : (Builtin.unsafeSliceData_ #[35] 103 #[.slice (some ⟨g, 0, none⟩) X.size cap]).run Tryz.prog y.drew = .ok (.pointer (some ⟨g, 0, none⟩)) y.drew :=
    Lib.run_unsafeSliceData_row _ _ _ _ _ _ (by omega)
  have hUS : (Builtin.unsafeString_ #[103, 3] 9 #[.pointer (some ⟨g, 0, none⟩), .int .i64 (X.size : Int)]).run Tryz.prog y.drew = .ok (.string X) (y.drew.freeze ⟨g, 0, none⟩ X.size) := by
    have hg' : y.drew.heap[g]? = some (.cells cur 5 fz) := hg
    have := Lib.run_unsafeString_row (P := Tryz.prog) y.drew 103 3 9 5 Tryz.underlying103 (by kernel_rfl) g cur.size (by simp [World.shape?, hg']) X.data.toList (fun e => h0 (by rw [← hlen, e]; rfl)) (by omega) (by rw [hlen]; unfold maxLen at hcm; omega) ?_
    · rw [hlen] at this
      exact this
    · intro j x hx
      have hjl : j < X.size := by rw [← hlen]; exact (List.getElem?_eq_some_iff.1 hx).1
      have e1 : (cur.toList.take X.size)[j]? = some (.int .u8 (x.toNat : Int)) := by
        rw [htake]
        simp [Lib.strCells, hx]
      rw [List.getElem?_take_of_lt hjl, Array.getElem?_toList] at e1
      rw [add_zero_lit]
      simp [World.cell?, hg', e1]
  have hot : Hid (∀ k, (Value.slice (some ⟨g, 0, none⟩) X.size cap).ownBlock ≠ some k → (y.drew.freeze ⟨g, 0, none⟩ X.size).heap[k]? = y.heap[k]?) := fun k hk => freeze_other y.drew ⟨g, 0, none⟩ X.size k (fun e => hk (by rw [e]; rfl))
  have hbf := show Hid (Below B y (y.drew.freeze ⟨g, 0, none⟩ X.size)) from Lib.below_freeze (Below.drew (Below.refl B y)) (p := ⟨g, 0, none⟩) hBg _
  clear h hb ha hg hfz hnc hcm hcs htake hlen
  generalize X.size = n at c1 hSD hUS hbf hot ⊢
  have mixed : Tryz.prog.follows .mixedOrders = true := by kernel_rfl
  go_enter Tryz.func17, Tryz.ntmps17
  go_wp2_with fail
  go_region_o
  all_goals (go_wp2_with fail; go_ret; exact ⟨rfl, hbf.out, hot.out⟩)
end Go.Proofs.YtenonpajjlppjaaGreatDoor

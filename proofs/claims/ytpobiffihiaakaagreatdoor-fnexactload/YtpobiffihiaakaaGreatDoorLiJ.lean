import Derived.Test.YtpobiffihiaakaaGreatDoorGC
import Derived.Deep.RegionHeld3
import Derived.Deep.QuietTactic
import Derived.Deep.RegionWith
import Derived.IntWalk
import Derived.Deep.Cut
import Derived.Test.YtpobiffihiaakaaGreatDoorLsF
import Derived.Test.YtpobiffihiaakaaGreatDoorGiA
namespace Go.Proofs.YtpobiffihiaakaaGreatDoor
open Go.RowKit
set_option linter.unusedVariables false
set_option linter.unusedSimpArgs false
set_option maxRecDepth 100000
set_option maxHeartbeats 1000000
theorem val_nil (s : ByteArray) (r r1 : RS) (ab an : Int) (R : Nat)  (w : World) (h : RowL w R 67 (rdL s r ab an)) (hc : Hid (∀ y, RowL y R 67 (rdL s r ab an) → Calls Tryz.prog 74 #[.pointer (some ⟨R, 0, none⟩), .int .u8 4] y fun e w' => e = .returned (.int .u8 0) ∧ RowL w' R 67 (rdL s r1 ab an) ∧ Ex R y w')) :
    Calls Tryz.prog 65 #[.pointer (some ⟨R, 0, none⟩)] w fun e w' => e = .returned (.agg #[.int .i64 0, .int .i64 0, .string ⟨#[]⟩]) ∧ RowL w' R 67 (rdL s r1 ab an) ∧ Ex R w w' := by
  have hRl := h.lt
  have b0 : Below w.heap.size w (w.alloc (.cells #[.int .i64 0, .int .i64 0, .string ⟨#[]⟩] 59)) := (Below.refl _ _).alloc (Nat.le_refl _) _
  have h' : Hid (RowL (w.alloc (.cells #[.int .i64 0, .int .i64 0, .string ⟨#[]⟩] 59)) R 67 (rdL s r ab an)) := h.call b0
  have B0 := RowL.new w [.int .i64 0, .int .i64 0, .string ⟨#[]⟩] 59
  have hx0 := Ex.of (R := R) b0
  have hne : w.heap.size ≠ R := by omega
  clear h b0
  go_enter Tryz.func65, Tryz.ntmps65
  go_wp2_with fail
  generalize w.alloc (.cells #[.int .i64 0, .int .i64 0, .string ⟨#[]⟩] 59) = w1 at h' B0 hx0 ⊢
  refine Calls.mono (hc.out _ h'.out) ?_
  rintro e y ⟨rfl, hy, hx⟩
  replace B0 := hx.row B0 hne
  replace hx0 := hx0.trans hx
  clear hc h' hx
  have e0 := B0.cell 0 rfl
  have e1 := B0.cell 1 rfl
  have e2 := B0.cell 2 rfl
  have ef := B0.frozen
  have el := B0.lt
  have L := ((B0.set 0 (.int .i64 0)).set 1 (.int .i64 0)).set 2 (.string ⟨#[]⟩)
  have hM : Hid (RowL (((y.setCell ⟨w.heap.size, 0, none⟩ (.int .i64 0)).setCell ⟨w.heap.size, 1, none⟩ (.int .i64 0)).setCell ⟨w.heap.size, 2, none⟩ (.string ⟨#[]⟩)) R 67 (rdL s r1 ab an)) := ((hy.other (a := ⟨w.heap.size, 0, none⟩) (Ne.symm hne) (.int .i64 0)).other (a := ⟨w.heap.size, 1, none⟩) (Ne.symm hne) (.int .i64 0)).other (a := ⟨w.heap.size, 2, none⟩) (Ne.symm hne) (.string ⟨#[]⟩)
  have hX := ((hx0.setNew ⟨w.heap.size, 0, none⟩ (Nat.le_refl _) (.int .i64 0)).setNew ⟨w.heap.size, 1, none⟩ (Nat.le_refl _) (.int .i64 0)).setNew ⟨w.heap.size, 2, none⟩ (Nat.le_refl _) (.string ⟨#[]⟩)
  have l0 := L.cell 0 rfl
  have l1 := L.cell 1 rfl
  have l2 := L.cell 2 rfl
  replace L : Hid _ := L
  replace B0 : Hid _ := B0
  replace hy : Hid _ := hy
  go_wp2_with fail
  refine bodyPost_ret (v := .agg #[.int .i64 0, .int .i64 0, .string ⟨#[]⟩]) ?_ rfl ⟨rfl, hM.out, hX⟩
  simp [results, Tryz.results65, go_sem, l0, l1, l2]
theorem val_false (s : ByteArray) (r r1 : RS) (ab an : Int) (R : Nat)  (w : World) (h : RowL w R 67 (rdL s r ab an)) (hc : Hid (∀ y, RowL y R 67 (rdL s r ab an) → Calls Tryz.prog 74 #[.pointer (some ⟨R, 0, none⟩), .int .u8 4] y fun e w' => e = .returned (.int .u8 1) ∧ RowL w' R 67 (rdL s r1 ab an) ∧ Ex R y w')) :
    Calls Tryz.prog 65 #[.pointer (some ⟨R, 0, none⟩)] w fun e w' => e = .returned (.agg #[.int .i64 1, .int .i64 0, .string ⟨#[]⟩]) ∧ RowL w' R 67 (rdL s r1 ab an) ∧ Ex R w w' := by
  have hRl := h.lt
  have b0 : Below w.heap.size w (w.alloc (.cells #[.int .i64 0, .int .i64 0, .string ⟨#[]⟩] 59)) := (Below.refl _ _).alloc (Nat.le_refl _) _
  have h' : Hid (RowL (w.alloc (.cells #[.int .i64 0, .int .i64 0, .string ⟨#[]⟩] 59)) R 67 (rdL s r ab an)) := h.call b0
  have B0 := RowL.new w [.int .i64 0, .int .i64 0, .string ⟨#[]⟩] 59
  have hx0 := Ex.of (R := R) b0
  have hne : w.heap.size ≠ R := by omega
  clear h b0
  go_enter Tryz.func65, Tryz.ntmps65
  go_wp2_with fail
  generalize w.alloc (.cells #[.int .i64 0, .int .i64 0, .string ⟨#[]⟩] 59) = w1 at h' B0 hx0 ⊢
  refine Calls.mono (hc.out _ h'.out) ?_
  rintro e y ⟨rfl, hy, hx⟩
  replace B0 := hx.row B0 hne
  replace hx0 := hx0.trans hx
  clear hc h' hx
  have e0 := B0.cell 0 rfl
  have e1 := B0.cell 1 rfl
  have e2 := B0.cell 2 rfl
  have ef := B0.frozen
  have el := B0.lt
  have L := ((B0.set 0 (.int .i64 1)).set 1 (.int .i64 0)).set 2 (.string ⟨#[]⟩)
  have hM : Hid (RowL (((y.setCell ⟨w.heap.size, 0, none⟩ (.int .i64 1)).setCell ⟨w.heap.size, 1, none⟩ (.int .i64 0)).setCell ⟨w.heap.size, 2, none⟩ (.string ⟨#[]⟩)) R 67 (rdL s r1 ab an)) := ((hy.other (a := ⟨w.heap.size, 0, none⟩) (Ne.symm hne) (.int .i64 1)).other (a := ⟨w.heap.size, 1, none⟩) (Ne.symm hne) (.int .i64 0)).other (a := ⟨w.heap.size, 2, none⟩) (Ne.symm hne) (.string ⟨#[]⟩)
  have hX := ((hx0.setNew ⟨w.heap.size, 0, none⟩ (Nat.le_refl _) (.int .i64 1)).setNew ⟨w.heap.size, 1, none⟩ (Nat.le_refl _) (.int .i64 0)).setNew ⟨w.heap.size, 2, none⟩ (Nat.le_refl _) (.string ⟨#[]⟩)
  have l0 := L.cell 0 rfl
  have l1 := L.cell 1 rfl
  have l2 := L.cell 2 rfl
  replace L : Hid _ := L
  replace B0 : Hid _ := B0
  replace hy : Hid _ := hy
  go_wp2_with fail
  refine bodyPost_ret (v := .agg #[.int .i64 1, .int .i64 0, .string ⟨#[]⟩]) ?_ rfl ⟨rfl, hM.out, hX⟩
  simp [results, Tryz.results65, go_sem, l0, l1, l2]
theorem val_true (s : ByteArray) (r r1 : RS) (ab an : Int) (R : Nat)  (w : World) (h : RowL w R 67 (rdL s r ab an)) (hc : Hid (∀ y, RowL y R 67 (rdL s r ab an) → Calls Tryz.prog 74 #[.pointer (some ⟨R, 0, none⟩), .int .u8 4] y fun e w' => e = .returned (.int .u8 2) ∧ RowL w' R 67 (rdL s r1 ab an) ∧ Ex R y w')) :
    Calls Tryz.prog 65 #[.pointer (some ⟨R, 0, none⟩)] w fun e w' => e = .returned (.agg #[.int .i64 1, .int .i64 1, .string ⟨#[]⟩]) ∧ RowL w' R 67 (rdL s r1 ab an) ∧ Ex R w w' := by
  have hRl := h.lt
  have b0 : Below w.heap.size w (w.alloc (.cells #[.int .i64 0, .int .i64 0, .string ⟨#[]⟩] 59)) := (Below.refl _ _).alloc (Nat.le_refl _) _
  have h' : Hid (RowL (w.alloc (.cells #[.int .i64 0, .int .i64 0, .string ⟨#[]⟩] 59)) R 67 (rdL s r ab an)) := h.call b0
  have B0 := RowL.new w [.int .i64 0, .int .i64 0, .string ⟨#[]⟩] 59
  have hx0 := Ex.of (R := R) b0
  have hne : w.heap.size ≠ R := by omega
  clear h b0
  go_enter Tryz.func65, Tryz.ntmps65
  go_wp2_with fail
  generalize w.alloc (.cells #[.int .i64 0, .int .i64 0, .string ⟨#[]⟩] 59) = w1 at h' B0 hx0 ⊢
  refine Calls.mono (hc.out _ h'.out) ?_
  rintro e y ⟨rfl, hy, hx⟩
  replace B0 := hx.row B0 hne
  replace hx0 := hx0.trans hx
  clear hc h' hx
  have e0 := B0.cell 0 rfl
  have e1 := B0.cell 1 rfl
  have e2 := B0.cell 2 rfl
  have ef := B0.frozen
  have el := B0.lt
  have L := ((B0.set 0 (.int .i64 1)).set 1 (.int .i64 1)).set 2 (.string ⟨#[]⟩)
  have hM : Hid (RowL (((y.setCell ⟨w.heap.size, 0, none⟩ (.int .i64 1)).setCell ⟨w.heap.size, 1, none⟩ (.int .i64 1)).setCell ⟨w.heap.size, 2, none⟩ (.string ⟨#[]⟩)) R 67 (rdL s r1 ab an)) := ((hy.other (a := ⟨w.heap.size, 0, none⟩) (Ne.symm hne) (.int .i64 1)).other (a := ⟨w.heap.size, 1, none⟩) (Ne.symm hne) (.int .i64 1)).other (a := ⟨w.heap.size, 2, none⟩) (Ne.symm hne) (.string ⟨#[]⟩)
  have hX := ((hx0.setNew ⟨w.heap.size, 0, none⟩ (Nat.le_refl _) (.int .i64 1)).setNew ⟨w.heap.size, 1, none⟩ (Nat.le_refl _) (.int .i64 1)).setNew ⟨w.heap.size, 2, none⟩ (Nat.le_refl _) (.string ⟨#[]⟩)
  have l0 := L.cell 0 rfl
  have l1 := L.cell 1 rfl
  have l2 := L.cell 2 rfl
  replace L : Hid _ := L
  replace B0 : Hid _ := B0
  replace hy : Hid _ := hy
  go_wp2_with fail
  refine bodyPost_ret (v := .agg #[.int .i64 1, .int .i64 1, .string ⟨#[]⟩]) ?_ rfl ⟨rfl, hM.out, hX⟩
  simp [results, Tryz.results65, go_sem, l0, l1, l2]
theorem val_text (s : ByteArray) (r r1 : RS) (ab an : Int) (R : Nat) (t : ByteArray) (r2 : RS) (ht : Hid (∀ y, RowL y R 67 (rdL s r1 ab an) → Calls Tryz.prog 80 #[.pointer (some ⟨R, 0, none⟩)] y fun e w' => e = .returned (.string t) ∧ RowL w' R 67 (rdL s r2 ab an) ∧ Ex R y w')) (w : World) (h : RowL w R 67 (rdL s r ab an)) (hc : Hid (∀ y, RowL y R 67 (rdL s r ab an) → Calls Tryz.prog 74 #[.pointer (some ⟨R, 0, none⟩), .int .u8 4] y fun e w' => e = .returned (.int .u8 4) ∧ RowL w' R 67 (rdL s r1 ab an) ∧ Ex R y w')) :
    Calls Tryz.prog 65 #[.pointer (some ⟨R, 0, none⟩)] w fun e w' => e = .returned (.agg #[.int .i64 3, .int .i64 0, .string t]) ∧ RowL w' R 67 (rdL s r2 ab an) ∧ Ex R w w' := by
  have hRl := h.lt
  have b0 : Below w.heap.size w (w.alloc (.cells #[.int .i64 0, .int .i64 0, .string ⟨#[]⟩] 59)) := (Below.refl _ _).alloc (Nat.le_refl _) _
  have h' : Hid (RowL (w.alloc (.cells #[.int .i64 0, .int .i64 0, .string ⟨#[]⟩] 59)) R 67 (rdL s r ab an)) := h.call b0
  have B0 := RowL.new w [.int .i64 0, .int .i64 0, .string ⟨#[]⟩] 59
  have hx0 := Ex.of (R := R) b0
  have hne : w.heap.size ≠ R := by omega
  clear h b0
  go_enter Tryz.func65, Tryz.ntmps65
  go_wp2_with fail
  generalize w.alloc (.cells #[.int .i64 0, .int .i64 0, .string ⟨#[]⟩] 59) = w1 at h' B0 hx0 ⊢
  refine Calls.mono (hc.out _ h'.out) ?_
  rintro e y ⟨rfl, hy, hx⟩
  replace B0 := hx.row B0 hne
  replace hx0 := hx0.trans hx
  clear hc h' hx
  replace hy : Hid (RowL y R 67 (rdL s r1 ab an)) := hy
  go_wp2_with fail
  refine Calls.mono (ht.out _ hy.out) ?_
  rintro e y2 ⟨rfl, hy2, hx⟩
  replace B0 := hx.row B0 hne
  replace hx0 := hx0.trans hx
  clear ht hy hx
  have hy := hy2
  clear hy2
  have e0 := B0.cell 0 rfl
  have e1 := B0.cell 1 rfl
  have e2 := B0.cell 2 rfl
  have ef := B0.frozen
  have el := B0.lt
  have L := ((B0.set 0 (.int .i64 3)).set 1 (.int .i64 0)).set 2 (.string t)
  have hM : Hid (RowL (((y2.setCell ⟨w.heap.size, 0, none⟩ (.int .i64 3)).setCell ⟨w.heap.size, 1, none⟩ (.int .i64 0)).setCell ⟨w.heap.size, 2, none⟩ (.string t)) R 67 (rdL s r2 ab an)) := ((hy.other (a := ⟨w.heap.size, 0, none⟩) (Ne.symm hne) (.int .i64 3)).other (a := ⟨w.heap.size, 1, none⟩) (Ne.symm hne) (.int .i64 0)).other (a := ⟨w.heap.size, 2, none⟩) (Ne.symm hne) (.string t)
  have hX := ((hx0.setNew ⟨w.heap.size, 0, none⟩ (Nat.le_refl _) (.int .i64 3)).setNew ⟨w.heap.size, 1, none⟩ (Nat.le_refl _) (.int .i64 0)).setNew ⟨w.heap.size, 2, none⟩ (Nat.le_refl _) (.string t)
  have l0 := L.cell 0 rfl
  have l1 := L.cell 1 rfl
  have l2 := L.cell 2 rfl
  replace L : Hid _ := L
  replace B0 : Hid _ := B0
  replace hy : Hid _ := hy
  go_wp2_with fail
  refine bodyPost_ret (v := .agg #[.int .i64 3, .int .i64 0, .string t]) ?_ rfl ⟨rfl, hM.out, hX⟩
  simp [results, Tryz.results65, go_sem, l0, l1, l2]
theorem val_int (s : ByteArray) (r r1 : RS) (ab an : Int) (R : Nat) (t : ByteArray) (r2 : RS) (ht : Hid (∀ y, RowL y R 67 (rdL s r1 ab an) → Calls Tryz.prog 77 #[.pointer (some ⟨R, 0, none⟩), .int .i64 8] y fun e w' => e = .returned (.string t) ∧ RowL w' R 67 (rdL s r2 ab an) ∧ Ex R y w')) (n q : Int) (bo : Bool) (hg : Hid (∀ y, Calls Tryz.prog 79 #[.string t, .int .i64 0] y fun e w' => e = .returned (.tuple #[.int .i64 n, .int .i64 q, .bool bo]) ∧ Below y.heap.size y w')) (w : World) (h : RowL w R 67 (rdL s r ab an)) (hc : Hid (∀ y, RowL y R 67 (rdL s r ab an) → Calls Tryz.prog 74 #[.pointer (some ⟨R, 0, none⟩), .int .u8 4] y fun e w' => e = .returned (.int .u8 3) ∧ RowL w' R 67 (rdL s r1 ab an) ∧ Ex R y w')) :
    Calls Tryz.prog 65 #[.pointer (some ⟨R, 0, none⟩)] w fun e w' => e = .returned (.agg #[.int .i64 2, .int .i64 n, .string ⟨#[]⟩]) ∧ RowL w' R 67 (rdL s r2 ab an) ∧ Ex R w w' := by
  have hRl := h.lt
  have b0 : Below w.heap.size w (w.alloc (.cells #[.int .i64 0, .int .i64 0, .string ⟨#[]⟩] 59)) := (Below.refl _ _).alloc (Nat.le_refl _) _
  have h' : Hid (RowL (w.alloc (.cells #[.int .i64 0, .int .i64 0, .string ⟨#[]⟩] 59)) R 67 (rdL s r ab an)) := h.call b0
  have B0 := RowL.new w [.int .i64 0, .int .i64 0, .string ⟨#[]⟩] 59
  have hx0 := Ex.of (R := R) b0
  have hne : w.heap.size ≠ R := by omega
  clear h b0
  go_enter Tryz.func65, Tryz.ntmps65
  go_wp2_with fail
  generalize w.alloc (.cells #[.int .i64 0, .int .i64 0, .string ⟨#[]⟩] 59) = w1 at h' B0 hx0 ⊢
  refine Calls.mono (hc.out _ h'.out) ?_
  rintro e y ⟨rfl, hy, hx⟩
  replace B0 := hx.row B0 hne
  replace hx0 := hx0.trans hx
  clear hc h' hx
  replace hy : Hid (RowL y R 67 (rdL s r1 ab an)) := hy
  go_wp2_with fail
  refine Calls.mono (ht.out _ hy.out) ?_
  rintro e y2 ⟨rfl, hy2, hx⟩
  replace B0 := hx.row B0 hne
  replace hx0 := hx0.trans hx
  clear ht hy hx
  have hy := hy2
  clear hy2
  replace hy : Hid (RowL y2 R 67 (rdL s r2 ab an)) := hy
  go_wp2_with fail
  refine Calls.mono (hg.out _) ?_
  rintro e y3 ⟨rfl, b3⟩
  replace B0 := B0.call b3
  replace hx0 := hx0.trans (Ex.of b3)
  have hy3 := RowL.call hy.out b3
  clear hg hy b3
  have hy := hy3
  clear hy3
  have e0 := B0.cell 0 rfl
  have e1 := B0.cell 1 rfl
  have e2 := B0.cell 2 rfl
  have ef := B0.frozen
  have el := B0.lt
  have L := ((B0.set 0 (.int .i64 2)).set 1 (.int .i64 n)).set 2 (.string ⟨#[]⟩)
  have hM : Hid (RowL (((y3.setCell ⟨w.heap.size, 0, none⟩ (.int .i64 2)).setCell ⟨w.heap.size, 1, none⟩ (.int .i64 n)).setCell ⟨w.heap.size, 2, none⟩ (.string ⟨#[]⟩)) R 67 (rdL s r2 ab an)) := ((hy.other (a := ⟨w.heap.size, 0, none⟩) (Ne.symm hne) (.int .i64 2)).other (a := ⟨w.heap.size, 1, none⟩) (Ne.symm hne) (.int .i64 n)).other (a := ⟨w.heap.size, 2, none⟩) (Ne.symm hne) (.string ⟨#[]⟩)
  have hX := ((hx0.setNew ⟨w.heap.size, 0, none⟩ (Nat.le_refl _) (.int .i64 2)).setNew ⟨w.heap.size, 1, none⟩ (Nat.le_refl _) (.int .i64 n)).setNew ⟨w.heap.size, 2, none⟩ (Nat.le_refl _) (.string ⟨#[]⟩)
  have l0 := L.cell 0 rfl
  have l1 := L.cell 1 rfl
  have l2 := L.cell 2 rfl
  replace L : Hid _ := L
  replace B0 : Hid _ := B0
  replace hy : Hid _ := hy
  go_wp2_with fail
  refine bodyPost_ret (v := .agg #[.int .i64 2, .int .i64 n, .string ⟨#[]⟩]) ?_ rfl ⟨rfl, hM.out, hX⟩
  simp [results, Tryz.results65, go_sem, l0, l1, l2]
theorem giOk : GiOk gi0 := ⟨spec_gi, impl_gi⟩
theorem value_in (s : ByteArray) (V : Nat → Option (Int × Nat)) (hV : VrOk s V) (G : ByteArray → Int) (hG : GiOk G) (hCl : ClOk) (r : RS) (ab an : Int) (R : Nat) (w : World) (h : RowL w R 67 (rdL s r ab an)) (hs : s.size ≤ 1048576) (hp : r.pos ≤ s.size) :
    Calls Tryz.prog 65 #[.pointer (some ⟨R, 0, none⟩)] w fun e w' => e = .returned (.agg #[.int .i64 (rdVal s V G r).1.kind, .int .i64 (rdVal s V G r).1.num, .string (rdVal s V G r).1.text]) ∧ RowL w' R 67 (rdL s (rdVal s V G r).2 ab an) ∧ Ex R w w' := by
  have hc : Hid (∀ y, RowL y R 67 (rdL s r ab an) → Calls Tryz.prog 74 #[.pointer (some ⟨R, 0, none⟩), .int .u8 4] y fun e w' => e = .returned (.int .u8 ((rdByte s 4 r).1 : Int)) ∧ RowL w' R 67 (rdL s (rdByte s 4 r).2 ab an) ∧ Ex R y w') := fun y hy => choice_in s 4 r ab an R y hy hs hp (by decide)
  have hp1 := rdByte_pos (hi := 4) hp
  have hb4 := rdByte_bd s 4 r
  unfold rdVal
  dsimp only
  generalize rdByte s 4 r = x at hc hp1 hb4 ⊢
  obtain ⟨k, r1⟩ := x
  dsimp only at hc hp1 hb4 ⊢
  by_cases h1 : k = 1
  · subst h1
    rw [if_pos (.inl rfl)]
    exact val_false s r r1 ab an R w h hc
  by_cases h2 : k = 2
  · subst h2
    rw [if_pos (.inr rfl)]
    exact val_true s r r1 ab an R w h hc
  rw [if_neg (by omega)]
  by_cases h3 : k = 3
  · subst h3
    rw [if_pos rfl]
    obtain ⟨q, bo, hg⟩ := hG.im (rdBytes s 8 r1).1 (Nat.le_trans (rdBytes_size s 8 r1) hs)
    exact val_int s r r1 ab an R (rdBytes s 8 r1).1 (rdBytes s 8 r1).2 (fun y hy => take_in s 8 r1 ab an R y hy hs hp1 (by decide)) (G (rdBytes s 8 r1).1) q bo hg w h hc
  rw [if_neg h3]
  by_cases h4 : k = 4
  · subst h4
    rw [if_pos rfl]
    exact val_text s r r1 ab an R (rdText s V r1).1 (rdText s V r1).2 (fun y hy => text_in s V hV hCl r1 ab an R y hy hs hp1) w h hc
  rw [if_neg h4]
  obtain rfl : k = 0 := by omega
  exact val_nil s r r1 ab an R w h hc
end Go.Proofs.YtpobiffihiaakaaGreatDoor

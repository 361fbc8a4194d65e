import Derived.Test.YtpobiffihiaakaaGreatDoorLtH
import Derived.Test.YtpobiffihiaakaaGreatDoorLvF
namespace Go.Proofs.YtpobiffihiaakaaGreatDoor
open Go.RowKit
set_option linter.unusedVariables false
set_option linter.unusedSimpArgs false
set_option maxRecDepth 100000
set_option maxHeartbeats 2000000
/-- the head of a chunk's text. -/
abbrev hdr : ByteArray := ⟨#[27, 76, 82, 86, 1, 0]⟩
def HdrOk (s : ByteArray) : Prop := 6 ≤ s.size ∧ (s.extract 0 6).toList = [27, 76, 82, 86, 1, 0]
theorem prefix_yes (s : ByteArray) (hs : s.size ≤ 1048576) (h : HdrOk s) (w : World) :
    Calls Tryz.prog 45 #[.string s, .string ⟨#[27, 76, 82, 86, 1, 0]⟩] w fun e w' => e = .returned (.bool true) ∧ Below w.heap.size w w' := by
  obtain ⟨h1, h2⟩ := h
  have h6 : (6 : Int) ≤ (s.size : Int) := by omega
  have hsl : ∀ wx, (Instr.slice 9 (.string s) none (some (.int .i64 6)) none).run Tryz.prog wx = .ok (.string (s.extract 0 6)) wx := fun wx => WPut.sl_head s 6 wx h6
  have he : ((s.extract 0 6).toList == [27, 76, 82, 86, 1, 0]) = true := by simpa using h2
  go_enter Tryz.func45, Tryz.ntmps45
  go_wp2
  go_ret
  exact ⟨rfl, Below.refl _ _⟩
theorem prefix_short (s : ByteArray) (h : s.size < 6) (w : World) :
    Calls Tryz.prog 45 #[.string s, .string ⟨#[27, 76, 82, 86, 1, 0]⟩] w fun e w' => e = .returned (.bool false) ∧ Below w.heap.size w w' := by
  have h6 : ¬ (6 : Int) ≤ (s.size : Int) := by omega
  go_enter Tryz.func45, Tryz.ntmps45
  go_wp2
  go_ret
  exact ⟨rfl, Below.refl _ _⟩
theorem prefix_other (s : ByteArray) (h1 : 6 ≤ s.size) (h2 : (s.extract 0 6).toList ≠ [27, 76, 82, 86, 1, 0]) (w : World) :
    Calls Tryz.prog 45 #[.string s, .string ⟨#[27, 76, 82, 86, 1, 0]⟩] w fun e w' => e = .returned (.bool false) ∧ Below w.heap.size w w' := by
  have h6 : (6 : Int) ≤ (s.size : Int) := by omega
  have hsl : ∀ wx, (Instr.slice 9 (.string s) none (some (.int .i64 6)) none).run Tryz.prog wx = .ok (.string (s.extract 0 6)) wx := fun wx => WPut.sl_head s 6 wx h6
  have he : ((s.extract 0 6).toList == [27, 76, 82, 86, 1, 0]) = false := by simpa using h2
  clear h2
  go_enter Tryz.func45, Tryz.ntmps45
  go_wp2
  go_ret
  exact ⟨rfl, Below.refl _ _⟩
theorem prefix_no (s : ByteArray) (h : ¬ HdrOk s) (w : World) :
    Calls Tryz.prog 45 #[.string s, .string ⟨#[27, 76, 82, 86, 1, 0]⟩] w fun e w' => e = .returned (.bool false) ∧ Below w.heap.size w w' := by
  by_cases h1 : 6 ≤ s.size
  · exact prefix_other s h1 (fun h2 => h ⟨h1, h2⟩) w
  · exact prefix_short s (by omega) w
theorem header_yes (s : ByteArray) (hs : s.size ≤ 1048576) (hh : HdrOk s) (p : Nat) (b ab an : Int) (R : Nat) (w : World) (h : RowL w R 67 (rdL s ⟨p, b⟩ ab an)) :
    Calls Tryz.prog 21 #[.pointer (some ⟨R, 0, none⟩)] w fun e w' => e = .returned (.tuple #[]) ∧ RowL w' R 67 (rdL s ⟨6, b⟩ ab an) ∧ Ex R w w' := by
  have h0 : w.cell? ⟨R, 0, none⟩ = some (.string s) := h.cell 0 rfl
  have hp := hidR (prefix_yes s hs hh w)
  replace h := hidR h
  go_enter Tryz.func21, Tryz.ntmps21
  go_wp2_with fail
  refine Calls.mono hp.out ?_
  rintro e y ⟨rfl, hb⟩
  have hR := h.out.call hb
  have e1 := hR.cell 1 rfl
  have f1 := hR.frozen 1
  have hR2 := hidR (hR.set 1 (.int .i64 6))
  have hx := ((Ex.of hb : Ex R w y)).set 1 (.int .i64 6)
  clear hp h0 hb hR
  go_wp2_with fail
  go_end0
  exact ⟨rfl, hR2.out, hx⟩
theorem header_no (s : ByteArray) (hh : ¬ HdrOk s) (r : RS) (ab an : Int) (R : Nat) (w : World) (h : RowL w R 67 (rdL s r ab an)) :
    Calls Tryz.prog 21 #[.pointer (some ⟨R, 0, none⟩)] w fun e w' => e = .returned (.tuple #[]) ∧ RowL w' R 67 (rdL s (r.fail 1) ab an) ∧ Ex R w w' := by
  have h0 : w.cell? ⟨R, 0, none⟩ = some (.string s) := h.cell 0 rfl
  have hp := hidR (prefix_no s hh w)
  replace h := hidR h
  go_enter Tryz.func21, Tryz.ntmps21
  go_wp2_with fail
  refine Calls.mono hp.out ?_
  rintro e y ⟨rfl, hb⟩
  have hR := h.out.call hb
  have hf := hidR (reader_fail s r ab an 1 R y hR (by decide))
  have hx := (Ex.of hb : Ex R w y)
  clear hp h0 hb hR
  go_wp2_with fail
  refine Calls.mono hf.out ?_
  rintro e y2 ⟨rfl, hy, hx2⟩
  have hx3 := hx.trans hx2
  replace hy := hidR hy
  clear hf hx hx2
  go_wp2_with fail
  refine bodyPost_ret (v := .tuple #[]) (by simp [results, Tryz.results21, go_sem]) rfl ?_
  exact ⟨rfl, hy.out, hx3⟩
theorem end_bad (s : ByteArray) (r : RS) (ab an : Int) (R : Nat) (w : World) (h : RowL w R 67 (rdL s r ab an)) (hp : r.pos < s.size) :
    Calls Tryz.prog 23 #[.pointer (some ⟨R, 0, none⟩)] w fun e w' => e = .returned (.tuple #[]) ∧ RowL w' R 67 (rdL s (r.fail 5) ab an) ∧ Ex R w w' := by
  have h0 : w.cell? ⟨R, 0, none⟩ = some (.string s) := h.cell 0 rfl
  have h1 : w.cell? ⟨R, 1, none⟩ = some (.int .i64 (r.pos : Int)) := h.cell 1 rfl
  have hf := hidR (fun y hy => reader_fail s r ab an 5 R y hy (by decide))
  have hp' : (r.pos : Int) < (s.size : Int) := by omega
  replace h := hidR h
  go_enter Tryz.func23, Tryz.ntmps23
  go_wp2_with fail
  go_region
  have hd : RowL w.drew R 67 (rdL s r ab an) := h.out
  go_wp2_with fail
  refine Calls.mono (hf.out _ hd) ?_
  rintro e y ⟨rfl, hy, hx⟩
  have hx2 := (Ex.refl R w).drew.trans hx
  replace hy := hidR hy
  clear hf hd h0 h1 hx
  go_wp2_with fail
  go_end0
  exact ⟨rfl, hy.out, hx2⟩
theorem end_ok (s : ByteArray) (r : RS) (ab an : Int) (R : Nat) (w : World) (h : RowL w R 67 (rdL s r ab an)) (hp : s.size ≤ r.pos) :
    Calls Tryz.prog 23 #[.pointer (some ⟨R, 0, none⟩)] w fun e w' => e = .returned (.tuple #[]) ∧ RowL w' R 67 (rdL s r ab an) ∧ Ex R w w' := by
  have h0 : w.cell? ⟨R, 0, none⟩ = some (.string s) := h.cell 0 rfl
  have h1 : w.cell? ⟨R, 1, none⟩ = some (.int .i64 (r.pos : Int)) := h.cell 1 rfl
  have hp' : ¬ (r.pos : Int) < (s.size : Int) := by omega
  replace h := hidR h
  go_enter Tryz.func23, Tryz.ntmps23
  go_wp2_with fail
  go_region
  go_wp2_with fail
  go_end0
  exact ⟨rfl, h.out, (Ex.refl R w).drew⟩
end Go.Proofs.YtpobiffihiaakaaGreatDoor

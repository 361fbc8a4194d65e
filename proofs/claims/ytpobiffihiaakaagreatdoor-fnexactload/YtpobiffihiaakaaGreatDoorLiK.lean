import Derived.Test.YtpobiffihiaakaaGreatDoorLiJ
import Derived.Deep.RegionHeld3
import Derived.Deep.QuietTactic
import Derived.Deep.RegionWith
import Derived.IntWalk
import Derived.Deep.Cut
namespace Go.Proofs.YtpobiffihiaakaaGreatDoor
open Go.RowKit
set_option linter.unusedVariables false
set_option linter.unusedSimpArgs false
set_option maxRecDepth 100000
set_option maxHeartbeats 1000000
/-- a word of code. -/
def rdWord (s : ByteArray) (r : RS) : Nat × RS :=
  let x := rdBytes s 4 r
  (if x.1.size = 0 then 0 else le4 x.1 0, x.2)
theorem rdBytes_is (s : ByteArray) (n : Nat) (r : RS) (hp : r.pos ≤ s.size) : (rdBytes s n r).1 = ⟨#[]⟩ ∨ (rdBytes s n r).1.size = n := by
  unfold rdBytes
  split
  · exact .inl rfl
  · split
    · right; rw [ByteArray.size_extract]; omega
    · exact .inl rfl
theorem word_in (s : ByteArray) (r : RS) (ab an : Int) (R : Nat) (w : World) (h : RowL w R 67 (rdL s r ab an)) (hs : s.size ≤ 1048576) (hp : r.pos ≤ s.size) :
    Calls Tryz.prog 63 #[.pointer (some ⟨R, 0, none⟩)] w fun e w' => e = .returned (.int .u32 ((rdWord s r).1 : Int)) ∧ RowL w' R 67 (rdL s (rdWord s r).2 ab an) ∧ Ex R w w' := by
  have ht : Hid (Calls Tryz.prog 77 #[.pointer (some ⟨R, 0, none⟩), .int .i64 4] w fun e w' => e = .returned (.string (rdBytes s 4 r).1) ∧ RowL w' R 67 (rdL s (rdBytes s 4 r).2 ab an) ∧ Ex R w w') := take_in s 4 r ab an R w h hs hp (by decide)
  have hi := rdBytes_is s 4 r hp
  unfold rdWord
  dsimp only
  generalize rdBytes s 4 r = x at ht hi ⊢
  obtain ⟨t, r1⟩ := x
  dsimp only at ht hi ⊢
  clear h
  rcases hi with rfl | h4
  · rw [if_pos (show (⟨#[]⟩ : ByteArray).size = 0 from rfl)]
    go_enter Tryz.func63, Tryz.ntmps63
    go_wp2_with fail
    refine Calls.mono ht.out ?_
    rintro e y ⟨rfl, hy, hx⟩
    clear ht
    replace hy : Hid (RowL y R 67 (rdL s r1 ab an)) := hy
    go_wp2_with fail
    go_ret
    exact ⟨rfl, hy.out, hx⟩
  · rw [if_neg (by omega)]
    have hne : t.toList.isEmpty = false := text_some1 t (by omega)
    have hw4 : Hid (∀ y, Calls Tryz.prog 78 #[.string t, .int .i64 0] y fun e w' => e = .returned (.int .u32 (le4 t 0 : Int)) ∧ w' = y) := fun y => wordAt_any t 0 (by omega) (by unfold maxLen; omega) y
    go_enter Tryz.func63, Tryz.ntmps63
    go_wp2_with fail
    refine Calls.mono ht.out ?_
    rintro e y ⟨rfl, hy, hx⟩
    clear ht
    replace hy : Hid (RowL y R 67 (rdL s r1 ab an)) := hy
    go_wp2_with fail
    refine Calls.mono (hw4.out y) ?_
    rintro e y2 ⟨rfl, rfl⟩
    clear hw4
    go_wp2_with fail
    go_ret
    exact ⟨rfl, hy.out, hx⟩
end Go.Proofs.YtpobiffihiaakaaGreatDoor

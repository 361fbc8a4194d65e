import Derived.Test.YtcbifllencnbaaaBufB
import Derived.Test.YtcbifllencnbaaaRows
import Derived.OpenShut
import Derived.WalkLawsBesides
import Derived.WalkSpells
import Derived.Laws.BitsAllLaws
import Derived.Laws.Concat
namespace Go.Proofs.Ytcbifllencnbaaa
open Go.RowKit Go.Lib
set_option linter.unusedVariables false
set_option linter.unusedSimpArgs false
theorem info8 : (Try.prog.info? 5).map (fun i => (i.zero, i.size, i.bytes)) = some (some (.int .u8 0), 1, 1) := by kernel_rfl
theorem strCells_byte (b : UInt8) : strCells (strOfNums [(b.toNat : Int)]) = [.int .u8 (b.toNat : Int)] := by simp [strCells, strOfNums]
theorem ext_step (s : ByteArray) (i : Nat) (hi : i < s.size) : s.extract 0 i ++ strOfNums [((s[i]'hi).toNat : Int)] = s.extract 0 (i + 1) := by
  apply ByteArray.ext
  apply Array.ext'
  simp [strOfNums]
  rw [List.take_add_one]
  simp [hi]
  rfl
set_option maxRecDepth 100000 in
set_option maxHeartbeats 400000 in
theorem l3Put_in (v : Value) (B s : ByteArray) (w : World) (h : Buf w 5 v B) (hb : B.size + s.size ≤ 70368744177664) :
    Calls Try.prog 11 #[v, .string s] w fun e w' => (∃ v', e = .returned v' ∧ Buf w' 5 v' (B ++ s) ∧ Fr (fun _ => False) w v w' v') := by
  obtain ⟨a0, c0, rfl⟩ := h.form
  replace hb : Hid _ := hb
  replace h : Hid (Buf w 5 (.slice a0 B.size c0) B) := h
  go_enter Try.func11, Try.ntmps11
  go_wp2_with fail
  go_loopw [0, 5] (fun o i wr => ∃ i' : Nat, i = .int .i64 (i' : Int) ∧ i' ≤ s.size ∧ Buf wr 5 o (B ++ s.extract 0 i') ∧ Fr (fun _ => False) w (.slice a0 B.size c0) wr o)
    (fun _ i _ => s.size - (intOf i).toNat)
  case atStart => exact ⟨0, rfl, by omega, by rw [show B ++ s.extract 0 0 = B by simp]; exact h.out, Fr.refl _ _ _⟩
  case round =>
    obtain ⟨i', rfl, hin, hB, hF⟩ := hrel
    have hsz : Hid ((B ++ s.extract 0 i').size = B.size + i') := by show _ = _; simp; omega
    replace hB : Hid (Buf wr 5 u0 (B ++ s.extract 0 i')) := hB
    replace hF : Hid (Fr (fun _ => False) w (.slice a0 B.size c0) wr u0) := hF
    by_cases hlt : i' < s.size
    · have hii : (i' : Int) < (s.size : Int) := by omega
      obtain ⟨i0, hi, hz0, hz1, hz2⟩ := info_parts info8
      go_wp2_with (at_builtin; refine wpList_append_buf_news _ rfl (.tmp 12) (.tmp 16) 36 rfl 5 i0 Try.underlying36 hi hz0 hz1 hz2 _ (B ++ s.extract 0 i') rfl (hB.out.keep ?c0) (strOfNums [((s[i']'hlt).toNat : Int)]) ⟨wr.heap.size, 0, none⟩ 1 1 rfl (strOfNums_size _) (by omega) ?c1 ?c2 ?_)
      case c0 => exact fun k hk => Below.heap_alloc _ _ _ (hB.out.lt k hk)
      case c1 => rw [strCells_byte]; exact cell_one_new _ _ _
      case c2 => rw [hsz.out, strOfNums_size]; have := hb.out; simp only [List.length_cons, List.length_nil]; omega
      intro v' w1 hB1 hg ho
      have hF1 : Hid (Fr (fun _ => False) w (.slice a0 B.size c0) w1 v') := hF.out.trans (Fr.after (by go_grown) (Fr.of_grown _ hg (by simpa using ho)))
      have hB1' : Hid (Buf w1 5 v' (B ++ s.extract 0 (i' + 1))) := by
        rw [ByteArray.append_assoc, ext_step] at hB1
        exact hB1
      clear hB hF hB1 hg ho hi hz0 hz1 hz2
      have hsm : (i' : Int) + 1 ≤ 9223372036854775807 := by have := hb.out; omega
      go_wp2_with fail
      go_roundw
      case rel => exact ⟨i' + 1, by go_num, by omega, hB1'.out, hF1.out⟩
      case measure => simp [intOf]; omega
    · obtain rfl : i' = s.size := by omega
      have hfin : B ++ s.extract 0 s.size = B ++ s := by simp
      go_wp2_with fail
      go_ret
      exact ⟨_, rfl, hfin ▸ hB.out, hF.out⟩
end Go.Proofs.Ytcbifllencnbaaa

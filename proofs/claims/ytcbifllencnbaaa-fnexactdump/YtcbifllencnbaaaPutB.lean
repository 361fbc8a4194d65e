import Derived.Test.YtcbifllencnbaaaPutA
namespace Go.Proofs.Ytcbifllencnbaaa.WPut
open Go.RowKit
set_option linter.unusedVariables false
theorem info5 : (Try.prog.info? 5).map (fun i => (i.zero, i.size, i.bytes)) = some (some (.int .u8 0), 1, 1) := by kernel_rfl
/-- What has been written, and what is still to come. -/
def Put8 (Z : Int) (k : Nat) (m : Int) (xs : List Int) : Prop := xs.length = k ∧ xs ++ leL (8 - k) m = leL 8 Z
theorem Put8.step {Z m : Int} {k : Nat} {xs : List Int} (h : Put8 Z k m xs) (hk : k < 8) : Put8 Z (k + 1) (m / 256) (xs ++ [m % 256]) := by
  obtain ⟨h1, h2⟩ := h
  refine ⟨by simp [h1], ?_⟩
  rw [← h2, show 8 - k = (8 - (k + 1)) + 1 from by omega, leL]
  simp
theorem Put8.done {Z m : Int} {xs : List Int} (h : Put8 Z 8 m xs) : xs = leL 8 Z := by
  obtain ⟨h1, h2⟩ := h
  simpa [leL] using h2
theorem u64_bd (z : Int) : 0 ≤ IntKind.u64.wrap z ∧ IntKind.u64.wrap z ≤ 18446744073709551615 := by
  rw [IntKind.wrap_u64]; omega
set_option maxRecDepth 100000 in
set_option maxHeartbeats 400000 in
theorem specPutInt (z : Int) (w : World) (h0 : -9223372036854775808 ≤ z) (h1 : z ≤ 9223372036854775807) :
    Calls Try.prog 52 #[.int .i64 z] w fun e w' => e = .returned (.string (strOfNums (leL 8 (IntKind.u64.wrap z)))) ∧ Below w.heap.size w w' := by
  obtain ⟨i0, hi, hz0, hz1, hz2⟩ := info_parts info5
  have hb := u64_bd z
  go_enter Try.func52, Try.ntmps52
  go_wp2_with fail
  go_loopw [3, 4, 5] (fun u v i wr => ∃ (k : Nat) (m : Int) (xs : List Int), k ≤ 8 ∧ i = .int .i64 k ∧ 0 ≤ m ∧ m ≤ 18446744073709551615 ∧ u = .int .u64 m ∧ Put8 (IntKind.u64.wrap z) k m xs ∧ wr.ownsRow w.heap.size 5 1 v k (xs.map (Value.int .u8)) ∧ Below w.heap.size w wr)
    (fun _ _ i _ => 8 - (intOf i).toNat)
  case atStart => exact ⟨0, IntKind.u64.wrap z, [], by omega, rfl, hb.1, hb.2, rfl, ⟨rfl, rfl⟩, World.ownsRow_made w #[] 0 (Nat.le_refl _) (by simp) (by simp), (Below.refl _ _).alloc (Nat.le_refl _) _⟩
  case round =>
    obtain ⟨k, m, xs, hk, rfl, hm0, hm1, rfl, hp, hown, hbel⟩ := hrel
    by_cases hlt : k < 8
    · go_wp2_with (at_builtin; refine wpList_append_own _ rfl (.tmp 13) (.tmp 17) 36 rfl w.heap.size 5 i0 (.int .u8 0) 1 1 Try.underlying36 hi hz0 hz1 hz2 rfl (by decide) _ _ _ rfl (hown.alloc _) ⟨wr.heap.size, 0, none⟩ 1 1 [.int .u8 (m % 256)] rfl rfl ?c1 ?c2 ?c3 ?c4 ?c5 ?_)
      case c1 =>
        intro j u hj
        match j, hj with
        | 0, hj => simp at hj; subst hj; simp [Addr.add]
      case c2 => intro u hu; simp at hu; subst hu; rfl
      case c3 => unfold maxLen; omega
      case c4 => omega
      case c5 => have := hbel.size; simp; omega
      intro v' w1 hown' hgrow _
      have hb1 : Below w.heap.size w w1 := Below.grown (hbel.alloc hbel.size _) hgrow (by have := hbel.size; simp; omega) (fun q hq => (hown.lt q hq).1)
      have hown1 : w1.ownsRow w.heap.size 5 1 v' (k + 1) ((xs ++ [m % 256]).map (Value.int .u8)) := by simpa using hown'
      have hp1 := hp.step hlt
      clear hown' hgrow hown hbel hp
      go_wp2_with fail
      go_roundw
      case rel => exact ⟨k + 1, m / 256, xs ++ [m % 256], by omega, by go_num, by omega, by omega, rfl, hp1, hown1, hb1⟩
      case measure => simp [intOf]; omega
    · obtain rfl : k = 8 := by omega
      have hcv : (convert 36 9 u4).run Try.prog wr = .ok (.string (strOfNums xs)) wr := conv_own (by rw [hp.1]; exact hown)
      have hd : Hid (xs = leL 8 (IntKind.u64.wrap z)) := hp.done
      clear hp hown
      go_wp2_with fail
      go_ret
      exact ⟨ret_str (by rw [hd.out]), hbel⟩
end Go.Proofs.Ytcbifllencnbaaa.WPut

import Derived.Test.YtckapapejfnojaaGreatDoorChA
namespace Go.Proofs.YtckapapejfnojaaGreatDoor
open Go.RowKit
set_option linter.unusedVariables false
set_option linter.unusedSimpArgs false

/-- what a size test answers: what is left, or -1. -/
def Left (left r : Int) (P : Prop) : Prop := r ≤ left ∧ -1 ≤ r ∧ (0 ≤ r → P)

theorem szValue_in (d : VD) (left : Int) (w : World) (h0 : 0 ≤ left) (h1 : left ≤ 1048576) (ht : d.text.size ≤ 9223372036854775807) :
    Calls Tryz.prog 182 #[.agg #[.int .i64 d.kind, .int .i64 d.num, .string d.text], .int .i64 left] w fun e w' =>
      (∃ r, e = .returned (.int .i64 r) ∧ Left left r True) ∧ Below w.heap.size w w' := by
  by_cases hl : left - d.text.size < 0
  · go_enter Tryz.func182, Tryz.ntmps182
    go_wp2_with fail
    go_ret
    exact ⟨⟨_, rfl, by omega, by omega, fun _ => trivial⟩, by go_grown⟩
  · go_enter Tryz.func182, Tryz.ntmps182
    go_wp2_with fail
    go_ret
    exact ⟨⟨_, rfl, by omega, by omega, fun _ => trivial⟩, by go_grown⟩

theorem szUint32S_in (ao : Option Addr) (n cap : Nat) (left : Int) (w : World) (h0 : 0 ≤ left) (h1 : left ≤ 1048576) (ht : n ≤ 9223372036854775807) :
    Calls Tryz.prog 137 #[.slice ao n cap, .int .i64 left] w fun e w' =>
      (∃ r, e = .returned (.int .i64 r) ∧ Left left r (n ≤ 1048576)) ∧ Below w.heap.size w w' := by
  by_cases hl : left - n < 0
  · go_enter Tryz.func137, Tryz.ntmps137
    go_wp2_with fail
    go_ret
    exact ⟨⟨_, rfl, by omega, by omega, by omega⟩, by go_grown⟩
  · go_enter Tryz.func137, Tryz.ntmps137
    go_wp2_with fail
    go_ret
    exact ⟨⟨_, rfl, by omega, by omega, by omega⟩, by go_grown⟩
theorem szUpS_in (ao : Option Addr) (n cap : Nat) (left : Int) (w : World) (h0 : 0 ≤ left) (h1 : left ≤ 1048576) (ht : n ≤ 9223372036854775807) :
    Calls Tryz.prog 139 #[.slice ao n cap, .int .i64 left] w fun e w' =>
      (∃ r, e = .returned (.int .i64 r) ∧ Left left r (n ≤ 1048576)) ∧ Below w.heap.size w w' := by
  by_cases hl : left - n < 0
  · go_enter Tryz.func139, Tryz.ntmps139
    go_wp2_with fail
    go_ret
    exact ⟨⟨_, rfl, by omega, by omega, by omega⟩, by go_grown⟩
  · go_enter Tryz.func139, Tryz.ntmps139
    go_wp2_with fail
    go_ret
    exact ⟨⟨_, rfl, by omega, by omega, by omega⟩, by go_grown⟩
theorem szIntS_in (ao : Option Addr) (n cap : Nat) (left : Int) (w : World) (h0 : 0 ≤ left) (h1 : left ≤ 1048576) (ht : n ≤ 9223372036854775807) :
    Calls Tryz.prog 140 #[.slice ao n cap, .int .i64 left] w fun e w' =>
      (∃ r, e = .returned (.int .i64 r) ∧ Left left r (n ≤ 1048576)) ∧ Below w.heap.size w w' := by
  by_cases hl : left - n < 0
  · go_enter Tryz.func140, Tryz.ntmps140
    go_wp2_with fail
    go_ret
    exact ⟨⟨_, rfl, by omega, by omega, by omega⟩, by go_grown⟩
  · go_enter Tryz.func140, Tryz.ntmps140
    go_wp2_with fail
    go_ret
    exact ⟨⟨_, rfl, by omega, by omega, by omega⟩, by go_grown⟩

theorem szValueS_in (s : Sl VD) (v : Value) (left : Int) (w : World) (h0 : 0 ≤ left) (h1 : left ≤ 1048576) (hv : IsVals (· < w.heap.size) w v s) :
    Calls Tryz.prog 138 #[v, .int .i64 left] w fun e w' =>
      (∃ r, e = .returned (.int .i64 r) ∧ Left left r (s.n ≤ 1048576)) ∧ Below w.heap.size w w' := by
  obtain ⟨⟨ao, cap, rfl, hn, hc⟩, ht⟩ := hv
  obtain ⟨n, f⟩ := s
  simp only at hn hc ht ⊢
  by_cases hl : left - n < 0
  · go_enter Tryz.func138, Tryz.ntmps138
    go_wp2_with fail
    go_ret
    exact ⟨⟨_, rfl, by omega, by omega, by omega⟩, by go_grown⟩
  · go_enter Tryz.func138, Tryz.ntmps138
    go_wp2_with fail
    go_loopw [1, 5] (fun v i wr => ∃ (l : Int) (i' : Nat), v = .int .i64 l ∧ i = .int .i64 i' ∧ 0 ≤ l ∧ l ≤ left ∧ i' ≤ n ∧ Below w.heap.size w wr) (fun _ i _ => n - (intOf i).toNat)
    case atStart => exact ⟨left - n, 0, rfl, rfl, by omega, by omega, by omega, by go_grown⟩
    case round =>
      obtain ⟨l, i', rfl, rfl, q1, q2, q3, q4⟩ := hrel
      by_cases hi : i' < n
      · obtain ⟨b, o, rfl, hb, hcc⟩ := hc (by omega)
        have c0 := hcc i' hi 0 (by omega)
        have c1 := hcc i' hi 1 (by omega)
        have c2 := hcc i' hi 2 (by omega)
        rw [← q4.cell (p := ⟨b, _, none⟩) hb] at c0 c1 c2
        simp only [Nat.add_zero, vC] at c0 c1 c2
        have hti := ht i' hi
        clear hcc hc
        go_wp2_with fail
        refine (szValue_in (f i') l _ q1 (by omega) hti).mono ?_
        rintro e w1 ⟨⟨r, rfl, r1, r2, _⟩, b1⟩
        have hb1 : Below w.heap.size w w1 := q4.trans (b1.mono q4.size)
        by_cases hr : r < 0
        · go_wp2_with fail
          go_ret
          exact ⟨⟨_, rfl, by omega, by omega, by omega⟩, hb1⟩
        · go_wp2_with fail
          go_roundw
          case rel => exact ⟨r, i' + 1, rfl, rfl, by omega, by omega, by omega, hb1⟩
          case measure => simp [intOf]; omega
      · go_wp2_with fail
        go_ret
        exact ⟨⟨_, rfl, by omega, by omega, by omega⟩, q4⟩

theorem szStringS_in (s : Sl ByteArray) (v : Value) (left : Int) (w : World) (h0 : 0 ≤ left) (h1 : left ≤ 1048576) (hv : IsStrs (· < w.heap.size) w v s) :
    Calls Tryz.prog 141 #[v, .int .i64 left] w fun e w' =>
      (∃ r, e = .returned (.int .i64 r) ∧ Left left r (s.n ≤ 1048576)) ∧ Below w.heap.size w w' := by
  obtain ⟨⟨ao, cap, rfl, hn, hc⟩, ht⟩ := hv
  obtain ⟨n, f⟩ := s
  simp only at hn hc ht ⊢
  by_cases hl : left - n < 0
  · go_enter Tryz.func141, Tryz.ntmps141
    go_wp2_with fail
    go_ret
    exact ⟨⟨_, rfl, by omega, by omega, by omega⟩, by go_grown⟩
  · go_enter Tryz.func141, Tryz.ntmps141
    go_wp2_with fail
    go_loopw [1, 5] (fun v i wr => ∃ (l : Int) (i' : Nat), v = .int .i64 l ∧ i = .int .i64 i' ∧ 0 ≤ l ∧ l ≤ left ∧ i' ≤ n ∧ Below w.heap.size w wr) (fun _ i _ => n - (intOf i).toNat)
    case atStart => exact ⟨left - n, 0, rfl, rfl, by omega, by omega, by omega, by go_grown⟩
    case round =>
      obtain ⟨l, i', rfl, rfl, q1, q2, q3, q4⟩ := hrel
      by_cases hi : i' < n
      · obtain ⟨b, o, rfl, hb, hcc⟩ := hc (by omega)
        have c0 := hcc i' hi 0 (by omega)
        rw [← q4.cell (p := ⟨b, _, none⟩) hb] at c0
        simp only [Nat.add_zero, Nat.mul_one, sC] at c0
        have hti := ht i' hi
        clear hcc hc
        by_cases hr : l - (f i').size < 0
        · go_wp2_with fail
          go_ret
          exact ⟨⟨_, rfl, by omega, by omega, by omega⟩, q4⟩
        · go_wp2_with fail
          go_roundw
          case rel => exact ⟨l - (f i').size, i' + 1, rfl, rfl, by omega, by omega, by omega, q4⟩
          case measure => simp [intOf]; omega
      · go_wp2_with fail
        go_ret
        exact ⟨⟨_, rfl, by omega, by omega, by omega⟩, q4⟩
end Go.Proofs.YtckapapejfnojaaGreatDoor

import Derived.Test.YtckapapejfnojaaGreatDoorGHV
import Derived.Test.YtckapapejfnojaaGreatDoorChQV
import Derived.Test.YtckapapejfnojaaGreatDoorVfJV
namespace Go.Proofs.YtckapapejfnojaaGreatDoor
open Go.RowKit Go.Shelf
set_option linter.unusedVariables false
set_option linter.unusedSimpArgs false
set_option maxRecDepth 100000
set_option maxHeartbeats 2000000
theorem implVerify_no (s : Sl PD) (v : Value) (w : World) (hv : IsProtos (· < w.heap.size) w v s) (hn : ¬ Wf s) :
    Calls Tryz.prog 19 #[.agg #[v]] w fun e w' => (∃ c pr pc, e = .returned (.agg #[.int .i64 c, .int .i64 pr, .int .i64 pc]) ∧ VerD s c pr pc) ∧ Below w.heap.size w w' := by
  have hv' : Hid (IsProtos (· < w.heap.size) w v s) := hv
  clear hv
  go_enter Tryz.func19, Tryz.ntmps19
  go_wp2_with fail
  have R0 := (RowL.new w [v] 24).alloc (.cells #[.int .i64 0, .int .i64 0, .int .i64 0] 41)
  have Q0 := RowL.new (w.alloc (.cells #[v] 24)) [.int .i64 0, .int .i64 0, .int .i64 0] 41
  rw [World.size_alloc] at Q0
  have bw : Below w.heap.size w ((w.alloc (.cells #[v] 24)).alloc (.cells #[.int .i64 0, .int .i64 0, .int .i64 0] 41)) := ((Below.refl _ _).alloc (Nat.le_refl _) _).alloc (by rw [World.size_alloc]; omega) _
  generalize (w.alloc (.cells #[v] 24)).alloc (.cells #[.int .i64 0, .int .i64 0, .int .i64 0] 41) = w2 at R0 Q0 bw ⊢
  refine (implWF_in s v w2 (hv'.out.later bw)).mono ?_
  rintro e y ⟨⟨r, rfl, hr⟩, b9⟩
  obtain rfl : r = false := by
    cases r with
    | true => exact absurd (hr.1 rfl) hn
    | false => rfl
  replace Q0 := Q0.call b9
  replace bw := bw.trans (b9.mono bw.size)
  have hno : Hid (VerD s 12 0 0) := .inl ⟨hn, rfl, rfl, rfl⟩
  have e0 := Q0.cell 0 rfl
  have e1 := Q0.cell 1 rfl
  have e2 := Q0.cell 2 rfl
  have ef := Q0.frozen
  have hq2 := Q0.lt
  have L := (((Q0.set 0 (.int .i64 12)).set 1 (.int .i64 0)).set 2 (.int .i64 0))
  have bf := (Below.setCell (Below.setCell (Below.setCell bw (p := ⟨w.heap.size + 1, 0, none⟩) (Nat.le_succ _) (.int .i64 12)) (p := ⟨w.heap.size + 1, 1, none⟩) (Nat.le_succ _) (.int .i64 0)) (p := ⟨w.heap.size + 1, 2, none⟩) (Nat.le_succ _) (.int .i64 0))
  have l0 := L.cell 0 rfl
  have l1 := L.cell 1 rfl
  have l2 := L.cell 2 rfl
  replace L : Hid _ := L
  replace Q0 : Hid _ := Q0
  clear hr b9 R0
  go_wp2_with fail
  refine bodyPost_ret (v := .agg #[.int .i64 12, .int .i64 0, .int .i64 0]) ?_ rfl ⟨⟨_, _, _, rfl, hno.out⟩, bf⟩
  simp [results, Tryz.results19, go_sem, l0, l1, l2]
end Go.Proofs.YtckapapejfnojaaGreatDoor

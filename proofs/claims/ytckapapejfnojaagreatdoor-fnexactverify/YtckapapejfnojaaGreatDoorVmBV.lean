import Derived.Test.YtckapapejfnojaaGreatDoorVmAV
import Derived.Test.YtckapapejfnojaaGreatDoorGAV
namespace Go.Proofs.YtckapapejfnojaaGreatDoor
open Go.RowKit Go.Shelf
set_option linter.unusedVariables false
set_option linter.unusedSimpArgs false
set_option maxRecDepth 100000
set_option maxHeartbeats 1000000
theorem ret_int9 {a b : Int} (h : a = b) : Ending.returned (.int .i64 a) = .returned (.int .i64 b) := by rw [h]
theorem rsz_low (v : Int) (h : 0 ≤ v) : 0 ≤ rsz v := by unfold rsz; split <;> omega
theorem rsz_high (v : Int) (h : 0 ≤ v) (h' : v ≤ 511) : rsz v ≤ 511 := by unfold rsz; split <;> omega
section
variable (op a b c s : Int) (w : World) (a1 : 0 ≤ a) (a2 : a ≤ 255) (b1 : 0 ≤ b) (b2 : b ≤ 511) (c1 : 0 ≤ c) (c2 : c ≤ 511)
theorem rangeSize_in (v : Int) : Calls Tryz.prog 160 #[.int .i64 v] w fun e w' => e = .returned (.int .i64 (rsz v)) ∧ w = w' := by
  by_cases h : v = 511
  · subst h
    go_enter Tryz.func160, Tryz.ntmps160
    go_wp2
    go_ret
    exact ⟨rfl, rfl⟩
  · have hr : rsz v = v := if_neg h
    have q : (v == 511) = false := by simp [h]
    rw [hr]
    go_enter Tryz.func160, Tryz.ntmps160
    go_wp2
    go_ret
    exact ⟨rfl, rfl⟩
include a1 a2
theorem regsA_in : Calls Tryz.prog 76 #[insV op a b c s] w fun e w' => e = .returned (.int .i64 (a + 1)) ∧ Below w.heap.size w w' := by
  go_enter Tryz.func76, Tryz.ntmps76
  go_wp2
  go_ret
  exact ⟨rfl, by go_grown⟩
theorem regsOfLoop_in : Calls Tryz.prog 91 #[insV op a b c s] w fun e w' => e = .returned (.int .i64 (a + 4)) ∧ Below w.heap.size w w' := by
  go_enter Tryz.func91, Tryz.ntmps91
  go_wp2
  go_ret
  exact ⟨rfl, by go_grown⟩
include b1 b2
theorem regsUpToB_in : Calls Tryz.prog 85 #[insV op a b c s] w fun e w' => e = .returned (.int .i64 (a + b + 1)) ∧ Below w.heap.size w w' := by
  go_enter Tryz.func85, Tryz.ntmps85
  go_wp2
  go_ret
  exact ⟨rfl, by go_grown⟩
theorem regsAB_in : Calls Tryz.prog 77 #[insV op a b c s] w fun e w' => e = .returned (.int .i64 (max a b + 1)) ∧ Below w.heap.size w w' := by
  go_enter Tryz.func77, Tryz.ntmps77
  go_wp2_with fail
  all_goals go_ret
  all_goals exact ⟨ret_int9 (by omega), by go_grown⟩
theorem regsOfRow_in : Calls Tryz.prog 87 #[insV op a b c s] w fun e w' => e = .returned (.int .i64 (a + max 1 (rsz b))) ∧ Below w.heap.size w w' := by
  have q1 := rsz_low b b1
  have q2 := rsz_high b b1 b2
  go_enter Tryz.func87, Tryz.ntmps87
  go_wp2_with fail
  have R0 := RowL.new w [.int .i64 op, .int .i64 a, .int .i64 b, .int .i64 c, .int .i64 s] 88
  have bw : Below w.heap.size w (w.alloc (.cells #[.int .i64 op, .int .i64 a, .int .i64 b, .int .i64 c, .int .i64 s] 88)) := (Below.refl _ _).alloc (Nat.le_refl _) _
  generalize w.alloc (.cells #[.int .i64 op, .int .i64 a, .int .i64 b, .int .i64 c, .int .i64 s] 88) = w0 at R0 bw ⊢
  have r0 := R0.cell 0 rfl
  have r1 := R0.cell 1 rfl
  have r2 := R0.cell 2 rfl
  have r3 := R0.cell 3 rfl
  have hl := R0.lt
  clear R0
  have hd : OldS w0 w0.drew := OldS.of (Below.refl _ _).drew
  refine wp_region_held_drew (S := OldS w0) (by kernel_rfl) hd (fun hH => ?_)
  refine take_dst 0 3 (.pointer (some ⟨w.heap.size, 1, none⟩)) rfl (by kernel_rfl) (by kernel_rfl) (by kernel_rfl) (fun _ _ _ h => h) (Or.inl ⟨by rfl, by intro wv hSv; unfold OldS at hSv; go_simp⟩) hd rfl ?_
  try simp only [tk0, tk1, tk2, tk3, tk4]
  refine take_dst 1 4 (.int .i64 a) rfl (by kernel_rfl) (by kernel_rfl) (by kernel_rfl) (fun _ _ _ h => h) (Or.inl ⟨by rfl, by intro wv hSv; unfold OldS at hSv; go_simp⟩) hd rfl ?_
  try simp only [tk0, tk1, tk2, tk3, tk4]
  refine take_dst 2 5 (.pointer (some ⟨w.heap.size, 2, none⟩)) rfl (by kernel_rfl) (by kernel_rfl) (by kernel_rfl) (fun _ _ _ h => h) (Or.inl ⟨by rfl, by intro wv hSv; unfold OldS at hSv; go_simp⟩) hd rfl ?_
  try simp only [tk0, tk1, tk2, tk3, tk4]
  refine take_dst 3 6 (.int .i64 b) rfl (by kernel_rfl) (by kernel_rfl) (by kernel_rfl) (fun _ _ _ h => h) (Or.inl ⟨by rfl, by intro wv hSv; unfold OldS at hSv; go_simp⟩) hd rfl ?_
  try simp only [tk0, tk1, tk2, tk3, tk4]
  refine wpAnyH_ready (rs := [4]) (by kernel_rfl) (by simp) ?_
  refine AllReadyH.cons rfl (fun KK hKK => ?_) AllReadyH.nil
  go_simp
  refine (rangeSize_in _ b).mono ?_
  rintro e y2 ⟨rfl, rfl⟩
  go_wp2_with fail
  refine hKK.out _ _ hd (fun _ => ?_)
  clear hKK KK
  try simp only [tk0, tk1, tk2, tk3, tk4]
  by_cases m : 1 < rsz b
  · have hw968 : IntKind.i64.wrap (a + rsz b) = a + rsz b := by simp [IntKind.wrap, IntKind.bits, IntKind.signed]; omega
    refine take_dst 5 8 (.int .i64 (rsz b)) rfl (by kernel_rfl) (by kernel_rfl) (by kernel_rfl) (fun _ _ _ h => h) (Or.inl ⟨by rfl, by intro wv hSv; unfold OldS at hSv; go_simp⟩) hd rfl ?_
    try simp only [tk0, tk1, tk2, tk3, tk4]
    refine take_dst 6 9 (.int .i64 (a + rsz b)) rfl (by kernel_rfl) (by kernel_rfl) (by kernel_rfl) (fun _ _ _ h => h) (Or.inl ⟨by rfl, by intro wv hSv; unfold OldS at hSv; go_simp⟩) hd rfl ?_
    try simp only [tk0, tk1, tk2, tk3, tk4]
    refine take_dst 7 2 (.int .i64 (a + rsz b)) rfl (by kernel_rfl) (by kernel_rfl) (by kernel_rfl) (fun _ _ _ h => h) (Or.inl ⟨by rfl, by intro wv hSv; unfold OldS at hSv; go_simp⟩) hd rfl ?_
    try simp only [tk0, tk1, tk2, tk3, tk4]
    refine wpAnyH_done (by kernel_rfl) ?_ _
    clear hH hd r0 r1 r2 r3
    go_wp2_with fail
    go_ret
    exact ⟨ret_int9 (by omega), bw.drew⟩
  · have hw7088 : IntKind.i64.wrap (a + 1) = a + 1 := by simp [IntKind.wrap, IntKind.bits, IntKind.signed]; omega
    refine take_dst 5 8 (.int .i64 1) rfl (by kernel_rfl) (by kernel_rfl) (by kernel_rfl) (fun _ _ _ h => h) (Or.inl ⟨by rfl, by intro wv hSv; unfold OldS at hSv; go_simp⟩) hd rfl ?_
    try simp only [tk0, tk1, tk2, tk3, tk4]
    refine take_dst 6 9 (.int .i64 (a + 1)) rfl (by kernel_rfl) (by kernel_rfl) (by kernel_rfl) (fun _ _ _ h => h) (Or.inl ⟨by rfl, by intro wv hSv; unfold OldS at hSv; go_simp⟩) hd rfl ?_
    try simp only [tk0, tk1, tk2, tk3, tk4]
    refine take_dst 7 2 (.int .i64 (a + 1)) rfl (by kernel_rfl) (by kernel_rfl) (by kernel_rfl) (fun _ _ _ h => h) (Or.inl ⟨by rfl, by intro wv hSv; unfold OldS at hSv; go_simp⟩) hd rfl ?_
    try simp only [tk0, tk1, tk2, tk3, tk4]
    refine wpAnyH_done (by kernel_rfl) ?_ _
    clear hH hd r0 r1 r2 r3
    go_wp2_with fail
    go_ret
    exact ⟨ret_int9 (by omega), bw.drew⟩
include c1 c2
omit a1 a2 in
theorem regsBC_in : Calls Tryz.prog 79 #[insV op a b c s] w fun e w' => e = .returned (.int .i64 (max b c + 1)) ∧ Below w.heap.size w w' := by
  go_enter Tryz.func79, Tryz.ntmps79
  go_wp2_with fail
  all_goals go_ret
  all_goals exact ⟨ret_int9 (by omega), by go_grown⟩
theorem regsABC_in : Calls Tryz.prog 78 #[insV op a b c s] w fun e w' => e = .returned (.int .i64 (max a (max b c) + 1)) ∧ Below w.heap.size w w' := by
  go_enter Tryz.func78, Tryz.ntmps78
  go_wp2_with fail
  all_goals go_ret
  all_goals exact ⟨ret_int9 (by omega), by go_grown⟩
theorem regsOfYield_in : Calls Tryz.prog 94 #[insV op a b c s] w fun e w' => e = .returned (.int .i64 (a + max 1 (max (rsz b) (rsz c)))) ∧ Below w.heap.size w w' := by
  have q1 := rsz_low b b1
  have q2 := rsz_high b b1 b2
  have q3 := rsz_low c c1
  have q4 := rsz_high c c1 c2
  go_enter Tryz.func94, Tryz.ntmps94
  go_wp2_with fail
  have R0 := RowL.new w [.int .i64 op, .int .i64 a, .int .i64 b, .int .i64 c, .int .i64 s] 88
  have bw : Below w.heap.size w (w.alloc (.cells #[.int .i64 op, .int .i64 a, .int .i64 b, .int .i64 c, .int .i64 s] 88)) := (Below.refl _ _).alloc (Nat.le_refl _) _
  generalize w.alloc (.cells #[.int .i64 op, .int .i64 a, .int .i64 b, .int .i64 c, .int .i64 s] 88) = w0 at R0 bw ⊢
  have r0 := R0.cell 0 rfl
  have r1 := R0.cell 1 rfl
  have r2 := R0.cell 2 rfl
  have r3 := R0.cell 3 rfl
  have hl := R0.lt
  clear R0
  have hd : OldS w0 w0.drew := OldS.of (Below.refl _ _).drew
  refine wp_region_held_drew (S := OldS w0) (by kernel_rfl) hd (fun hH => ?_)
  refine take_dst 0 3 (.pointer (some ⟨w.heap.size, 1, none⟩)) rfl (by kernel_rfl) (by kernel_rfl) (by kernel_rfl) (fun _ _ _ h => h) (Or.inl ⟨by rfl, by intro wv hSv; unfold OldS at hSv; go_simp⟩) hd rfl ?_
  try simp only [tk0, tk1, tk2, tk3, tk4]
  refine take_dst 1 4 (.int .i64 a) rfl (by kernel_rfl) (by kernel_rfl) (by kernel_rfl) (fun _ _ _ h => h) (Or.inl ⟨by rfl, by intro wv hSv; unfold OldS at hSv; go_simp⟩) hd rfl ?_
  try simp only [tk0, tk1, tk2, tk3, tk4]
  refine take_dst 2 5 (.pointer (some ⟨w.heap.size, 2, none⟩)) rfl (by kernel_rfl) (by kernel_rfl) (by kernel_rfl) (fun _ _ _ h => h) (Or.inl ⟨by rfl, by intro wv hSv; unfold OldS at hSv; go_simp⟩) hd rfl ?_
  try simp only [tk0, tk1, tk2, tk3, tk4]
  refine take_dst 3 6 (.int .i64 b) rfl (by kernel_rfl) (by kernel_rfl) (by kernel_rfl) (fun _ _ _ h => h) (Or.inl ⟨by rfl, by intro wv hSv; unfold OldS at hSv; go_simp⟩) hd rfl ?_
  try simp only [tk0, tk1, tk2, tk3, tk4]
  refine take_dst 5 8 (.pointer (some ⟨w.heap.size, 3, none⟩)) rfl (by kernel_rfl) (by kernel_rfl) (by kernel_rfl) (fun _ _ _ h => h) (Or.inl ⟨by rfl, by intro wv hSv; unfold OldS at hSv; go_simp⟩) hd rfl ?_
  try simp only [tk0, tk1, tk2, tk3, tk4]
  refine take_dst 6 9 (.int .i64 c) rfl (by kernel_rfl) (by kernel_rfl) (by kernel_rfl) (fun _ _ _ h => h) (Or.inl ⟨by rfl, by intro wv hSv; unfold OldS at hSv; go_simp⟩) hd rfl ?_
  try simp only [tk0, tk1, tk2, tk3, tk4]
  refine wpAnyH_ready (rs := [4]) (by kernel_rfl) (by simp) ?_
  refine AllReadyH.cons rfl (fun KK hKK => ?_) AllReadyH.nil
  go_simp
  refine (rangeSize_in _ b).mono ?_
  rintro e y2 ⟨rfl, rfl⟩
  go_wp2_with fail
  refine hKK.out _ _ hd (fun _ => ?_)
  clear hKK KK
  try simp only [tk0, tk1, tk2, tk3, tk4]
  refine wpAnyH_ready (rs := [7]) (by kernel_rfl) (by simp) ?_
  refine AllReadyH.cons rfl (fun KK hKK => ?_) AllReadyH.nil
  go_simp
  refine (rangeSize_in _ c).mono ?_
  rintro e y2 ⟨rfl, rfl⟩
  go_wp2_with fail
  refine hKK.out _ _ hd (fun _ => ?_)
  clear hKK KK
  try simp only [tk0, tk1, tk2, tk3, tk4]
  by_cases m : 1 < rsz b
  · by_cases m2 : rsz b < rsz c
    · have hw5088 : IntKind.i64.wrap (a + rsz c) = a + rsz c := by simp [IntKind.wrap, IntKind.bits, IntKind.signed]; omega
      refine take_dst 8 11 (.int .i64 (rsz c)) rfl (by kernel_rfl) (by kernel_rfl) (by kernel_rfl) (fun _ _ _ h => h) (Or.inl ⟨by rfl, by intro wv hSv; unfold OldS at hSv; go_simp⟩) hd rfl ?_
      try simp only [tk0, tk1, tk2, tk3, tk4]
      refine take_dst 9 12 (.int .i64 (a + rsz c)) rfl (by kernel_rfl) (by kernel_rfl) (by kernel_rfl) (fun _ _ _ h => h) (Or.inl ⟨by rfl, by intro wv hSv; unfold OldS at hSv; go_simp⟩) hd rfl ?_
      try simp only [tk0, tk1, tk2, tk3, tk4]
      refine take_dst 10 2 (.int .i64 (a + rsz c)) rfl (by kernel_rfl) (by kernel_rfl) (by kernel_rfl) (fun _ _ _ h => h) (Or.inl ⟨by rfl, by intro wv hSv; unfold OldS at hSv; go_simp⟩) hd rfl ?_
      try simp only [tk0, tk1, tk2, tk3, tk4]
      refine wpAnyH_done (by kernel_rfl) ?_ _
      clear hH hd r0 r1 r2 r3
      go_wp2_with fail
      go_ret
      exact ⟨ret_int9 (by omega), bw.drew⟩
    · have hw968 : IntKind.i64.wrap (a + rsz b) = a + rsz b := by simp [IntKind.wrap, IntKind.bits, IntKind.signed]; omega
      refine take_dst 8 11 (.int .i64 (rsz b)) rfl (by kernel_rfl) (by kernel_rfl) (by kernel_rfl) (fun _ _ _ h => h) (Or.inl ⟨by rfl, by intro wv hSv; unfold OldS at hSv; go_simp⟩) hd rfl ?_
      try simp only [tk0, tk1, tk2, tk3, tk4]
      refine take_dst 9 12 (.int .i64 (a + rsz b)) rfl (by kernel_rfl) (by kernel_rfl) (by kernel_rfl) (fun _ _ _ h => h) (Or.inl ⟨by rfl, by intro wv hSv; unfold OldS at hSv; go_simp⟩) hd rfl ?_
      try simp only [tk0, tk1, tk2, tk3, tk4]
      refine take_dst 10 2 (.int .i64 (a + rsz b)) rfl (by kernel_rfl) (by kernel_rfl) (by kernel_rfl) (fun _ _ _ h => h) (Or.inl ⟨by rfl, by intro wv hSv; unfold OldS at hSv; go_simp⟩) hd rfl ?_
      try simp only [tk0, tk1, tk2, tk3, tk4]
      refine wpAnyH_done (by kernel_rfl) ?_ _
      clear hH hd r0 r1 r2 r3
      go_wp2_with fail
      go_ret
      exact ⟨ret_int9 (by omega), bw.drew⟩
  · by_cases m2 : 1 < rsz c
    · have hw5088 : IntKind.i64.wrap (a + rsz c) = a + rsz c := by simp [IntKind.wrap, IntKind.bits, IntKind.signed]; omega
      refine take_dst 8 11 (.int .i64 (rsz c)) rfl (by kernel_rfl) (by kernel_rfl) (by kernel_rfl) (fun _ _ _ h => h) (Or.inl ⟨by rfl, by intro wv hSv; unfold OldS at hSv; go_simp⟩) hd rfl ?_
      try simp only [tk0, tk1, tk2, tk3, tk4]
      refine take_dst 9 12 (.int .i64 (a + rsz c)) rfl (by kernel_rfl) (by kernel_rfl) (by kernel_rfl) (fun _ _ _ h => h) (Or.inl ⟨by rfl, by intro wv hSv; unfold OldS at hSv; go_simp⟩) hd rfl ?_
      try simp only [tk0, tk1, tk2, tk3, tk4]
      refine take_dst 10 2 (.int .i64 (a + rsz c)) rfl (by kernel_rfl) (by kernel_rfl) (by kernel_rfl) (fun _ _ _ h => h) (Or.inl ⟨by rfl, by intro wv hSv; unfold OldS at hSv; go_simp⟩) hd rfl ?_
      try simp only [tk0, tk1, tk2, tk3, tk4]
      refine wpAnyH_done (by kernel_rfl) ?_ _
      clear hH hd r0 r1 r2 r3
      go_wp2_with fail
      go_ret
      exact ⟨ret_int9 (by omega), bw.drew⟩
    · have hw7088 : IntKind.i64.wrap (a + 1) = a + 1 := by simp [IntKind.wrap, IntKind.bits, IntKind.signed]; omega
      refine take_dst 8 11 (.int .i64 1) rfl (by kernel_rfl) (by kernel_rfl) (by kernel_rfl) (fun _ _ _ h => h) (Or.inl ⟨by rfl, by intro wv hSv; unfold OldS at hSv; go_simp⟩) hd rfl ?_
      try simp only [tk0, tk1, tk2, tk3, tk4]
      refine take_dst 9 12 (.int .i64 (a + 1)) rfl (by kernel_rfl) (by kernel_rfl) (by kernel_rfl) (fun _ _ _ h => h) (Or.inl ⟨by rfl, by intro wv hSv; unfold OldS at hSv; go_simp⟩) hd rfl ?_
      try simp only [tk0, tk1, tk2, tk3, tk4]
      refine take_dst 10 2 (.int .i64 (a + 1)) rfl (by kernel_rfl) (by kernel_rfl) (by kernel_rfl) (fun _ _ _ h => h) (Or.inl ⟨by rfl, by intro wv hSv; unfold OldS at hSv; go_simp⟩) hd rfl ?_
      try simp only [tk0, tk1, tk2, tk3, tk4]
      refine wpAnyH_done (by kernel_rfl) ?_ _
      clear hH hd r0 r1 r2 r3
      go_wp2_with fail
      go_ret
      exact ⟨ret_int9 (by omega), bw.drew⟩
theorem regsOfCall_in : Calls Tryz.prog 82 #[insV op a b c s] w fun e w' => e = .returned (.int .i64 (a + max (1 + rsz b) (rsz c))) ∧ Below w.heap.size w w' := by
  have q1 := rsz_low b b1
  have q2 := rsz_high b b1 b2
  have q3 := rsz_low c c1
  have q4 := rsz_high c c1 c2
  go_enter Tryz.func82, Tryz.ntmps82
  go_wp2_with fail
  have R0 := RowL.new w [.int .i64 op, .int .i64 a, .int .i64 b, .int .i64 c, .int .i64 s] 88
  have bw : Below w.heap.size w (w.alloc (.cells #[.int .i64 op, .int .i64 a, .int .i64 b, .int .i64 c, .int .i64 s] 88)) := (Below.refl _ _).alloc (Nat.le_refl _) _
  generalize w.alloc (.cells #[.int .i64 op, .int .i64 a, .int .i64 b, .int .i64 c, .int .i64 s] 88) = w0 at R0 bw ⊢
  have r0 := R0.cell 0 rfl
  have r1 := R0.cell 1 rfl
  have r2 := R0.cell 2 rfl
  have r3 := R0.cell 3 rfl
  have hl := R0.lt
  clear R0
  have hd : OldS w0 w0.drew := OldS.of (Below.refl _ _).drew
  refine wp_region_held_drew (S := OldS w0) (by kernel_rfl) hd (fun hH => ?_)
  refine take_dst 0 3 (.pointer (some ⟨w.heap.size, 1, none⟩)) rfl (by kernel_rfl) (by kernel_rfl) (by kernel_rfl) (fun _ _ _ h => h) (Or.inl ⟨by rfl, by intro wv hSv; unfold OldS at hSv; go_simp⟩) hd rfl ?_
  try simp only [tk0, tk1, tk2, tk3, tk4]
  refine take_dst 1 4 (.int .i64 a) rfl (by kernel_rfl) (by kernel_rfl) (by kernel_rfl) (fun _ _ _ h => h) (Or.inl ⟨by rfl, by intro wv hSv; unfold OldS at hSv; go_simp⟩) hd rfl ?_
  try simp only [tk0, tk1, tk2, tk3, tk4]
  refine take_dst 2 5 (.pointer (some ⟨w.heap.size, 2, none⟩)) rfl (by kernel_rfl) (by kernel_rfl) (by kernel_rfl) (fun _ _ _ h => h) (Or.inl ⟨by rfl, by intro wv hSv; unfold OldS at hSv; go_simp⟩) hd rfl ?_
  try simp only [tk0, tk1, tk2, tk3, tk4]
  refine take_dst 3 6 (.int .i64 b) rfl (by kernel_rfl) (by kernel_rfl) (by kernel_rfl) (fun _ _ _ h => h) (Or.inl ⟨by rfl, by intro wv hSv; unfold OldS at hSv; go_simp⟩) hd rfl ?_
  try simp only [tk0, tk1, tk2, tk3, tk4]
  refine take_dst 6 9 (.pointer (some ⟨w.heap.size, 3, none⟩)) rfl (by kernel_rfl) (by kernel_rfl) (by kernel_rfl) (fun _ _ _ h => h) (Or.inl ⟨by rfl, by intro wv hSv; unfold OldS at hSv; go_simp⟩) hd rfl ?_
  try simp only [tk0, tk1, tk2, tk3, tk4]
  refine take_dst 7 10 (.int .i64 c) rfl (by kernel_rfl) (by kernel_rfl) (by kernel_rfl) (fun _ _ _ h => h) (Or.inl ⟨by rfl, by intro wv hSv; unfold OldS at hSv; go_simp⟩) hd rfl ?_
  try simp only [tk0, tk1, tk2, tk3, tk4]
  refine wpAnyH_ready (rs := [4]) (by kernel_rfl) (by simp) ?_
  refine AllReadyH.cons rfl (fun KK hKK => ?_) AllReadyH.nil
  go_simp
  refine (rangeSize_in _ b).mono ?_
  rintro e y2 ⟨rfl, rfl⟩
  go_wp2_with fail
  refine hKK.out _ _ hd (fun _ => ?_)
  clear hKK KK
  try simp only [tk0, tk1, tk2, tk3, tk4]
  have hw2901 : IntKind.i64.wrap (1 + rsz b) = 1 + rsz b := by simp [IntKind.wrap, IntKind.bits, IntKind.signed]; omega
  refine take_dst 5 8 (.int .i64 (1 + rsz b)) rfl (by kernel_rfl) (by kernel_rfl) (by kernel_rfl) (fun _ _ _ h => h) (Or.inl ⟨by rfl, by intro wv hSv; unfold OldS at hSv; go_simp⟩) hd rfl ?_
  try simp only [tk0, tk1, tk2, tk3, tk4]
  refine wpAnyH_ready (rs := [8]) (by kernel_rfl) (by simp) ?_
  refine AllReadyH.cons rfl (fun KK hKK => ?_) AllReadyH.nil
  go_simp
  refine (rangeSize_in _ c).mono ?_
  rintro e y2 ⟨rfl, rfl⟩
  go_wp2_with fail
  refine hKK.out _ _ hd (fun _ => ?_)
  clear hKK KK
  try simp only [tk0, tk1, tk2, tk3, tk4]
  by_cases m : 1 + rsz b < rsz c
  · have hw5088 : IntKind.i64.wrap (a + rsz c) = a + rsz c := by simp [IntKind.wrap, IntKind.bits, IntKind.signed]; omega
    refine take_dst 9 12 (.int .i64 (rsz c)) rfl (by kernel_rfl) (by kernel_rfl) (by kernel_rfl) (fun _ _ _ h => h) (Or.inl ⟨by rfl, by intro wv hSv; unfold OldS at hSv; go_simp⟩) hd rfl ?_
    try simp only [tk0, tk1, tk2, tk3, tk4]
    refine take_dst 10 13 (.int .i64 (a + rsz c)) rfl (by kernel_rfl) (by kernel_rfl) (by kernel_rfl) (fun _ _ _ h => h) (Or.inl ⟨by rfl, by intro wv hSv; unfold OldS at hSv; go_simp⟩) hd rfl ?_
    try simp only [tk0, tk1, tk2, tk3, tk4]
    refine take_dst 11 2 (.int .i64 (a + rsz c)) rfl (by kernel_rfl) (by kernel_rfl) (by kernel_rfl) (fun _ _ _ h => h) (Or.inl ⟨by rfl, by intro wv hSv; unfold OldS at hSv; go_simp⟩) hd rfl ?_
    try simp only [tk0, tk1, tk2, tk3, tk4]
    refine wpAnyH_done (by kernel_rfl) ?_ _
    clear hH hd r0 r1 r2 r3
    go_wp2_with fail
    go_ret
    exact ⟨ret_int9 (by omega), bw.drew⟩
  · have hw8983 : IntKind.i64.wrap (a + (1 + rsz b)) = a + (1 + rsz b) := by simp [IntKind.wrap, IntKind.bits, IntKind.signed]; omega
    refine take_dst 9 12 (.int .i64 (1 + rsz b)) rfl (by kernel_rfl) (by kernel_rfl) (by kernel_rfl) (fun _ _ _ h => h) (Or.inl ⟨by rfl, by intro wv hSv; unfold OldS at hSv; go_simp⟩) hd rfl ?_
    try simp only [tk0, tk1, tk2, tk3, tk4]
    refine take_dst 10 13 (.int .i64 (a + (1 + rsz b))) rfl (by kernel_rfl) (by kernel_rfl) (by kernel_rfl) (fun _ _ _ h => h) (Or.inl ⟨by rfl, by intro wv hSv; unfold OldS at hSv; go_simp⟩) hd rfl ?_
    try simp only [tk0, tk1, tk2, tk3, tk4]
    refine take_dst 11 2 (.int .i64 (a + (1 + rsz b))) rfl (by kernel_rfl) (by kernel_rfl) (by kernel_rfl) (fun _ _ _ h => h) (Or.inl ⟨by rfl, by intro wv hSv; unfold OldS at hSv; go_simp⟩) hd rfl ?_
    try simp only [tk0, tk1, tk2, tk3, tk4]
    refine wpAnyH_done (by kernel_rfl) ?_ _
    clear hH hd r0 r1 r2 r3
    go_wp2_with fail
    go_ret
    exact ⟨ret_int9 (by omega), bw.drew⟩
end
end Go.Proofs.YtckapapejfnojaaGreatDoor

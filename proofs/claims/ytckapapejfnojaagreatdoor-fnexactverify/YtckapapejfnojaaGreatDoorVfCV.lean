import Derived.Deep.QuietTactic
import Derived.BigQuiet
import Derived.Deep.Cut
import Derived.Deep.RegionHeld3
import Derived.Test.YtckapapejfnojaaGreatDoorGAV
import Derived.Test.YtckapapejfnojaaGreatDoorTpAV
import Derived.Test.YtckapapejfnojaaGreatDoorVfAV
namespace Go.Proofs.YtckapapejfnojaaGreatDoor
open Go.RowKit Go.Shelf
set_option linter.unusedVariables false
set_option linter.unusedSimpArgs false
set_option maxRecDepth 100000
set_option maxHeartbeats 1000000
/-- what lies in the boxes of a prototype and an instruction. -/
def BxS (w : World) (n : Nat) (rg a b c s : Int) (x : World) : Prop := x.cell? ⟨w.heap.size + 1, 0, none⟩ = some (.int .i64 (n : Int)) ∧ x.cell? ⟨w.heap.size + 1, 1, none⟩ = some (.int .i64 a) ∧ x.cell? ⟨w.heap.size + 1, 2, none⟩ = some (.int .i64 b) ∧ x.cell? ⟨w.heap.size + 1, 3, none⟩ = some (.int .i64 c) ∧ x.cell? ⟨w.heap.size + 1, 4, none⟩ = some (.int .i64 s) ∧ x.cell? ⟨w.heap.size, 2, none⟩ = some (.int .i64 rg)
theorem BxS.of {w y : World} {n : Nat} {a b c s rg : Int} {v0 v1 v3 v4 v5 v6 v7 v8 v9 : Value} {t : TypeId} (hb : Below ((w.alloc (.cells #[v0, v1, .int .i64 rg, v3, v4, v5, v6, v7, v8, v9] t)).alloc (.cells #[.int .i64 (n : Int), .int .i64 a, .int .i64 b, .int .i64 c, .int .i64 s] 88)).heap.size ((w.alloc (.cells #[v0, v1, .int .i64 rg, v3, v4, v5, v6, v7, v8, v9] t)).alloc (.cells #[.int .i64 (n : Int), .int .i64 a, .int .i64 b, .int .i64 c, .int .i64 s] 88)) y) : BxS w n rg a b c s y ∧ w.heap.size + 1 < y.heap.size := by
  have R := RowL.new (w.alloc (.cells #[v0, v1, .int .i64 rg, v3, v4, v5, v6, v7, v8, v9] t)) [.int .i64 (n : Int), .int .i64 a, .int .i64 b, .int .i64 c, .int .i64 s] 88
  rw [World.size_alloc] at R
  have R1 := R.call hb
  have R2 := ((RowL.new w [v0, v1, .int .i64 rg, v3, v4, v5, v6, v7, v8, v9] t).alloc (.cells #[.int .i64 (n : Int), .int .i64 a, .int .i64 b, .int .i64 c, .int .i64 s] 88)).call hb
  exact ⟨⟨R1.cell 0 rfl, R1.cell 1 rfl, R1.cell 2 rfl, R1.cell 3 rfl, R1.cell 4 rfl, R2.cell 2 rfl⟩, R1.lt⟩
theorem BxS.later {w y x : World} {n : Nat} {a b c s rg : Int} (h : BxS w n rg a b c s y) (hl : w.heap.size + 1 < y.heap.size) (hx : Below y.heap.size y x) : BxS w n rg a b c s x :=
  ⟨(hx.cell (p := ⟨w.heap.size + 1, 0, none⟩) hl).trans h.1, (hx.cell (p := ⟨w.heap.size + 1, 1, none⟩) hl).trans h.2.1, (hx.cell (p := ⟨w.heap.size + 1, 2, none⟩) hl).trans h.2.2.1, (hx.cell (p := ⟨w.heap.size + 1, 3, none⟩) hl).trans h.2.2.2.1, (hx.cell (p := ⟨w.heap.size + 1, 4, none⟩) hl).trans h.2.2.2.2.1, (hx.cell (p := ⟨w.heap.size, 2, none⟩) (by show w.heap.size < y.heap.size; omega)).trans h.2.2.2.2.2⟩
theorem regs_rs (n : Nat) (hn : n ≤ 63) (p : PD) (ac : Option Addr) (cc : Nat) (o4 : Option Addr) (c4 : Nat) (o5 : Option Addr) (c5 : Nat) (o8 : Option Addr) (c8 : Nat) (o9 : Option Addr) (c9 : Nat) (a b c s : Int) (w : World) (a1 : 0 ≤ a) (a2 : a ≤ 255) (b1 : 0 ≤ b) (b2 : b ≤ 511) (c1 : 0 ≤ c) (c2 : c ≤ 511) (l114 : hasC (useS n) 114 = true) (l110 : hasC (useS n) 110 = false) (l52 : hasC (useS n) 52 = false) (l115 : hasC (useS n) 115 = true) (l116 : hasC (useS n) 116 = false) (l118 : hasC (useS n) 118 = false) (l119 : hasC (useS n) 119 = false) :
    Calls Tryz.prog 101 #[prV p ac cc o4 c4 o5 c5 o8 c8 o9 c9, insV n a b c s] w fun e w' => Says e (max a b + 1 ≤ p.regs) ∧ Below w.heap.size w w' := by
  have hz := useS_size n (by omega)
  go_enter Tryz.func101, Tryz.ntmps101
  go_upto_region 13 with (first | (go_at_call 105; refine (l4Use_in n _ hn).mono ?_; rintro e y ⟨rfl, b9⟩; have hb9 := below2 b9; have hBl := (BxS.of b9).2; have hB := (BxS.of b9).1; obtain ⟨z0, z1, z2, z3, z4, z5⟩ := id hB; clear b9) | (go_at_call 104; refine (l4Has_I _ _ _ hz (by omega)).mono ?_; rintro e y2 ⟨rfl, rfl⟩))
  all_goals
    clear z0 z1 z2 z3 z4 z5
    have hk : Hid (∀ x, Below y.heap.size y x → BxS w n p.regs a b c s x) := fun x hx => BxS.later hB hBl hx
    have hd : BxS w n p.regs a b c s y.drew := hB
    refine wp_region_held_drew (S := BxS w n p.regs a b c s) (by kernel_rfl) hd (fun hH => ?_)
    refine take_dst 0 52 (.string (useS n)) rfl (by kernel_rfl) (by kernel_rfl) (by kernel_rfl) (fun _ _ _ h => h) (Or.inl ⟨by rfl, by intro wv hSv; go_simp⟩) hd rfl ?_
    try simp only [tk0, tk1, tk2, tk3, tk4]
    refine wpAnyH_ready (rs := [1]) (by kernel_rfl) (by simp) ?_
    refine AllReadyH.cons rfl (fun KK hKK => ?_) AllReadyH.nil
    go_simp
    refine (l4Has_I _ _ _ hz (by omega)).mono ?_
    rintro e y2 ⟨rfl, rfl⟩
    rw [l118]
    go_wp2_with fail
    refine hKK.out _ _ hd (fun _ => ?_)
    clear hKK KK
    try simp only [tk0, tk1, tk2, tk3, tk4]
    refine take_dst 2 54 (.bool false) rfl (by kernel_rfl) (by kernel_rfl) (by kernel_rfl) (fun _ _ _ h => h) (Or.inl ⟨by rfl, by intro wv hSv; go_simp⟩) hd rfl ?_
    try simp only [tk0, tk1, tk2, tk3, tk4]
    refine take_dst 3 55 undef rfl (by kernel_rfl) (by kernel_rfl) (by kernel_rfl) (fun _ _ _ h => h) (Or.inr ⟨by rfl, rfl⟩) hd rfl ?_
    try simp only [tk0, tk1, tk2, tk3, tk4]
    refine take_dst 4 56 undef rfl (by kernel_rfl) (by kernel_rfl) (by kernel_rfl) (fun _ _ _ h => h) (Or.inr ⟨by rfl, rfl⟩) hd rfl ?_
    try simp only [tk0, tk1, tk2, tk3, tk4]
    refine take_dst 5 57 undef rfl (by kernel_rfl) (by kernel_rfl) (by kernel_rfl) (fun _ _ _ h => h) (Or.inr ⟨by rfl, rfl⟩) hd rfl ?_
    try simp only [tk0, tk1, tk2, tk3, tk4]
    refine take_dst 6 58 (.bool false) rfl (by kernel_rfl) (by kernel_rfl) (by kernel_rfl) (fun _ _ _ h => h) (Or.inl ⟨by rfl, by intro wv hSv; go_simp⟩) hd rfl ?_
    try simp only [tk0, tk1, tk2, tk3, tk4]
    refine take_dst 7 59 (.bool false) rfl (by kernel_rfl) (by kernel_rfl) (by kernel_rfl) (fun _ _ _ h => h) (Or.inl ⟨by rfl, by intro wv hSv; go_simp⟩) hd rfl ?_
    try simp only [tk0, tk1, tk2, tk3, tk4]
    refine take_dst 8 60 undef rfl (by kernel_rfl) (by kernel_rfl) (by kernel_rfl) (fun _ _ _ h => h) (Or.inr ⟨by rfl, rfl⟩) hd rfl ?_
    try simp only [tk0, tk1, tk2, tk3, tk4]
    refine take_dst 9 61 undef rfl (by kernel_rfl) (by kernel_rfl) (by kernel_rfl) (fun _ _ _ h => h) (Or.inr ⟨by rfl, rfl⟩) hd rfl ?_
    try simp only [tk0, tk1, tk2, tk3, tk4]
    refine take_dst 10 62 undef rfl (by kernel_rfl) (by kernel_rfl) (by kernel_rfl) (fun _ _ _ h => h) (Or.inr ⟨by rfl, rfl⟩) hd rfl ?_
    try simp only [tk0, tk1, tk2, tk3, tk4]
    refine take_dst 11 63 (.bool false) rfl (by kernel_rfl) (by kernel_rfl) (by kernel_rfl) (fun _ _ _ h => h) (Or.inl ⟨by rfl, by intro wv hSv; go_simp⟩) hd rfl ?_
    try simp only [tk0, tk1, tk2, tk3, tk4]
    refine take_dst 12 64 (.bool false) rfl (by kernel_rfl) (by kernel_rfl) (by kernel_rfl) (fun _ _ _ h => h) (Or.inl ⟨by rfl, by intro wv hSv; go_simp⟩) hd rfl ?_
    try simp only [tk0, tk1, tk2, tk3, tk4]
    refine take_dst 13 65 undef rfl (by kernel_rfl) (by kernel_rfl) (by kernel_rfl) (fun _ _ _ h => h) (Or.inr ⟨by rfl, rfl⟩) hd rfl ?_
    try simp only [tk0, tk1, tk2, tk3, tk4]
    refine take_dst 14 66 undef rfl (by kernel_rfl) (by kernel_rfl) (by kernel_rfl) (fun _ _ _ h => h) (Or.inr ⟨by rfl, rfl⟩) hd rfl ?_
    try simp only [tk0, tk1, tk2, tk3, tk4]
    refine take_dst 15 67 undef rfl (by kernel_rfl) (by kernel_rfl) (by kernel_rfl) (fun _ _ _ h => h) (Or.inr ⟨by rfl, rfl⟩) hd rfl ?_
    try simp only [tk0, tk1, tk2, tk3, tk4]
    refine take_dst 16 68 undef rfl (by kernel_rfl) (by kernel_rfl) (by kernel_rfl) (fun _ _ _ h => h) (Or.inr ⟨by rfl, rfl⟩) hd rfl ?_
    try simp only [tk0, tk1, tk2, tk3, tk4]
    refine take_dst 17 69 undef rfl (by kernel_rfl) (by kernel_rfl) (by kernel_rfl) (fun _ _ _ h => h) (Or.inr ⟨by rfl, rfl⟩) hd rfl ?_
    try simp only [tk0, tk1, tk2, tk3, tk4]
    refine take_dst 18 70 undef rfl (by kernel_rfl) (by kernel_rfl) (by kernel_rfl) (fun _ _ _ h => h) (Or.inr ⟨by rfl, rfl⟩) hd rfl ?_
    try simp only [tk0, tk1, tk2, tk3, tk4]
    refine take_dst 19 71 undef rfl (by kernel_rfl) (by kernel_rfl) (by kernel_rfl) (fun _ _ _ h => h) (Or.inr ⟨by rfl, rfl⟩) hd rfl ?_
    try simp only [tk0, tk1, tk2, tk3, tk4]
    refine take_dst 20 72 (.bool false) rfl (by kernel_rfl) (by kernel_rfl) (by kernel_rfl) (fun _ _ _ h => h) (Or.inl ⟨by rfl, by intro wv hSv; go_simp⟩) hd rfl ?_
    try simp only [tk0, tk1, tk2, tk3, tk4]
    refine wpAnyH_done (by kernel_rfl) ?_ _
    have hbF : Below w.heap.size w y.drew := hb9.trans (Below.mono (Below.refl y.heap.size y).drew hb9.size)
    have hBf : BxS w n p.regs a b c s y.drew := hB
    obtain ⟨z0, z1, z2, z3, z4, z5⟩ := id hBf
    clear hB hBf hk hd
    go_wp2_with (go_at_call 104; refine (l4Has_I _ _ _ hz (by omega)).mono ?_; rintro e y2 ⟨rfl, rfl⟩)
    all_goals go_ret
    all_goals exact ⟨⟨_, rfl, by rw [decide_eq_true_iff] <;> omega⟩, by assumption⟩
theorem regs_rk (n : Nat) (hn : n ≤ 63) (p : PD) (ac : Option Addr) (cc : Nat) (o4 : Option Addr) (c4 : Nat) (o5 : Option Addr) (c5 : Nat) (o8 : Option Addr) (c8 : Nat) (o9 : Option Addr) (c9 : Nat) (a b c s : Int) (w : World) (a1 : 0 ≤ a) (a2 : a ≤ 255) (b1 : 0 ≤ b) (b2 : b ≤ 511) (c1 : 0 ≤ c) (c2 : c ≤ 511) (l114 : hasC (useS n) 114 = true) (l110 : hasC (useS n) 110 = false) (l52 : hasC (useS n) 52 = false) (l115 : hasC (useS n) 115 = false) (l116 : hasC (useS n) 116 = false) (l118 : hasC (useS n) 118 = false) (l119 : hasC (useS n) 119 = false) :
    Calls Tryz.prog 101 #[prV p ac cc o4 c4 o5 c5 o8 c8 o9 c9, insV n a b c s] w fun e w' => Says e (a + 1 ≤ p.regs) ∧ Below w.heap.size w w' := by
  have hz := useS_size n (by omega)
  go_enter Tryz.func101, Tryz.ntmps101
  go_upto_region 13 with (first | (go_at_call 105; refine (l4Use_in n _ hn).mono ?_; rintro e y ⟨rfl, b9⟩; have hb9 := below2 b9; have hBl := (BxS.of b9).2; have hB := (BxS.of b9).1; obtain ⟨z0, z1, z2, z3, z4, z5⟩ := id hB; clear b9) | (go_at_call 104; refine (l4Has_I _ _ _ hz (by omega)).mono ?_; rintro e y2 ⟨rfl, rfl⟩))
  all_goals
    clear z0 z1 z2 z3 z4 z5
    have hk : Hid (∀ x, Below y.heap.size y x → BxS w n p.regs a b c s x) := fun x hx => BxS.later hB hBl hx
    have hd : BxS w n p.regs a b c s y.drew := hB
    refine wp_region_held_drew (S := BxS w n p.regs a b c s) (by kernel_rfl) hd (fun hH => ?_)
    refine take_dst 0 52 (.string (useS n)) rfl (by kernel_rfl) (by kernel_rfl) (by kernel_rfl) (fun _ _ _ h => h) (Or.inl ⟨by rfl, by intro wv hSv; go_simp⟩) hd rfl ?_
    try simp only [tk0, tk1, tk2, tk3, tk4]
    refine wpAnyH_ready (rs := [1]) (by kernel_rfl) (by simp) ?_
    refine AllReadyH.cons rfl (fun KK hKK => ?_) AllReadyH.nil
    go_simp
    refine (l4Has_I _ _ _ hz (by omega)).mono ?_
    rintro e y2 ⟨rfl, rfl⟩
    rw [l118]
    go_wp2_with fail
    refine hKK.out _ _ hd (fun _ => ?_)
    clear hKK KK
    try simp only [tk0, tk1, tk2, tk3, tk4]
    refine take_dst 2 54 (.bool false) rfl (by kernel_rfl) (by kernel_rfl) (by kernel_rfl) (fun _ _ _ h => h) (Or.inl ⟨by rfl, by intro wv hSv; go_simp⟩) hd rfl ?_
    try simp only [tk0, tk1, tk2, tk3, tk4]
    refine take_dst 3 55 undef rfl (by kernel_rfl) (by kernel_rfl) (by kernel_rfl) (fun _ _ _ h => h) (Or.inr ⟨by rfl, rfl⟩) hd rfl ?_
    try simp only [tk0, tk1, tk2, tk3, tk4]
    refine take_dst 4 56 undef rfl (by kernel_rfl) (by kernel_rfl) (by kernel_rfl) (fun _ _ _ h => h) (Or.inr ⟨by rfl, rfl⟩) hd rfl ?_
    try simp only [tk0, tk1, tk2, tk3, tk4]
    refine take_dst 5 57 undef rfl (by kernel_rfl) (by kernel_rfl) (by kernel_rfl) (fun _ _ _ h => h) (Or.inr ⟨by rfl, rfl⟩) hd rfl ?_
    try simp only [tk0, tk1, tk2, tk3, tk4]
    refine take_dst 6 58 (.bool false) rfl (by kernel_rfl) (by kernel_rfl) (by kernel_rfl) (fun _ _ _ h => h) (Or.inl ⟨by rfl, by intro wv hSv; go_simp⟩) hd rfl ?_
    try simp only [tk0, tk1, tk2, tk3, tk4]
    refine take_dst 7 59 (.bool false) rfl (by kernel_rfl) (by kernel_rfl) (by kernel_rfl) (fun _ _ _ h => h) (Or.inl ⟨by rfl, by intro wv hSv; go_simp⟩) hd rfl ?_
    try simp only [tk0, tk1, tk2, tk3, tk4]
    refine take_dst 8 60 undef rfl (by kernel_rfl) (by kernel_rfl) (by kernel_rfl) (fun _ _ _ h => h) (Or.inr ⟨by rfl, rfl⟩) hd rfl ?_
    try simp only [tk0, tk1, tk2, tk3, tk4]
    refine take_dst 9 61 undef rfl (by kernel_rfl) (by kernel_rfl) (by kernel_rfl) (fun _ _ _ h => h) (Or.inr ⟨by rfl, rfl⟩) hd rfl ?_
    try simp only [tk0, tk1, tk2, tk3, tk4]
    refine take_dst 10 62 undef rfl (by kernel_rfl) (by kernel_rfl) (by kernel_rfl) (fun _ _ _ h => h) (Or.inr ⟨by rfl, rfl⟩) hd rfl ?_
    try simp only [tk0, tk1, tk2, tk3, tk4]
    refine take_dst 11 63 (.bool false) rfl (by kernel_rfl) (by kernel_rfl) (by kernel_rfl) (fun _ _ _ h => h) (Or.inl ⟨by rfl, by intro wv hSv; go_simp⟩) hd rfl ?_
    try simp only [tk0, tk1, tk2, tk3, tk4]
    refine take_dst 12 64 (.bool false) rfl (by kernel_rfl) (by kernel_rfl) (by kernel_rfl) (fun _ _ _ h => h) (Or.inl ⟨by rfl, by intro wv hSv; go_simp⟩) hd rfl ?_
    try simp only [tk0, tk1, tk2, tk3, tk4]
    refine take_dst 13 65 undef rfl (by kernel_rfl) (by kernel_rfl) (by kernel_rfl) (fun _ _ _ h => h) (Or.inr ⟨by rfl, rfl⟩) hd rfl ?_
    try simp only [tk0, tk1, tk2, tk3, tk4]
    refine take_dst 14 66 undef rfl (by kernel_rfl) (by kernel_rfl) (by kernel_rfl) (fun _ _ _ h => h) (Or.inr ⟨by rfl, rfl⟩) hd rfl ?_
    try simp only [tk0, tk1, tk2, tk3, tk4]
    refine take_dst 15 67 undef rfl (by kernel_rfl) (by kernel_rfl) (by kernel_rfl) (fun _ _ _ h => h) (Or.inr ⟨by rfl, rfl⟩) hd rfl ?_
    try simp only [tk0, tk1, tk2, tk3, tk4]
    refine take_dst 16 68 undef rfl (by kernel_rfl) (by kernel_rfl) (by kernel_rfl) (fun _ _ _ h => h) (Or.inr ⟨by rfl, rfl⟩) hd rfl ?_
    try simp only [tk0, tk1, tk2, tk3, tk4]
    refine take_dst 17 69 undef rfl (by kernel_rfl) (by kernel_rfl) (by kernel_rfl) (fun _ _ _ h => h) (Or.inr ⟨by rfl, rfl⟩) hd rfl ?_
    try simp only [tk0, tk1, tk2, tk3, tk4]
    refine take_dst 18 70 undef rfl (by kernel_rfl) (by kernel_rfl) (by kernel_rfl) (fun _ _ _ h => h) (Or.inr ⟨by rfl, rfl⟩) hd rfl ?_
    try simp only [tk0, tk1, tk2, tk3, tk4]
    refine take_dst 19 71 undef rfl (by kernel_rfl) (by kernel_rfl) (by kernel_rfl) (fun _ _ _ h => h) (Or.inr ⟨by rfl, rfl⟩) hd rfl ?_
    try simp only [tk0, tk1, tk2, tk3, tk4]
    refine take_dst 20 72 (.bool false) rfl (by kernel_rfl) (by kernel_rfl) (by kernel_rfl) (fun _ _ _ h => h) (Or.inl ⟨by rfl, by intro wv hSv; go_simp⟩) hd rfl ?_
    try simp only [tk0, tk1, tk2, tk3, tk4]
    refine wpAnyH_done (by kernel_rfl) ?_ _
    have hbF : Below w.heap.size w y.drew := hb9.trans (Below.mono (Below.refl y.heap.size y).drew hb9.size)
    have hBf : BxS w n p.regs a b c s y.drew := hB
    obtain ⟨z0, z1, z2, z3, z4, z5⟩ := id hBf
    clear hB hBf hk hd
    go_wp2_with (go_at_call 104; refine (l4Has_I _ _ _ hz (by omega)).mono ?_; rintro e y2 ⟨rfl, rfl⟩)
    all_goals go_ret
    all_goals exact ⟨⟨_, rfl, by rw [decide_eq_true_iff] <;> omega⟩, by assumption⟩
theorem regs_n (n : Nat) (hn : n ≤ 63) (p : PD) (ac : Option Addr) (cc : Nat) (o4 : Option Addr) (c4 : Nat) (o5 : Option Addr) (c5 : Nat) (o8 : Option Addr) (c8 : Nat) (o9 : Option Addr) (c9 : Nat) (a b c s : Int) (w : World) (a1 : 0 ≤ a) (a2 : a ≤ 255) (b1 : 0 ≤ b) (b2 : b ≤ 511) (c1 : 0 ≤ c) (c2 : c ≤ 511) (l114 : hasC (useS n) 114 = false) (l110 : hasC (useS n) 110 = true) (l52 : hasC (useS n) 52 = false) (l115 : hasC (useS n) 115 = false) (l116 : hasC (useS n) 116 = false) (l118 : hasC (useS n) 118 = false) (l119 : hasC (useS n) 119 = false) :
    Calls Tryz.prog 101 #[prV p ac cc o4 c4 o5 c5 o8 c8 o9 c9, insV n a b c s] w fun e w' => Says e (a + b + 1 ≤ p.regs) ∧ Below w.heap.size w w' := by
  have hz := useS_size n (by omega)
  go_enter Tryz.func101, Tryz.ntmps101
  go_upto_region 13 with (first | (go_at_call 105; refine (l4Use_in n _ hn).mono ?_; rintro e y ⟨rfl, b9⟩; have hb9 := below2 b9; have hBl := (BxS.of b9).2; have hB := (BxS.of b9).1; obtain ⟨z0, z1, z2, z3, z4, z5⟩ := id hB; clear b9) | (go_at_call 104; refine (l4Has_I _ _ _ hz (by omega)).mono ?_; rintro e y2 ⟨rfl, rfl⟩))
  all_goals
    clear z0 z1 z2 z3 z4 z5
    have hk : Hid (∀ x, Below y.heap.size y x → BxS w n p.regs a b c s x) := fun x hx => BxS.later hB hBl hx
    have hd : BxS w n p.regs a b c s y.drew := hB
    refine wp_region_held_drew (S := BxS w n p.regs a b c s) (by kernel_rfl) hd (fun hH => ?_)
    refine take_dst 0 52 (.string (useS n)) rfl (by kernel_rfl) (by kernel_rfl) (by kernel_rfl) (fun _ _ _ h => h) (Or.inl ⟨by rfl, by intro wv hSv; go_simp⟩) hd rfl ?_
    try simp only [tk0, tk1, tk2, tk3, tk4]
    refine wpAnyH_ready (rs := [1]) (by kernel_rfl) (by simp) ?_
    refine AllReadyH.cons rfl (fun KK hKK => ?_) AllReadyH.nil
    go_simp
    refine (l4Has_I _ _ _ hz (by omega)).mono ?_
    rintro e y2 ⟨rfl, rfl⟩
    rw [l118]
    go_wp2_with fail
    refine hKK.out _ _ hd (fun _ => ?_)
    clear hKK KK
    try simp only [tk0, tk1, tk2, tk3, tk4]
    refine take_dst 2 54 (.bool false) rfl (by kernel_rfl) (by kernel_rfl) (by kernel_rfl) (fun _ _ _ h => h) (Or.inl ⟨by rfl, by intro wv hSv; go_simp⟩) hd rfl ?_
    try simp only [tk0, tk1, tk2, tk3, tk4]
    refine take_dst 3 55 undef rfl (by kernel_rfl) (by kernel_rfl) (by kernel_rfl) (fun _ _ _ h => h) (Or.inr ⟨by rfl, rfl⟩) hd rfl ?_
    try simp only [tk0, tk1, tk2, tk3, tk4]
    refine take_dst 4 56 undef rfl (by kernel_rfl) (by kernel_rfl) (by kernel_rfl) (fun _ _ _ h => h) (Or.inr ⟨by rfl, rfl⟩) hd rfl ?_
    try simp only [tk0, tk1, tk2, tk3, tk4]
    refine take_dst 5 57 undef rfl (by kernel_rfl) (by kernel_rfl) (by kernel_rfl) (fun _ _ _ h => h) (Or.inr ⟨by rfl, rfl⟩) hd rfl ?_
    try simp only [tk0, tk1, tk2, tk3, tk4]
    refine take_dst 6 58 (.bool false) rfl (by kernel_rfl) (by kernel_rfl) (by kernel_rfl) (fun _ _ _ h => h) (Or.inl ⟨by rfl, by intro wv hSv; go_simp⟩) hd rfl ?_
    try simp only [tk0, tk1, tk2, tk3, tk4]
    refine take_dst 7 59 (.bool false) rfl (by kernel_rfl) (by kernel_rfl) (by kernel_rfl) (fun _ _ _ h => h) (Or.inl ⟨by rfl, by intro wv hSv; go_simp⟩) hd rfl ?_
    try simp only [tk0, tk1, tk2, tk3, tk4]
    refine take_dst 8 60 undef rfl (by kernel_rfl) (by kernel_rfl) (by kernel_rfl) (fun _ _ _ h => h) (Or.inr ⟨by rfl, rfl⟩) hd rfl ?_
    try simp only [tk0, tk1, tk2, tk3, tk4]
    refine take_dst 9 61 undef rfl (by kernel_rfl) (by kernel_rfl) (by kernel_rfl) (fun _ _ _ h => h) (Or.inr ⟨by rfl, rfl⟩) hd rfl ?_
    try simp only [tk0, tk1, tk2, tk3, tk4]
    refine take_dst 10 62 undef rfl (by kernel_rfl) (by kernel_rfl) (by kernel_rfl) (fun _ _ _ h => h) (Or.inr ⟨by rfl, rfl⟩) hd rfl ?_
    try simp only [tk0, tk1, tk2, tk3, tk4]
    refine take_dst 11 63 (.bool false) rfl (by kernel_rfl) (by kernel_rfl) (by kernel_rfl) (fun _ _ _ h => h) (Or.inl ⟨by rfl, by intro wv hSv; go_simp⟩) hd rfl ?_
    try simp only [tk0, tk1, tk2, tk3, tk4]
    refine take_dst 12 64 (.bool false) rfl (by kernel_rfl) (by kernel_rfl) (by kernel_rfl) (fun _ _ _ h => h) (Or.inl ⟨by rfl, by intro wv hSv; go_simp⟩) hd rfl ?_
    try simp only [tk0, tk1, tk2, tk3, tk4]
    refine take_dst 13 65 undef rfl (by kernel_rfl) (by kernel_rfl) (by kernel_rfl) (fun _ _ _ h => h) (Or.inr ⟨by rfl, rfl⟩) hd rfl ?_
    try simp only [tk0, tk1, tk2, tk3, tk4]
    refine take_dst 14 66 undef rfl (by kernel_rfl) (by kernel_rfl) (by kernel_rfl) (fun _ _ _ h => h) (Or.inr ⟨by rfl, rfl⟩) hd rfl ?_
    try simp only [tk0, tk1, tk2, tk3, tk4]
    refine take_dst 15 67 undef rfl (by kernel_rfl) (by kernel_rfl) (by kernel_rfl) (fun _ _ _ h => h) (Or.inr ⟨by rfl, rfl⟩) hd rfl ?_
    try simp only [tk0, tk1, tk2, tk3, tk4]
    refine take_dst 16 68 undef rfl (by kernel_rfl) (by kernel_rfl) (by kernel_rfl) (fun _ _ _ h => h) (Or.inr ⟨by rfl, rfl⟩) hd rfl ?_
    try simp only [tk0, tk1, tk2, tk3, tk4]
    refine take_dst 17 69 undef rfl (by kernel_rfl) (by kernel_rfl) (by kernel_rfl) (fun _ _ _ h => h) (Or.inr ⟨by rfl, rfl⟩) hd rfl ?_
    try simp only [tk0, tk1, tk2, tk3, tk4]
    refine take_dst 18 70 undef rfl (by kernel_rfl) (by kernel_rfl) (by kernel_rfl) (fun _ _ _ h => h) (Or.inr ⟨by rfl, rfl⟩) hd rfl ?_
    try simp only [tk0, tk1, tk2, tk3, tk4]
    refine take_dst 19 71 undef rfl (by kernel_rfl) (by kernel_rfl) (by kernel_rfl) (fun _ _ _ h => h) (Or.inr ⟨by rfl, rfl⟩) hd rfl ?_
    try simp only [tk0, tk1, tk2, tk3, tk4]
    refine take_dst 20 72 (.bool false) rfl (by kernel_rfl) (by kernel_rfl) (by kernel_rfl) (fun _ _ _ h => h) (Or.inl ⟨by rfl, by intro wv hSv; go_simp⟩) hd rfl ?_
    try simp only [tk0, tk1, tk2, tk3, tk4]
    refine wpAnyH_done (by kernel_rfl) ?_ _
    have hbF : Below w.heap.size w y.drew := hb9.trans (Below.mono (Below.refl y.heap.size y).drew hb9.size)
    have hBf : BxS w n p.regs a b c s y.drew := hB
    obtain ⟨z0, z1, z2, z3, z4, z5⟩ := id hBf
    clear hB hBf hk hd
    go_wp2_with (go_at_call 104; refine (l4Has_I _ _ _ hz (by omega)).mono ?_; rintro e y2 ⟨rfl, rfl⟩)
    all_goals go_ret
    all_goals exact ⟨⟨_, rfl, by rw [decide_eq_true_iff] <;> omega⟩, by assumption⟩
theorem regs_rz (n : Nat) (hn : n ≤ 63) (p : PD) (ac : Option Addr) (cc : Nat) (o4 : Option Addr) (c4 : Nat) (o5 : Option Addr) (c5 : Nat) (o8 : Option Addr) (c8 : Nat) (o9 : Option Addr) (c9 : Nat) (a b c s : Int) (w : World) (a1 : 0 ≤ a) (a2 : a ≤ 255) (b1 : 0 ≤ b) (b2 : b ≤ 511) (c1 : 0 ≤ c) (c2 : c ≤ 511) (l114 : hasC (useS n) 114 = true) (l110 : hasC (useS n) 110 = false) (l52 : hasC (useS n) 52 = false) (l115 : hasC (useS n) 115 = false) (l116 : hasC (useS n) 116 = false) (l118 : hasC (useS n) 118 = false) (l119 : hasC (useS n) 119 = false) :
    Calls Tryz.prog 101 #[prV p ac cc o4 c4 o5 c5 o8 c8 o9 c9, insV n a b c s] w fun e w' => Says e (a + 1 ≤ p.regs) ∧ Below w.heap.size w w' := by
  have hz := useS_size n (by omega)
  go_enter Tryz.func101, Tryz.ntmps101
  go_upto_region 13 with (first | (go_at_call 105; refine (l4Use_in n _ hn).mono ?_; rintro e y ⟨rfl, b9⟩; have hb9 := below2 b9; have hBl := (BxS.of b9).2; have hB := (BxS.of b9).1; obtain ⟨z0, z1, z2, z3, z4, z5⟩ := id hB; clear b9) | (go_at_call 104; refine (l4Has_I _ _ _ hz (by omega)).mono ?_; rintro e y2 ⟨rfl, rfl⟩))
  all_goals
    clear z0 z1 z2 z3 z4 z5
    have hk : Hid (∀ x, Below y.heap.size y x → BxS w n p.regs a b c s x) := fun x hx => BxS.later hB hBl hx
    have hd : BxS w n p.regs a b c s y.drew := hB
    refine wp_region_held_drew (S := BxS w n p.regs a b c s) (by kernel_rfl) hd (fun hH => ?_)
    refine take_dst 0 52 (.string (useS n)) rfl (by kernel_rfl) (by kernel_rfl) (by kernel_rfl) (fun _ _ _ h => h) (Or.inl ⟨by rfl, by intro wv hSv; go_simp⟩) hd rfl ?_
    try simp only [tk0, tk1, tk2, tk3, tk4]
    refine wpAnyH_ready (rs := [1]) (by kernel_rfl) (by simp) ?_
    refine AllReadyH.cons rfl (fun KK hKK => ?_) AllReadyH.nil
    go_simp
    refine (l4Has_I _ _ _ hz (by omega)).mono ?_
    rintro e y2 ⟨rfl, rfl⟩
    rw [l118]
    go_wp2_with fail
    refine hKK.out _ _ hd (fun _ => ?_)
    clear hKK KK
    try simp only [tk0, tk1, tk2, tk3, tk4]
    refine take_dst 2 54 (.bool false) rfl (by kernel_rfl) (by kernel_rfl) (by kernel_rfl) (fun _ _ _ h => h) (Or.inl ⟨by rfl, by intro wv hSv; go_simp⟩) hd rfl ?_
    try simp only [tk0, tk1, tk2, tk3, tk4]
    refine take_dst 3 55 undef rfl (by kernel_rfl) (by kernel_rfl) (by kernel_rfl) (fun _ _ _ h => h) (Or.inr ⟨by rfl, rfl⟩) hd rfl ?_
    try simp only [tk0, tk1, tk2, tk3, tk4]
    refine take_dst 4 56 undef rfl (by kernel_rfl) (by kernel_rfl) (by kernel_rfl) (fun _ _ _ h => h) (Or.inr ⟨by rfl, rfl⟩) hd rfl ?_
    try simp only [tk0, tk1, tk2, tk3, tk4]
    refine take_dst 5 57 undef rfl (by kernel_rfl) (by kernel_rfl) (by kernel_rfl) (fun _ _ _ h => h) (Or.inr ⟨by rfl, rfl⟩) hd rfl ?_
    try simp only [tk0, tk1, tk2, tk3, tk4]
    refine take_dst 6 58 (.bool false) rfl (by kernel_rfl) (by kernel_rfl) (by kernel_rfl) (fun _ _ _ h => h) (Or.inl ⟨by rfl, by intro wv hSv; go_simp⟩) hd rfl ?_
    try simp only [tk0, tk1, tk2, tk3, tk4]
    refine take_dst 7 59 (.bool false) rfl (by kernel_rfl) (by kernel_rfl) (by kernel_rfl) (fun _ _ _ h => h) (Or.inl ⟨by rfl, by intro wv hSv; go_simp⟩) hd rfl ?_
    try simp only [tk0, tk1, tk2, tk3, tk4]
    refine take_dst 8 60 undef rfl (by kernel_rfl) (by kernel_rfl) (by kernel_rfl) (fun _ _ _ h => h) (Or.inr ⟨by rfl, rfl⟩) hd rfl ?_
    try simp only [tk0, tk1, tk2, tk3, tk4]
    refine take_dst 9 61 undef rfl (by kernel_rfl) (by kernel_rfl) (by kernel_rfl) (fun _ _ _ h => h) (Or.inr ⟨by rfl, rfl⟩) hd rfl ?_
    try simp only [tk0, tk1, tk2, tk3, tk4]
    refine take_dst 10 62 undef rfl (by kernel_rfl) (by kernel_rfl) (by kernel_rfl) (fun _ _ _ h => h) (Or.inr ⟨by rfl, rfl⟩) hd rfl ?_
    try simp only [tk0, tk1, tk2, tk3, tk4]
    refine take_dst 11 63 (.bool false) rfl (by kernel_rfl) (by kernel_rfl) (by kernel_rfl) (fun _ _ _ h => h) (Or.inl ⟨by rfl, by intro wv hSv; go_simp⟩) hd rfl ?_
    try simp only [tk0, tk1, tk2, tk3, tk4]
    refine take_dst 12 64 (.bool false) rfl (by kernel_rfl) (by kernel_rfl) (by kernel_rfl) (fun _ _ _ h => h) (Or.inl ⟨by rfl, by intro wv hSv; go_simp⟩) hd rfl ?_
    try simp only [tk0, tk1, tk2, tk3, tk4]
    refine take_dst 13 65 undef rfl (by kernel_rfl) (by kernel_rfl) (by kernel_rfl) (fun _ _ _ h => h) (Or.inr ⟨by rfl, rfl⟩) hd rfl ?_
    try simp only [tk0, tk1, tk2, tk3, tk4]
    refine take_dst 14 66 undef rfl (by kernel_rfl) (by kernel_rfl) (by kernel_rfl) (fun _ _ _ h => h) (Or.inr ⟨by rfl, rfl⟩) hd rfl ?_
    try simp only [tk0, tk1, tk2, tk3, tk4]
    refine take_dst 15 67 undef rfl (by kernel_rfl) (by kernel_rfl) (by kernel_rfl) (fun _ _ _ h => h) (Or.inr ⟨by rfl, rfl⟩) hd rfl ?_
    try simp only [tk0, tk1, tk2, tk3, tk4]
    refine take_dst 16 68 undef rfl (by kernel_rfl) (by kernel_rfl) (by kernel_rfl) (fun _ _ _ h => h) (Or.inr ⟨by rfl, rfl⟩) hd rfl ?_
    try simp only [tk0, tk1, tk2, tk3, tk4]
    refine take_dst 17 69 undef rfl (by kernel_rfl) (by kernel_rfl) (by kernel_rfl) (fun _ _ _ h => h) (Or.inr ⟨by rfl, rfl⟩) hd rfl ?_
    try simp only [tk0, tk1, tk2, tk3, tk4]
    refine take_dst 18 70 undef rfl (by kernel_rfl) (by kernel_rfl) (by kernel_rfl) (fun _ _ _ h => h) (Or.inr ⟨by rfl, rfl⟩) hd rfl ?_
    try simp only [tk0, tk1, tk2, tk3, tk4]
    refine take_dst 19 71 undef rfl (by kernel_rfl) (by kernel_rfl) (by kernel_rfl) (fun _ _ _ h => h) (Or.inr ⟨by rfl, rfl⟩) hd rfl ?_
    try simp only [tk0, tk1, tk2, tk3, tk4]
    refine take_dst 20 72 (.bool false) rfl (by kernel_rfl) (by kernel_rfl) (by kernel_rfl) (fun _ _ _ h => h) (Or.inl ⟨by rfl, by intro wv hSv; go_simp⟩) hd rfl ?_
    try simp only [tk0, tk1, tk2, tk3, tk4]
    refine wpAnyH_done (by kernel_rfl) ?_ _
    have hbF : Below w.heap.size w y.drew := hb9.trans (Below.mono (Below.refl y.heap.size y).drew hb9.size)
    have hBf : BxS w n p.regs a b c s y.drew := hB
    obtain ⟨z0, z1, z2, z3, z4, z5⟩ := id hBf
    clear hB hBf hk hd
    go_wp2_with (go_at_call 104; refine (l4Has_I _ _ _ hz (by omega)).mono ?_; rintro e y2 ⟨rfl, rfl⟩)
    all_goals go_ret
    all_goals exact ⟨⟨_, rfl, by rw [decide_eq_true_iff] <;> omega⟩, by assumption⟩
theorem regs_ru (n : Nat) (hn : n ≤ 63) (p : PD) (ac : Option Addr) (cc : Nat) (o4 : Option Addr) (c4 : Nat) (o5 : Option Addr) (c5 : Nat) (o8 : Option Addr) (c8 : Nat) (o9 : Option Addr) (c9 : Nat) (a b c s : Int) (w : World) (a1 : 0 ≤ a) (a2 : a ≤ 255) (b1 : 0 ≤ b) (b2 : b ≤ 511) (c1 : 0 ≤ c) (c2 : c ≤ 511) (l114 : hasC (useS n) 114 = true) (l110 : hasC (useS n) 110 = false) (l52 : hasC (useS n) 52 = false) (l115 : hasC (useS n) 115 = false) (l116 : hasC (useS n) 116 = false) (l118 : hasC (useS n) 118 = false) (l119 : hasC (useS n) 119 = false) :
    Calls Tryz.prog 101 #[prV p ac cc o4 c4 o5 c5 o8 c8 o9 c9, insV n a b c s] w fun e w' => Says e (a + 1 ≤ p.regs) ∧ Below w.heap.size w w' := by
  have hz := useS_size n (by omega)
  go_enter Tryz.func101, Tryz.ntmps101
  go_upto_region 13 with (first | (go_at_call 105; refine (l4Use_in n _ hn).mono ?_; rintro e y ⟨rfl, b9⟩; have hb9 := below2 b9; have hBl := (BxS.of b9).2; have hB := (BxS.of b9).1; obtain ⟨z0, z1, z2, z3, z4, z5⟩ := id hB; clear b9) | (go_at_call 104; refine (l4Has_I _ _ _ hz (by omega)).mono ?_; rintro e y2 ⟨rfl, rfl⟩))
  all_goals
    clear z0 z1 z2 z3 z4 z5
    have hk : Hid (∀ x, Below y.heap.size y x → BxS w n p.regs a b c s x) := fun x hx => BxS.later hB hBl hx
    have hd : BxS w n p.regs a b c s y.drew := hB
    refine wp_region_held_drew (S := BxS w n p.regs a b c s) (by kernel_rfl) hd (fun hH => ?_)
    refine take_dst 0 52 (.string (useS n)) rfl (by kernel_rfl) (by kernel_rfl) (by kernel_rfl) (fun _ _ _ h => h) (Or.inl ⟨by rfl, by intro wv hSv; go_simp⟩) hd rfl ?_
    try simp only [tk0, tk1, tk2, tk3, tk4]
    refine wpAnyH_ready (rs := [1]) (by kernel_rfl) (by simp) ?_
    refine AllReadyH.cons rfl (fun KK hKK => ?_) AllReadyH.nil
    go_simp
    refine (l4Has_I _ _ _ hz (by omega)).mono ?_
    rintro e y2 ⟨rfl, rfl⟩
    rw [l118]
    go_wp2_with fail
    refine hKK.out _ _ hd (fun _ => ?_)
    clear hKK KK
    try simp only [tk0, tk1, tk2, tk3, tk4]
    refine take_dst 2 54 (.bool false) rfl (by kernel_rfl) (by kernel_rfl) (by kernel_rfl) (fun _ _ _ h => h) (Or.inl ⟨by rfl, by intro wv hSv; go_simp⟩) hd rfl ?_
    try simp only [tk0, tk1, tk2, tk3, tk4]
    refine take_dst 3 55 undef rfl (by kernel_rfl) (by kernel_rfl) (by kernel_rfl) (fun _ _ _ h => h) (Or.inr ⟨by rfl, rfl⟩) hd rfl ?_
    try simp only [tk0, tk1, tk2, tk3, tk4]
    refine take_dst 4 56 undef rfl (by kernel_rfl) (by kernel_rfl) (by kernel_rfl) (fun _ _ _ h => h) (Or.inr ⟨by rfl, rfl⟩) hd rfl ?_
    try simp only [tk0, tk1, tk2, tk3, tk4]
    refine take_dst 5 57 undef rfl (by kernel_rfl) (by kernel_rfl) (by kernel_rfl) (fun _ _ _ h => h) (Or.inr ⟨by rfl, rfl⟩) hd rfl ?_
    try simp only [tk0, tk1, tk2, tk3, tk4]
    refine take_dst 6 58 (.bool false) rfl (by kernel_rfl) (by kernel_rfl) (by kernel_rfl) (fun _ _ _ h => h) (Or.inl ⟨by rfl, by intro wv hSv; go_simp⟩) hd rfl ?_
    try simp only [tk0, tk1, tk2, tk3, tk4]
    refine take_dst 7 59 (.bool false) rfl (by kernel_rfl) (by kernel_rfl) (by kernel_rfl) (fun _ _ _ h => h) (Or.inl ⟨by rfl, by intro wv hSv; go_simp⟩) hd rfl ?_
    try simp only [tk0, tk1, tk2, tk3, tk4]
    refine take_dst 8 60 undef rfl (by kernel_rfl) (by kernel_rfl) (by kernel_rfl) (fun _ _ _ h => h) (Or.inr ⟨by rfl, rfl⟩) hd rfl ?_
    try simp only [tk0, tk1, tk2, tk3, tk4]
    refine take_dst 9 61 undef rfl (by kernel_rfl) (by kernel_rfl) (by kernel_rfl) (fun _ _ _ h => h) (Or.inr ⟨by rfl, rfl⟩) hd rfl ?_
    try simp only [tk0, tk1, tk2, tk3, tk4]
    refine take_dst 10 62 undef rfl (by kernel_rfl) (by kernel_rfl) (by kernel_rfl) (fun _ _ _ h => h) (Or.inr ⟨by rfl, rfl⟩) hd rfl ?_
    try simp only [tk0, tk1, tk2, tk3, tk4]
    refine take_dst 11 63 (.bool false) rfl (by kernel_rfl) (by kernel_rfl) (by kernel_rfl) (fun _ _ _ h => h) (Or.inl ⟨by rfl, by intro wv hSv; go_simp⟩) hd rfl ?_
    try simp only [tk0, tk1, tk2, tk3, tk4]
    refine take_dst 12 64 (.bool false) rfl (by kernel_rfl) (by kernel_rfl) (by kernel_rfl) (fun _ _ _ h => h) (Or.inl ⟨by rfl, by intro wv hSv; go_simp⟩) hd rfl ?_
    try simp only [tk0, tk1, tk2, tk3, tk4]
    refine take_dst 13 65 undef rfl (by kernel_rfl) (by kernel_rfl) (by kernel_rfl) (fun _ _ _ h => h) (Or.inr ⟨by rfl, rfl⟩) hd rfl ?_
    try simp only [tk0, tk1, tk2, tk3, tk4]
    refine take_dst 14 66 undef rfl (by kernel_rfl) (by kernel_rfl) (by kernel_rfl) (fun _ _ _ h => h) (Or.inr ⟨by rfl, rfl⟩) hd rfl ?_
    try simp only [tk0, tk1, tk2, tk3, tk4]
    refine take_dst 15 67 undef rfl (by kernel_rfl) (by kernel_rfl) (by kernel_rfl) (fun _ _ _ h => h) (Or.inr ⟨by rfl, rfl⟩) hd rfl ?_
    try simp only [tk0, tk1, tk2, tk3, tk4]
    refine take_dst 16 68 undef rfl (by kernel_rfl) (by kernel_rfl) (by kernel_rfl) (fun _ _ _ h => h) (Or.inr ⟨by rfl, rfl⟩) hd rfl ?_
    try simp only [tk0, tk1, tk2, tk3, tk4]
    refine take_dst 17 69 undef rfl (by kernel_rfl) (by kernel_rfl) (by kernel_rfl) (fun _ _ _ h => h) (Or.inr ⟨by rfl, rfl⟩) hd rfl ?_
    try simp only [tk0, tk1, tk2, tk3, tk4]
    refine take_dst 18 70 undef rfl (by kernel_rfl) (by kernel_rfl) (by kernel_rfl) (fun _ _ _ h => h) (Or.inr ⟨by rfl, rfl⟩) hd rfl ?_
    try simp only [tk0, tk1, tk2, tk3, tk4]
    refine take_dst 19 71 undef rfl (by kernel_rfl) (by kernel_rfl) (by kernel_rfl) (fun _ _ _ h => h) (Or.inr ⟨by rfl, rfl⟩) hd rfl ?_
    try simp only [tk0, tk1, tk2, tk3, tk4]
    refine take_dst 20 72 (.bool false) rfl (by kernel_rfl) (by kernel_rfl) (by kernel_rfl) (fun _ _ _ h => h) (Or.inl ⟨by rfl, by intro wv hSv; go_simp⟩) hd rfl ?_
    try simp only [tk0, tk1, tk2, tk3, tk4]
    refine wpAnyH_done (by kernel_rfl) ?_ _
    have hbF : Below w.heap.size w y.drew := hb9.trans (Below.mono (Below.refl y.heap.size y).drew hb9.size)
    have hBf : BxS w n p.regs a b c s y.drew := hB
    obtain ⟨z0, z1, z2, z3, z4, z5⟩ := id hBf
    clear hB hBf hk hd
    go_wp2_with (go_at_call 104; refine (l4Has_I _ _ _ hz (by omega)).mono ?_; rintro e y2 ⟨rfl, rfl⟩)
    all_goals go_ret
    all_goals exact ⟨⟨_, rfl, by rw [decide_eq_true_iff] <;> omega⟩, by assumption⟩
theorem regs_r (n : Nat) (hn : n ≤ 63) (p : PD) (ac : Option Addr) (cc : Nat) (o4 : Option Addr) (c4 : Nat) (o5 : Option Addr) (c5 : Nat) (o8 : Option Addr) (c8 : Nat) (o9 : Option Addr) (c9 : Nat) (a b c s : Int) (w : World) (a1 : 0 ≤ a) (a2 : a ≤ 255) (b1 : 0 ≤ b) (b2 : b ≤ 511) (c1 : 0 ≤ c) (c2 : c ≤ 511) (l114 : hasC (useS n) 114 = true) (l110 : hasC (useS n) 110 = false) (l52 : hasC (useS n) 52 = false) (l115 : hasC (useS n) 115 = false) (l116 : hasC (useS n) 116 = false) (l118 : hasC (useS n) 118 = false) (l119 : hasC (useS n) 119 = false) :
    Calls Tryz.prog 101 #[prV p ac cc o4 c4 o5 c5 o8 c8 o9 c9, insV n a b c s] w fun e w' => Says e (a + 1 ≤ p.regs) ∧ Below w.heap.size w w' := by
  have hz := useS_size n (by omega)
  go_enter Tryz.func101, Tryz.ntmps101
  go_upto_region 13 with (first | (go_at_call 105; refine (l4Use_in n _ hn).mono ?_; rintro e y ⟨rfl, b9⟩; have hb9 := below2 b9; have hBl := (BxS.of b9).2; have hB := (BxS.of b9).1; obtain ⟨z0, z1, z2, z3, z4, z5⟩ := id hB; clear b9) | (go_at_call 104; refine (l4Has_I _ _ _ hz (by omega)).mono ?_; rintro e y2 ⟨rfl, rfl⟩))
  all_goals
    clear z0 z1 z2 z3 z4 z5
    have hk : Hid (∀ x, Below y.heap.size y x → BxS w n p.regs a b c s x) := fun x hx => BxS.later hB hBl hx
    have hd : BxS w n p.regs a b c s y.drew := hB
    refine wp_region_held_drew (S := BxS w n p.regs a b c s) (by kernel_rfl) hd (fun hH => ?_)
    refine take_dst 0 52 (.string (useS n)) rfl (by kernel_rfl) (by kernel_rfl) (by kernel_rfl) (fun _ _ _ h => h) (Or.inl ⟨by rfl, by intro wv hSv; go_simp⟩) hd rfl ?_
    try simp only [tk0, tk1, tk2, tk3, tk4]
    refine wpAnyH_ready (rs := [1]) (by kernel_rfl) (by simp) ?_
    refine AllReadyH.cons rfl (fun KK hKK => ?_) AllReadyH.nil
    go_simp
    refine (l4Has_I _ _ _ hz (by omega)).mono ?_
    rintro e y2 ⟨rfl, rfl⟩
    rw [l118]
    go_wp2_with fail
    refine hKK.out _ _ hd (fun _ => ?_)
    clear hKK KK
    try simp only [tk0, tk1, tk2, tk3, tk4]
    refine take_dst 2 54 (.bool false) rfl (by kernel_rfl) (by kernel_rfl) (by kernel_rfl) (fun _ _ _ h => h) (Or.inl ⟨by rfl, by intro wv hSv; go_simp⟩) hd rfl ?_
    try simp only [tk0, tk1, tk2, tk3, tk4]
    refine take_dst 3 55 undef rfl (by kernel_rfl) (by kernel_rfl) (by kernel_rfl) (fun _ _ _ h => h) (Or.inr ⟨by rfl, rfl⟩) hd rfl ?_
    try simp only [tk0, tk1, tk2, tk3, tk4]
    refine take_dst 4 56 undef rfl (by kernel_rfl) (by kernel_rfl) (by kernel_rfl) (fun _ _ _ h => h) (Or.inr ⟨by rfl, rfl⟩) hd rfl ?_
    try simp only [tk0, tk1, tk2, tk3, tk4]
    refine take_dst 5 57 undef rfl (by kernel_rfl) (by kernel_rfl) (by kernel_rfl) (fun _ _ _ h => h) (Or.inr ⟨by rfl, rfl⟩) hd rfl ?_
    try simp only [tk0, tk1, tk2, tk3, tk4]
    refine take_dst 6 58 (.bool false) rfl (by kernel_rfl) (by kernel_rfl) (by kernel_rfl) (fun _ _ _ h => h) (Or.inl ⟨by rfl, by intro wv hSv; go_simp⟩) hd rfl ?_
    try simp only [tk0, tk1, tk2, tk3, tk4]
    refine take_dst 7 59 (.bool false) rfl (by kernel_rfl) (by kernel_rfl) (by kernel_rfl) (fun _ _ _ h => h) (Or.inl ⟨by rfl, by intro wv hSv; go_simp⟩) hd rfl ?_
    try simp only [tk0, tk1, tk2, tk3, tk4]
    refine take_dst 8 60 undef rfl (by kernel_rfl) (by kernel_rfl) (by kernel_rfl) (fun _ _ _ h => h) (Or.inr ⟨by rfl, rfl⟩) hd rfl ?_
    try simp only [tk0, tk1, tk2, tk3, tk4]
    refine take_dst 9 61 undef rfl (by kernel_rfl) (by kernel_rfl) (by kernel_rfl) (fun _ _ _ h => h) (Or.inr ⟨by rfl, rfl⟩) hd rfl ?_
    try simp only [tk0, tk1, tk2, tk3, tk4]
    refine take_dst 10 62 undef rfl (by kernel_rfl) (by kernel_rfl) (by kernel_rfl) (fun _ _ _ h => h) (Or.inr ⟨by rfl, rfl⟩) hd rfl ?_
    try simp only [tk0, tk1, tk2, tk3, tk4]
    refine take_dst 11 63 (.bool false) rfl (by kernel_rfl) (by kernel_rfl) (by kernel_rfl) (fun _ _ _ h => h) (Or.inl ⟨by rfl, by intro wv hSv; go_simp⟩) hd rfl ?_
    try simp only [tk0, tk1, tk2, tk3, tk4]
    refine take_dst 12 64 (.bool false) rfl (by kernel_rfl) (by kernel_rfl) (by kernel_rfl) (fun _ _ _ h => h) (Or.inl ⟨by rfl, by intro wv hSv; go_simp⟩) hd rfl ?_
    try simp only [tk0, tk1, tk2, tk3, tk4]
    refine take_dst 13 65 undef rfl (by kernel_rfl) (by kernel_rfl) (by kernel_rfl) (fun _ _ _ h => h) (Or.inr ⟨by rfl, rfl⟩) hd rfl ?_
    try simp only [tk0, tk1, tk2, tk3, tk4]
    refine take_dst 14 66 undef rfl (by kernel_rfl) (by kernel_rfl) (by kernel_rfl) (fun _ _ _ h => h) (Or.inr ⟨by rfl, rfl⟩) hd rfl ?_
    try simp only [tk0, tk1, tk2, tk3, tk4]
    refine take_dst 15 67 undef rfl (by kernel_rfl) (by kernel_rfl) (by kernel_rfl) (fun _ _ _ h => h) (Or.inr ⟨by rfl, rfl⟩) hd rfl ?_
    try simp only [tk0, tk1, tk2, tk3, tk4]
    refine take_dst 16 68 undef rfl (by kernel_rfl) (by kernel_rfl) (by kernel_rfl) (fun _ _ _ h => h) (Or.inr ⟨by rfl, rfl⟩) hd rfl ?_
    try simp only [tk0, tk1, tk2, tk3, tk4]
    refine take_dst 17 69 undef rfl (by kernel_rfl) (by kernel_rfl) (by kernel_rfl) (fun _ _ _ h => h) (Or.inr ⟨by rfl, rfl⟩) hd rfl ?_
    try simp only [tk0, tk1, tk2, tk3, tk4]
    refine take_dst 18 70 undef rfl (by kernel_rfl) (by kernel_rfl) (by kernel_rfl) (fun _ _ _ h => h) (Or.inr ⟨by rfl, rfl⟩) hd rfl ?_
    try simp only [tk0, tk1, tk2, tk3, tk4]
    refine take_dst 19 71 undef rfl (by kernel_rfl) (by kernel_rfl) (by kernel_rfl) (fun _ _ _ h => h) (Or.inr ⟨by rfl, rfl⟩) hd rfl ?_
    try simp only [tk0, tk1, tk2, tk3, tk4]
    refine take_dst 20 72 (.bool false) rfl (by kernel_rfl) (by kernel_rfl) (by kernel_rfl) (fun _ _ _ h => h) (Or.inl ⟨by rfl, by intro wv hSv; go_simp⟩) hd rfl ?_
    try simp only [tk0, tk1, tk2, tk3, tk4]
    refine wpAnyH_done (by kernel_rfl) ?_ _
    have hbF : Below w.heap.size w y.drew := hb9.trans (Below.mono (Below.refl y.heap.size y).drew hb9.size)
    have hBf : BxS w n p.regs a b c s y.drew := hB
    obtain ⟨z0, z1, z2, z3, z4, z5⟩ := id hBf
    clear hB hBf hk hd
    go_wp2_with (go_at_call 104; refine (l4Has_I _ _ _ hz (by omega)).mono ?_; rintro e y2 ⟨rfl, rfl⟩)
    all_goals go_ret
    all_goals exact ⟨⟨_, rfl, by rw [decide_eq_true_iff] <;> omega⟩, by assumption⟩
theorem regs_rst (n : Nat) (hn : n ≤ 63) (p : PD) (ac : Option Addr) (cc : Nat) (o4 : Option Addr) (c4 : Nat) (o5 : Option Addr) (c5 : Nat) (o8 : Option Addr) (c8 : Nat) (o9 : Option Addr) (c9 : Nat) (a b c s : Int) (w : World) (a1 : 0 ≤ a) (a2 : a ≤ 255) (b1 : 0 ≤ b) (b2 : b ≤ 511) (c1 : 0 ≤ c) (c2 : c ≤ 511) (l114 : hasC (useS n) 114 = true) (l110 : hasC (useS n) 110 = false) (l52 : hasC (useS n) 52 = false) (l115 : hasC (useS n) 115 = true) (l116 : hasC (useS n) 116 = true) (l118 : hasC (useS n) 118 = false) (l119 : hasC (useS n) 119 = false) :
    Calls Tryz.prog 101 #[prV p ac cc o4 c4 o5 c5 o8 c8 o9 c9, insV n a b c s] w fun e w' => Says e (max a (max b c) + 1 ≤ p.regs) ∧ Below w.heap.size w w' := by
  have hz := useS_size n (by omega)
  go_enter Tryz.func101, Tryz.ntmps101
  go_upto_region 13 with (first | (go_at_call 105; refine (l4Use_in n _ hn).mono ?_; rintro e y ⟨rfl, b9⟩; have hb9 := below2 b9; have hBl := (BxS.of b9).2; have hB := (BxS.of b9).1; obtain ⟨z0, z1, z2, z3, z4, z5⟩ := id hB; clear b9) | (go_at_call 104; refine (l4Has_I _ _ _ hz (by omega)).mono ?_; rintro e y2 ⟨rfl, rfl⟩))
  all_goals
    clear z0 z1 z2 z3 z4 z5
    have hk : Hid (∀ x, Below y.heap.size y x → BxS w n p.regs a b c s x) := fun x hx => BxS.later hB hBl hx
    have hd : BxS w n p.regs a b c s y.drew := hB
    refine wp_region_held_drew (S := BxS w n p.regs a b c s) (by kernel_rfl) hd (fun hH => ?_)
    refine take_dst 0 52 (.string (useS n)) rfl (by kernel_rfl) (by kernel_rfl) (by kernel_rfl) (fun _ _ _ h => h) (Or.inl ⟨by rfl, by intro wv hSv; go_simp⟩) hd rfl ?_
    try simp only [tk0, tk1, tk2, tk3, tk4]
    refine wpAnyH_ready (rs := [1]) (by kernel_rfl) (by simp) ?_
    refine AllReadyH.cons rfl (fun KK hKK => ?_) AllReadyH.nil
    go_simp
    refine (l4Has_I _ _ _ hz (by omega)).mono ?_
    rintro e y2 ⟨rfl, rfl⟩
    rw [l118]
    go_wp2_with fail
    refine hKK.out _ _ hd (fun _ => ?_)
    clear hKK KK
    try simp only [tk0, tk1, tk2, tk3, tk4]
    refine take_dst 2 54 (.bool false) rfl (by kernel_rfl) (by kernel_rfl) (by kernel_rfl) (fun _ _ _ h => h) (Or.inl ⟨by rfl, by intro wv hSv; go_simp⟩) hd rfl ?_
    try simp only [tk0, tk1, tk2, tk3, tk4]
    refine take_dst 3 55 undef rfl (by kernel_rfl) (by kernel_rfl) (by kernel_rfl) (fun _ _ _ h => h) (Or.inr ⟨by rfl, rfl⟩) hd rfl ?_
    try simp only [tk0, tk1, tk2, tk3, tk4]
    refine take_dst 4 56 undef rfl (by kernel_rfl) (by kernel_rfl) (by kernel_rfl) (fun _ _ _ h => h) (Or.inr ⟨by rfl, rfl⟩) hd rfl ?_
    try simp only [tk0, tk1, tk2, tk3, tk4]
    refine take_dst 5 57 undef rfl (by kernel_rfl) (by kernel_rfl) (by kernel_rfl) (fun _ _ _ h => h) (Or.inr ⟨by rfl, rfl⟩) hd rfl ?_
    try simp only [tk0, tk1, tk2, tk3, tk4]
    refine take_dst 6 58 (.bool false) rfl (by kernel_rfl) (by kernel_rfl) (by kernel_rfl) (fun _ _ _ h => h) (Or.inl ⟨by rfl, by intro wv hSv; go_simp⟩) hd rfl ?_
    try simp only [tk0, tk1, tk2, tk3, tk4]
    refine take_dst 7 59 (.bool false) rfl (by kernel_rfl) (by kernel_rfl) (by kernel_rfl) (fun _ _ _ h => h) (Or.inl ⟨by rfl, by intro wv hSv; go_simp⟩) hd rfl ?_
    try simp only [tk0, tk1, tk2, tk3, tk4]
    refine take_dst 8 60 undef rfl (by kernel_rfl) (by kernel_rfl) (by kernel_rfl) (fun _ _ _ h => h) (Or.inr ⟨by rfl, rfl⟩) hd rfl ?_
    try simp only [tk0, tk1, tk2, tk3, tk4]
    refine take_dst 9 61 undef rfl (by kernel_rfl) (by kernel_rfl) (by kernel_rfl) (fun _ _ _ h => h) (Or.inr ⟨by rfl, rfl⟩) hd rfl ?_
    try simp only [tk0, tk1, tk2, tk3, tk4]
    refine take_dst 10 62 undef rfl (by kernel_rfl) (by kernel_rfl) (by kernel_rfl) (fun _ _ _ h => h) (Or.inr ⟨by rfl, rfl⟩) hd rfl ?_
    try simp only [tk0, tk1, tk2, tk3, tk4]
    refine take_dst 11 63 (.bool false) rfl (by kernel_rfl) (by kernel_rfl) (by kernel_rfl) (fun _ _ _ h => h) (Or.inl ⟨by rfl, by intro wv hSv; go_simp⟩) hd rfl ?_
    try simp only [tk0, tk1, tk2, tk3, tk4]
    refine take_dst 12 64 (.bool false) rfl (by kernel_rfl) (by kernel_rfl) (by kernel_rfl) (fun _ _ _ h => h) (Or.inl ⟨by rfl, by intro wv hSv; go_simp⟩) hd rfl ?_
    try simp only [tk0, tk1, tk2, tk3, tk4]
    refine take_dst 13 65 undef rfl (by kernel_rfl) (by kernel_rfl) (by kernel_rfl) (fun _ _ _ h => h) (Or.inr ⟨by rfl, rfl⟩) hd rfl ?_
    try simp only [tk0, tk1, tk2, tk3, tk4]
    refine take_dst 14 66 undef rfl (by kernel_rfl) (by kernel_rfl) (by kernel_rfl) (fun _ _ _ h => h) (Or.inr ⟨by rfl, rfl⟩) hd rfl ?_
    try simp only [tk0, tk1, tk2, tk3, tk4]
    refine take_dst 15 67 undef rfl (by kernel_rfl) (by kernel_rfl) (by kernel_rfl) (fun _ _ _ h => h) (Or.inr ⟨by rfl, rfl⟩) hd rfl ?_
    try simp only [tk0, tk1, tk2, tk3, tk4]
    refine take_dst 16 68 undef rfl (by kernel_rfl) (by kernel_rfl) (by kernel_rfl) (fun _ _ _ h => h) (Or.inr ⟨by rfl, rfl⟩) hd rfl ?_
    try simp only [tk0, tk1, tk2, tk3, tk4]
    refine take_dst 17 69 undef rfl (by kernel_rfl) (by kernel_rfl) (by kernel_rfl) (fun _ _ _ h => h) (Or.inr ⟨by rfl, rfl⟩) hd rfl ?_
    try simp only [tk0, tk1, tk2, tk3, tk4]
    refine take_dst 18 70 undef rfl (by kernel_rfl) (by kernel_rfl) (by kernel_rfl) (fun _ _ _ h => h) (Or.inr ⟨by rfl, rfl⟩) hd rfl ?_
    try simp only [tk0, tk1, tk2, tk3, tk4]
    refine take_dst 19 71 undef rfl (by kernel_rfl) (by kernel_rfl) (by kernel_rfl) (fun _ _ _ h => h) (Or.inr ⟨by rfl, rfl⟩) hd rfl ?_
    try simp only [tk0, tk1, tk2, tk3, tk4]
    refine take_dst 20 72 (.bool false) rfl (by kernel_rfl) (by kernel_rfl) (by kernel_rfl) (fun _ _ _ h => h) (Or.inl ⟨by rfl, by intro wv hSv; go_simp⟩) hd rfl ?_
    try simp only [tk0, tk1, tk2, tk3, tk4]
    refine wpAnyH_done (by kernel_rfl) ?_ _
    have hbF : Below w.heap.size w y.drew := hb9.trans (Below.mono (Below.refl y.heap.size y).drew hb9.size)
    have hBf : BxS w n p.regs a b c s y.drew := hB
    obtain ⟨z0, z1, z2, z3, z4, z5⟩ := id hBf
    clear hB hBf hk hd
    go_wp2_with (go_at_call 104; refine (l4Has_I _ _ _ hz (by omega)).mono ?_; rintro e y2 ⟨rfl, rfl⟩)
    all_goals go_ret
    all_goals exact ⟨⟨_, rfl, by rw [decide_eq_true_iff] <;> omega⟩, by assumption⟩
theorem regs_j (n : Nat) (hn : n ≤ 63) (p : PD) (ac : Option Addr) (cc : Nat) (o4 : Option Addr) (c4 : Nat) (o5 : Option Addr) (c5 : Nat) (o8 : Option Addr) (c8 : Nat) (o9 : Option Addr) (c9 : Nat) (a b c s : Int) (w : World) (a1 : 0 ≤ a) (a2 : a ≤ 255) (b1 : 0 ≤ b) (b2 : b ≤ 511) (c1 : 0 ≤ c) (c2 : c ≤ 511) (l114 : hasC (useS n) 114 = false) (l110 : hasC (useS n) 110 = false) (l52 : hasC (useS n) 52 = false) (l115 : hasC (useS n) 115 = false) (l116 : hasC (useS n) 116 = false) (l118 : hasC (useS n) 118 = false) (l119 : hasC (useS n) 119 = false) :
    Calls Tryz.prog 101 #[prV p ac cc o4 c4 o5 c5 o8 c8 o9 c9, insV n a b c s] w fun e w' => Says e (0 ≤ p.regs) ∧ Below w.heap.size w w' := by
  have hz := useS_size n (by omega)
  go_enter Tryz.func101, Tryz.ntmps101
  go_upto_region 13 with (first | (go_at_call 105; refine (l4Use_in n _ hn).mono ?_; rintro e y ⟨rfl, b9⟩; have hb9 := below2 b9; have hBl := (BxS.of b9).2; have hB := (BxS.of b9).1; obtain ⟨z0, z1, z2, z3, z4, z5⟩ := id hB; clear b9) | (go_at_call 104; refine (l4Has_I _ _ _ hz (by omega)).mono ?_; rintro e y2 ⟨rfl, rfl⟩))
  all_goals
    clear z0 z1 z2 z3 z4 z5
    have hk : Hid (∀ x, Below y.heap.size y x → BxS w n p.regs a b c s x) := fun x hx => BxS.later hB hBl hx
    have hd : BxS w n p.regs a b c s y.drew := hB
    refine wp_region_held_drew (S := BxS w n p.regs a b c s) (by kernel_rfl) hd (fun hH => ?_)
    refine take_dst 0 52 (.string (useS n)) rfl (by kernel_rfl) (by kernel_rfl) (by kernel_rfl) (fun _ _ _ h => h) (Or.inl ⟨by rfl, by intro wv hSv; go_simp⟩) hd rfl ?_
    try simp only [tk0, tk1, tk2, tk3, tk4]
    refine wpAnyH_ready (rs := [1]) (by kernel_rfl) (by simp) ?_
    refine AllReadyH.cons rfl (fun KK hKK => ?_) AllReadyH.nil
    go_simp
    refine (l4Has_I _ _ _ hz (by omega)).mono ?_
    rintro e y2 ⟨rfl, rfl⟩
    rw [l118]
    go_wp2_with fail
    refine hKK.out _ _ hd (fun _ => ?_)
    clear hKK KK
    try simp only [tk0, tk1, tk2, tk3, tk4]
    refine take_dst 2 54 (.bool false) rfl (by kernel_rfl) (by kernel_rfl) (by kernel_rfl) (fun _ _ _ h => h) (Or.inl ⟨by rfl, by intro wv hSv; go_simp⟩) hd rfl ?_
    try simp only [tk0, tk1, tk2, tk3, tk4]
    refine take_dst 3 55 undef rfl (by kernel_rfl) (by kernel_rfl) (by kernel_rfl) (fun _ _ _ h => h) (Or.inr ⟨by rfl, rfl⟩) hd rfl ?_
    try simp only [tk0, tk1, tk2, tk3, tk4]
    refine take_dst 4 56 undef rfl (by kernel_rfl) (by kernel_rfl) (by kernel_rfl) (fun _ _ _ h => h) (Or.inr ⟨by rfl, rfl⟩) hd rfl ?_
    try simp only [tk0, tk1, tk2, tk3, tk4]
    refine take_dst 5 57 undef rfl (by kernel_rfl) (by kernel_rfl) (by kernel_rfl) (fun _ _ _ h => h) (Or.inr ⟨by rfl, rfl⟩) hd rfl ?_
    try simp only [tk0, tk1, tk2, tk3, tk4]
    refine take_dst 6 58 (.bool false) rfl (by kernel_rfl) (by kernel_rfl) (by kernel_rfl) (fun _ _ _ h => h) (Or.inl ⟨by rfl, by intro wv hSv; go_simp⟩) hd rfl ?_
    try simp only [tk0, tk1, tk2, tk3, tk4]
    refine take_dst 7 59 (.bool false) rfl (by kernel_rfl) (by kernel_rfl) (by kernel_rfl) (fun _ _ _ h => h) (Or.inl ⟨by rfl, by intro wv hSv; go_simp⟩) hd rfl ?_
    try simp only [tk0, tk1, tk2, tk3, tk4]
    refine take_dst 8 60 undef rfl (by kernel_rfl) (by kernel_rfl) (by kernel_rfl) (fun _ _ _ h => h) (Or.inr ⟨by rfl, rfl⟩) hd rfl ?_
    try simp only [tk0, tk1, tk2, tk3, tk4]
    refine take_dst 9 61 undef rfl (by kernel_rfl) (by kernel_rfl) (by kernel_rfl) (fun _ _ _ h => h) (Or.inr ⟨by rfl, rfl⟩) hd rfl ?_
    try simp only [tk0, tk1, tk2, tk3, tk4]
    refine take_dst 10 62 undef rfl (by kernel_rfl) (by kernel_rfl) (by kernel_rfl) (fun _ _ _ h => h) (Or.inr ⟨by rfl, rfl⟩) hd rfl ?_
    try simp only [tk0, tk1, tk2, tk3, tk4]
    refine take_dst 11 63 (.bool false) rfl (by kernel_rfl) (by kernel_rfl) (by kernel_rfl) (fun _ _ _ h => h) (Or.inl ⟨by rfl, by intro wv hSv; go_simp⟩) hd rfl ?_
    try simp only [tk0, tk1, tk2, tk3, tk4]
    refine take_dst 12 64 (.bool false) rfl (by kernel_rfl) (by kernel_rfl) (by kernel_rfl) (fun _ _ _ h => h) (Or.inl ⟨by rfl, by intro wv hSv; go_simp⟩) hd rfl ?_
    try simp only [tk0, tk1, tk2, tk3, tk4]
    refine take_dst 13 65 undef rfl (by kernel_rfl) (by kernel_rfl) (by kernel_rfl) (fun _ _ _ h => h) (Or.inr ⟨by rfl, rfl⟩) hd rfl ?_
    try simp only [tk0, tk1, tk2, tk3, tk4]
    refine take_dst 14 66 undef rfl (by kernel_rfl) (by kernel_rfl) (by kernel_rfl) (fun _ _ _ h => h) (Or.inr ⟨by rfl, rfl⟩) hd rfl ?_
    try simp only [tk0, tk1, tk2, tk3, tk4]
    refine take_dst 15 67 undef rfl (by kernel_rfl) (by kernel_rfl) (by kernel_rfl) (fun _ _ _ h => h) (Or.inr ⟨by rfl, rfl⟩) hd rfl ?_
    try simp only [tk0, tk1, tk2, tk3, tk4]
    refine take_dst 16 68 undef rfl (by kernel_rfl) (by kernel_rfl) (by kernel_rfl) (fun _ _ _ h => h) (Or.inr ⟨by rfl, rfl⟩) hd rfl ?_
    try simp only [tk0, tk1, tk2, tk3, tk4]
    refine take_dst 17 69 undef rfl (by kernel_rfl) (by kernel_rfl) (by kernel_rfl) (fun _ _ _ h => h) (Or.inr ⟨by rfl, rfl⟩) hd rfl ?_
    try simp only [tk0, tk1, tk2, tk3, tk4]
    refine take_dst 18 70 undef rfl (by kernel_rfl) (by kernel_rfl) (by kernel_rfl) (fun _ _ _ h => h) (Or.inr ⟨by rfl, rfl⟩) hd rfl ?_
    try simp only [tk0, tk1, tk2, tk3, tk4]
    refine take_dst 19 71 undef rfl (by kernel_rfl) (by kernel_rfl) (by kernel_rfl) (fun _ _ _ h => h) (Or.inr ⟨by rfl, rfl⟩) hd rfl ?_
    try simp only [tk0, tk1, tk2, tk3, tk4]
    refine take_dst 20 72 (.bool false) rfl (by kernel_rfl) (by kernel_rfl) (by kernel_rfl) (fun _ _ _ h => h) (Or.inl ⟨by rfl, by intro wv hSv; go_simp⟩) hd rfl ?_
    try simp only [tk0, tk1, tk2, tk3, tk4]
    refine wpAnyH_done (by kernel_rfl) ?_ _
    have hbF : Below w.heap.size w y.drew := hb9.trans (Below.mono (Below.refl y.heap.size y).drew hb9.size)
    have hBf : BxS w n p.regs a b c s y.drew := hB
    obtain ⟨z0, z1, z2, z3, z4, z5⟩ := id hBf
    clear hB hBf hk hd
    go_wp2_with (go_at_call 104; refine (l4Has_I _ _ _ hz (by omega)).mono ?_; rintro e y2 ⟨rfl, rfl⟩)
    all_goals go_ret
    all_goals exact ⟨⟨_, rfl, by rw [decide_eq_true_iff] <;> omega⟩, by assumption⟩
theorem regs_ostp (n : Nat) (hn : n ≤ 63) (p : PD) (ac : Option Addr) (cc : Nat) (o4 : Option Addr) (c4 : Nat) (o5 : Option Addr) (c5 : Nat) (o8 : Option Addr) (c8 : Nat) (o9 : Option Addr) (c9 : Nat) (a b c s : Int) (w : World) (a1 : 0 ≤ a) (a2 : a ≤ 255) (b1 : 0 ≤ b) (b2 : b ≤ 511) (c1 : 0 ≤ c) (c2 : c ≤ 511) (l114 : hasC (useS n) 114 = false) (l110 : hasC (useS n) 110 = false) (l52 : hasC (useS n) 52 = false) (l115 : hasC (useS n) 115 = true) (l116 : hasC (useS n) 116 = true) (l118 : hasC (useS n) 118 = false) (l119 : hasC (useS n) 119 = false) :
    Calls Tryz.prog 101 #[prV p ac cc o4 c4 o5 c5 o8 c8 o9 c9, insV n a b c s] w fun e w' => Says e (max b c + 1 ≤ p.regs) ∧ Below w.heap.size w w' := by
  have hz := useS_size n (by omega)
  go_enter Tryz.func101, Tryz.ntmps101
  go_upto_region 13 with (first | (go_at_call 105; refine (l4Use_in n _ hn).mono ?_; rintro e y ⟨rfl, b9⟩; have hb9 := below2 b9; have hBl := (BxS.of b9).2; have hB := (BxS.of b9).1; obtain ⟨z0, z1, z2, z3, z4, z5⟩ := id hB; clear b9) | (go_at_call 104; refine (l4Has_I _ _ _ hz (by omega)).mono ?_; rintro e y2 ⟨rfl, rfl⟩))
  all_goals
    clear z0 z1 z2 z3 z4 z5
    have hk : Hid (∀ x, Below y.heap.size y x → BxS w n p.regs a b c s x) := fun x hx => BxS.later hB hBl hx
    have hd : BxS w n p.regs a b c s y.drew := hB
    refine wp_region_held_drew (S := BxS w n p.regs a b c s) (by kernel_rfl) hd (fun hH => ?_)
    refine take_dst 0 52 (.string (useS n)) rfl (by kernel_rfl) (by kernel_rfl) (by kernel_rfl) (fun _ _ _ h => h) (Or.inl ⟨by rfl, by intro wv hSv; go_simp⟩) hd rfl ?_
    try simp only [tk0, tk1, tk2, tk3, tk4]
    refine wpAnyH_ready (rs := [1]) (by kernel_rfl) (by simp) ?_
    refine AllReadyH.cons rfl (fun KK hKK => ?_) AllReadyH.nil
    go_simp
    refine (l4Has_I _ _ _ hz (by omega)).mono ?_
    rintro e y2 ⟨rfl, rfl⟩
    rw [l118]
    go_wp2_with fail
    refine hKK.out _ _ hd (fun _ => ?_)
    clear hKK KK
    try simp only [tk0, tk1, tk2, tk3, tk4]
    refine take_dst 2 54 (.bool false) rfl (by kernel_rfl) (by kernel_rfl) (by kernel_rfl) (fun _ _ _ h => h) (Or.inl ⟨by rfl, by intro wv hSv; go_simp⟩) hd rfl ?_
    try simp only [tk0, tk1, tk2, tk3, tk4]
    refine take_dst 3 55 undef rfl (by kernel_rfl) (by kernel_rfl) (by kernel_rfl) (fun _ _ _ h => h) (Or.inr ⟨by rfl, rfl⟩) hd rfl ?_
    try simp only [tk0, tk1, tk2, tk3, tk4]
    refine take_dst 4 56 undef rfl (by kernel_rfl) (by kernel_rfl) (by kernel_rfl) (fun _ _ _ h => h) (Or.inr ⟨by rfl, rfl⟩) hd rfl ?_
    try simp only [tk0, tk1, tk2, tk3, tk4]
    refine take_dst 5 57 undef rfl (by kernel_rfl) (by kernel_rfl) (by kernel_rfl) (fun _ _ _ h => h) (Or.inr ⟨by rfl, rfl⟩) hd rfl ?_
    try simp only [tk0, tk1, tk2, tk3, tk4]
    refine take_dst 6 58 (.bool false) rfl (by kernel_rfl) (by kernel_rfl) (by kernel_rfl) (fun _ _ _ h => h) (Or.inl ⟨by rfl, by intro wv hSv; go_simp⟩) hd rfl ?_
    try simp only [tk0, tk1, tk2, tk3, tk4]
    refine take_dst 7 59 (.bool false) rfl (by kernel_rfl) (by kernel_rfl) (by kernel_rfl) (fun _ _ _ h => h) (Or.inl ⟨by rfl, by intro wv hSv; go_simp⟩) hd rfl ?_
    try simp only [tk0, tk1, tk2, tk3, tk4]
    refine take_dst 8 60 undef rfl (by kernel_rfl) (by kernel_rfl) (by kernel_rfl) (fun _ _ _ h => h) (Or.inr ⟨by rfl, rfl⟩) hd rfl ?_
    try simp only [tk0, tk1, tk2, tk3, tk4]
    refine take_dst 9 61 undef rfl (by kernel_rfl) (by kernel_rfl) (by kernel_rfl) (fun _ _ _ h => h) (Or.inr ⟨by rfl, rfl⟩) hd rfl ?_
    try simp only [tk0, tk1, tk2, tk3, tk4]
    refine take_dst 10 62 undef rfl (by kernel_rfl) (by kernel_rfl) (by kernel_rfl) (fun _ _ _ h => h) (Or.inr ⟨by rfl, rfl⟩) hd rfl ?_
    try simp only [tk0, tk1, tk2, tk3, tk4]
    refine take_dst 11 63 (.bool false) rfl (by kernel_rfl) (by kernel_rfl) (by kernel_rfl) (fun _ _ _ h => h) (Or.inl ⟨by rfl, by intro wv hSv; go_simp⟩) hd rfl ?_
    try simp only [tk0, tk1, tk2, tk3, tk4]
    refine take_dst 12 64 (.bool false) rfl (by kernel_rfl) (by kernel_rfl) (by kernel_rfl) (fun _ _ _ h => h) (Or.inl ⟨by rfl, by intro wv hSv; go_simp⟩) hd rfl ?_
    try simp only [tk0, tk1, tk2, tk3, tk4]
    refine take_dst 13 65 undef rfl (by kernel_rfl) (by kernel_rfl) (by kernel_rfl) (fun _ _ _ h => h) (Or.inr ⟨by rfl, rfl⟩) hd rfl ?_
    try simp only [tk0, tk1, tk2, tk3, tk4]
    refine take_dst 14 66 undef rfl (by kernel_rfl) (by kernel_rfl) (by kernel_rfl) (fun _ _ _ h => h) (Or.inr ⟨by rfl, rfl⟩) hd rfl ?_
    try simp only [tk0, tk1, tk2, tk3, tk4]
    refine take_dst 15 67 undef rfl (by kernel_rfl) (by kernel_rfl) (by kernel_rfl) (fun _ _ _ h => h) (Or.inr ⟨by rfl, rfl⟩) hd rfl ?_
    try simp only [tk0, tk1, tk2, tk3, tk4]
    refine take_dst 16 68 undef rfl (by kernel_rfl) (by kernel_rfl) (by kernel_rfl) (fun _ _ _ h => h) (Or.inr ⟨by rfl, rfl⟩) hd rfl ?_
    try simp only [tk0, tk1, tk2, tk3, tk4]
    refine take_dst 17 69 undef rfl (by kernel_rfl) (by kernel_rfl) (by kernel_rfl) (fun _ _ _ h => h) (Or.inr ⟨by rfl, rfl⟩) hd rfl ?_
    try simp only [tk0, tk1, tk2, tk3, tk4]
    refine take_dst 18 70 undef rfl (by kernel_rfl) (by kernel_rfl) (by kernel_rfl) (fun _ _ _ h => h) (Or.inr ⟨by rfl, rfl⟩) hd rfl ?_
    try simp only [tk0, tk1, tk2, tk3, tk4]
    refine take_dst 19 71 undef rfl (by kernel_rfl) (by kernel_rfl) (by kernel_rfl) (fun _ _ _ h => h) (Or.inr ⟨by rfl, rfl⟩) hd rfl ?_
    try simp only [tk0, tk1, tk2, tk3, tk4]
    refine take_dst 20 72 (.bool false) rfl (by kernel_rfl) (by kernel_rfl) (by kernel_rfl) (fun _ _ _ h => h) (Or.inl ⟨by rfl, by intro wv hSv; go_simp⟩) hd rfl ?_
    try simp only [tk0, tk1, tk2, tk3, tk4]
    refine wpAnyH_done (by kernel_rfl) ?_ _
    have hbF : Below w.heap.size w y.drew := hb9.trans (Below.mono (Below.refl y.heap.size y).drew hb9.size)
    have hBf : BxS w n p.regs a b c s y.drew := hB
    obtain ⟨z0, z1, z2, z3, z4, z5⟩ := id hBf
    clear hB hBf hk hd
    go_wp2_with (go_at_call 104; refine (l4Has_I _ _ _ hz (by omega)).mono ?_; rintro e y2 ⟨rfl, rfl⟩)
    all_goals go_ret
    all_goals exact ⟨⟨_, rfl, by rw [decide_eq_true_iff] <;> omega⟩, by assumption⟩
theorem regs_rdp (n : Nat) (hn : n ≤ 63) (p : PD) (ac : Option Addr) (cc : Nat) (o4 : Option Addr) (c4 : Nat) (o5 : Option Addr) (c5 : Nat) (o8 : Option Addr) (c8 : Nat) (o9 : Option Addr) (c9 : Nat) (a b c s : Int) (w : World) (a1 : 0 ≤ a) (a2 : a ≤ 255) (b1 : 0 ≤ b) (b2 : b ≤ 511) (c1 : 0 ≤ c) (c2 : c ≤ 511) (l114 : hasC (useS n) 114 = true) (l110 : hasC (useS n) 110 = false) (l52 : hasC (useS n) 52 = false) (l115 : hasC (useS n) 115 = false) (l116 : hasC (useS n) 116 = false) (l118 : hasC (useS n) 118 = false) (l119 : hasC (useS n) 119 = false) :
    Calls Tryz.prog 101 #[prV p ac cc o4 c4 o5 c5 o8 c8 o9 c9, insV n a b c s] w fun e w' => Says e (a + 1 ≤ p.regs) ∧ Below w.heap.size w w' := by
  have hz := useS_size n (by omega)
  go_enter Tryz.func101, Tryz.ntmps101
  go_upto_region 13 with (first | (go_at_call 105; refine (l4Use_in n _ hn).mono ?_; rintro e y ⟨rfl, b9⟩; have hb9 := below2 b9; have hBl := (BxS.of b9).2; have hB := (BxS.of b9).1; obtain ⟨z0, z1, z2, z3, z4, z5⟩ := id hB; clear b9) | (go_at_call 104; refine (l4Has_I _ _ _ hz (by omega)).mono ?_; rintro e y2 ⟨rfl, rfl⟩))
  all_goals
    clear z0 z1 z2 z3 z4 z5
    have hk : Hid (∀ x, Below y.heap.size y x → BxS w n p.regs a b c s x) := fun x hx => BxS.later hB hBl hx
    have hd : BxS w n p.regs a b c s y.drew := hB
    refine wp_region_held_drew (S := BxS w n p.regs a b c s) (by kernel_rfl) hd (fun hH => ?_)
    refine take_dst 0 52 (.string (useS n)) rfl (by kernel_rfl) (by kernel_rfl) (by kernel_rfl) (fun _ _ _ h => h) (Or.inl ⟨by rfl, by intro wv hSv; go_simp⟩) hd rfl ?_
    try simp only [tk0, tk1, tk2, tk3, tk4]
    refine wpAnyH_ready (rs := [1]) (by kernel_rfl) (by simp) ?_
    refine AllReadyH.cons rfl (fun KK hKK => ?_) AllReadyH.nil
    go_simp
    refine (l4Has_I _ _ _ hz (by omega)).mono ?_
    rintro e y2 ⟨rfl, rfl⟩
    rw [l118]
    go_wp2_with fail
    refine hKK.out _ _ hd (fun _ => ?_)
    clear hKK KK
    try simp only [tk0, tk1, tk2, tk3, tk4]
    refine take_dst 2 54 (.bool false) rfl (by kernel_rfl) (by kernel_rfl) (by kernel_rfl) (fun _ _ _ h => h) (Or.inl ⟨by rfl, by intro wv hSv; go_simp⟩) hd rfl ?_
    try simp only [tk0, tk1, tk2, tk3, tk4]
    refine take_dst 3 55 undef rfl (by kernel_rfl) (by kernel_rfl) (by kernel_rfl) (fun _ _ _ h => h) (Or.inr ⟨by rfl, rfl⟩) hd rfl ?_
    try simp only [tk0, tk1, tk2, tk3, tk4]
    refine take_dst 4 56 undef rfl (by kernel_rfl) (by kernel_rfl) (by kernel_rfl) (fun _ _ _ h => h) (Or.inr ⟨by rfl, rfl⟩) hd rfl ?_
    try simp only [tk0, tk1, tk2, tk3, tk4]
    refine take_dst 5 57 undef rfl (by kernel_rfl) (by kernel_rfl) (by kernel_rfl) (fun _ _ _ h => h) (Or.inr ⟨by rfl, rfl⟩) hd rfl ?_
    try simp only [tk0, tk1, tk2, tk3, tk4]
    refine take_dst 6 58 (.bool false) rfl (by kernel_rfl) (by kernel_rfl) (by kernel_rfl) (fun _ _ _ h => h) (Or.inl ⟨by rfl, by intro wv hSv; go_simp⟩) hd rfl ?_
    try simp only [tk0, tk1, tk2, tk3, tk4]
    refine take_dst 7 59 (.bool false) rfl (by kernel_rfl) (by kernel_rfl) (by kernel_rfl) (fun _ _ _ h => h) (Or.inl ⟨by rfl, by intro wv hSv; go_simp⟩) hd rfl ?_
    try simp only [tk0, tk1, tk2, tk3, tk4]
    refine take_dst 8 60 undef rfl (by kernel_rfl) (by kernel_rfl) (by kernel_rfl) (fun _ _ _ h => h) (Or.inr ⟨by rfl, rfl⟩) hd rfl ?_
    try simp only [tk0, tk1, tk2, tk3, tk4]
    refine take_dst 9 61 undef rfl (by kernel_rfl) (by kernel_rfl) (by kernel_rfl) (fun _ _ _ h => h) (Or.inr ⟨by rfl, rfl⟩) hd rfl ?_
    try simp only [tk0, tk1, tk2, tk3, tk4]
    refine take_dst 10 62 undef rfl (by kernel_rfl) (by kernel_rfl) (by kernel_rfl) (fun _ _ _ h => h) (Or.inr ⟨by rfl, rfl⟩) hd rfl ?_
    try simp only [tk0, tk1, tk2, tk3, tk4]
    refine take_dst 11 63 (.bool false) rfl (by kernel_rfl) (by kernel_rfl) (by kernel_rfl) (fun _ _ _ h => h) (Or.inl ⟨by rfl, by intro wv hSv; go_simp⟩) hd rfl ?_
    try simp only [tk0, tk1, tk2, tk3, tk4]
    refine take_dst 12 64 (.bool false) rfl (by kernel_rfl) (by kernel_rfl) (by kernel_rfl) (fun _ _ _ h => h) (Or.inl ⟨by rfl, by intro wv hSv; go_simp⟩) hd rfl ?_
    try simp only [tk0, tk1, tk2, tk3, tk4]
    refine take_dst 13 65 undef rfl (by kernel_rfl) (by kernel_rfl) (by kernel_rfl) (fun _ _ _ h => h) (Or.inr ⟨by rfl, rfl⟩) hd rfl ?_
    try simp only [tk0, tk1, tk2, tk3, tk4]
    refine take_dst 14 66 undef rfl (by kernel_rfl) (by kernel_rfl) (by kernel_rfl) (fun _ _ _ h => h) (Or.inr ⟨by rfl, rfl⟩) hd rfl ?_
    try simp only [tk0, tk1, tk2, tk3, tk4]
    refine take_dst 15 67 undef rfl (by kernel_rfl) (by kernel_rfl) (by kernel_rfl) (fun _ _ _ h => h) (Or.inr ⟨by rfl, rfl⟩) hd rfl ?_
    try simp only [tk0, tk1, tk2, tk3, tk4]
    refine take_dst 16 68 undef rfl (by kernel_rfl) (by kernel_rfl) (by kernel_rfl) (fun _ _ _ h => h) (Or.inr ⟨by rfl, rfl⟩) hd rfl ?_
    try simp only [tk0, tk1, tk2, tk3, tk4]
    refine take_dst 17 69 undef rfl (by kernel_rfl) (by kernel_rfl) (by kernel_rfl) (fun _ _ _ h => h) (Or.inr ⟨by rfl, rfl⟩) hd rfl ?_
    try simp only [tk0, tk1, tk2, tk3, tk4]
    refine take_dst 18 70 undef rfl (by kernel_rfl) (by kernel_rfl) (by kernel_rfl) (fun _ _ _ h => h) (Or.inr ⟨by rfl, rfl⟩) hd rfl ?_
    try simp only [tk0, tk1, tk2, tk3, tk4]
    refine take_dst 19 71 undef rfl (by kernel_rfl) (by kernel_rfl) (by kernel_rfl) (fun _ _ _ h => h) (Or.inr ⟨by rfl, rfl⟩) hd rfl ?_
    try simp only [tk0, tk1, tk2, tk3, tk4]
    refine take_dst 20 72 (.bool false) rfl (by kernel_rfl) (by kernel_rfl) (by kernel_rfl) (fun _ _ _ h => h) (Or.inl ⟨by rfl, by intro wv hSv; go_simp⟩) hd rfl ?_
    try simp only [tk0, tk1, tk2, tk3, tk4]
    refine wpAnyH_done (by kernel_rfl) ?_ _
    have hbF : Below w.heap.size w y.drew := hb9.trans (Below.mono (Below.refl y.heap.size y).drew hb9.size)
    have hBf : BxS w n p.regs a b c s y.drew := hB
    obtain ⟨z0, z1, z2, z3, z4, z5⟩ := id hBf
    clear hB hBf hk hd
    go_wp2_with (go_at_call 104; refine (l4Has_I _ _ _ hz (by omega)).mono ?_; rintro e y2 ⟨rfl, rfl⟩)
    all_goals go_ret
    all_goals exact ⟨⟨_, rfl, by rw [decide_eq_true_iff] <;> omega⟩, by assumption⟩
theorem regs_rc (n : Nat) (hn : n ≤ 63) (p : PD) (ac : Option Addr) (cc : Nat) (o4 : Option Addr) (c4 : Nat) (o5 : Option Addr) (c5 : Nat) (o8 : Option Addr) (c8 : Nat) (o9 : Option Addr) (c9 : Nat) (a b c s : Int) (w : World) (a1 : 0 ≤ a) (a2 : a ≤ 255) (b1 : 0 ≤ b) (b2 : b ≤ 511) (c1 : 0 ≤ c) (c2 : c ≤ 511) (l114 : hasC (useS n) 114 = true) (l110 : hasC (useS n) 110 = false) (l52 : hasC (useS n) 52 = false) (l115 : hasC (useS n) 115 = false) (l116 : hasC (useS n) 116 = false) (l118 : hasC (useS n) 118 = false) (l119 : hasC (useS n) 119 = false) :
    Calls Tryz.prog 101 #[prV p ac cc o4 c4 o5 c5 o8 c8 o9 c9, insV n a b c s] w fun e w' => Says e (a + 1 ≤ p.regs) ∧ Below w.heap.size w w' := by
  have hz := useS_size n (by omega)
  go_enter Tryz.func101, Tryz.ntmps101
  go_upto_region 13 with (first | (go_at_call 105; refine (l4Use_in n _ hn).mono ?_; rintro e y ⟨rfl, b9⟩; have hb9 := below2 b9; have hBl := (BxS.of b9).2; have hB := (BxS.of b9).1; obtain ⟨z0, z1, z2, z3, z4, z5⟩ := id hB; clear b9) | (go_at_call 104; refine (l4Has_I _ _ _ hz (by omega)).mono ?_; rintro e y2 ⟨rfl, rfl⟩))
  all_goals
    clear z0 z1 z2 z3 z4 z5
    have hk : Hid (∀ x, Below y.heap.size y x → BxS w n p.regs a b c s x) := fun x hx => BxS.later hB hBl hx
    have hd : BxS w n p.regs a b c s y.drew := hB
    refine wp_region_held_drew (S := BxS w n p.regs a b c s) (by kernel_rfl) hd (fun hH => ?_)
    refine take_dst 0 52 (.string (useS n)) rfl (by kernel_rfl) (by kernel_rfl) (by kernel_rfl) (fun _ _ _ h => h) (Or.inl ⟨by rfl, by intro wv hSv; go_simp⟩) hd rfl ?_
    try simp only [tk0, tk1, tk2, tk3, tk4]
    refine wpAnyH_ready (rs := [1]) (by kernel_rfl) (by simp) ?_
    refine AllReadyH.cons rfl (fun KK hKK => ?_) AllReadyH.nil
    go_simp
    refine (l4Has_I _ _ _ hz (by omega)).mono ?_
    rintro e y2 ⟨rfl, rfl⟩
    rw [l118]
    go_wp2_with fail
    refine hKK.out _ _ hd (fun _ => ?_)
    clear hKK KK
    try simp only [tk0, tk1, tk2, tk3, tk4]
    refine take_dst 2 54 (.bool false) rfl (by kernel_rfl) (by kernel_rfl) (by kernel_rfl) (fun _ _ _ h => h) (Or.inl ⟨by rfl, by intro wv hSv; go_simp⟩) hd rfl ?_
    try simp only [tk0, tk1, tk2, tk3, tk4]
    refine take_dst 3 55 undef rfl (by kernel_rfl) (by kernel_rfl) (by kernel_rfl) (fun _ _ _ h => h) (Or.inr ⟨by rfl, rfl⟩) hd rfl ?_
    try simp only [tk0, tk1, tk2, tk3, tk4]
    refine take_dst 4 56 undef rfl (by kernel_rfl) (by kernel_rfl) (by kernel_rfl) (fun _ _ _ h => h) (Or.inr ⟨by rfl, rfl⟩) hd rfl ?_
    try simp only [tk0, tk1, tk2, tk3, tk4]
    refine take_dst 5 57 undef rfl (by kernel_rfl) (by kernel_rfl) (by kernel_rfl) (fun _ _ _ h => h) (Or.inr ⟨by rfl, rfl⟩) hd rfl ?_
    try simp only [tk0, tk1, tk2, tk3, tk4]
    refine take_dst 6 58 (.bool false) rfl (by kernel_rfl) (by kernel_rfl) (by kernel_rfl) (fun _ _ _ h => h) (Or.inl ⟨by rfl, by intro wv hSv; go_simp⟩) hd rfl ?_
    try simp only [tk0, tk1, tk2, tk3, tk4]
    refine take_dst 7 59 (.bool false) rfl (by kernel_rfl) (by kernel_rfl) (by kernel_rfl) (fun _ _ _ h => h) (Or.inl ⟨by rfl, by intro wv hSv; go_simp⟩) hd rfl ?_
    try simp only [tk0, tk1, tk2, tk3, tk4]
    refine take_dst 8 60 undef rfl (by kernel_rfl) (by kernel_rfl) (by kernel_rfl) (fun _ _ _ h => h) (Or.inr ⟨by rfl, rfl⟩) hd rfl ?_
    try simp only [tk0, tk1, tk2, tk3, tk4]
    refine take_dst 9 61 undef rfl (by kernel_rfl) (by kernel_rfl) (by kernel_rfl) (fun _ _ _ h => h) (Or.inr ⟨by rfl, rfl⟩) hd rfl ?_
    try simp only [tk0, tk1, tk2, tk3, tk4]
    refine take_dst 10 62 undef rfl (by kernel_rfl) (by kernel_rfl) (by kernel_rfl) (fun _ _ _ h => h) (Or.inr ⟨by rfl, rfl⟩) hd rfl ?_
    try simp only [tk0, tk1, tk2, tk3, tk4]
    refine take_dst 11 63 (.bool false) rfl (by kernel_rfl) (by kernel_rfl) (by kernel_rfl) (fun _ _ _ h => h) (Or.inl ⟨by rfl, by intro wv hSv; go_simp⟩) hd rfl ?_
    try simp only [tk0, tk1, tk2, tk3, tk4]
    refine take_dst 12 64 (.bool false) rfl (by kernel_rfl) (by kernel_rfl) (by kernel_rfl) (fun _ _ _ h => h) (Or.inl ⟨by rfl, by intro wv hSv; go_simp⟩) hd rfl ?_
    try simp only [tk0, tk1, tk2, tk3, tk4]
    refine take_dst 13 65 undef rfl (by kernel_rfl) (by kernel_rfl) (by kernel_rfl) (fun _ _ _ h => h) (Or.inr ⟨by rfl, rfl⟩) hd rfl ?_
    try simp only [tk0, tk1, tk2, tk3, tk4]
    refine take_dst 14 66 undef rfl (by kernel_rfl) (by kernel_rfl) (by kernel_rfl) (fun _ _ _ h => h) (Or.inr ⟨by rfl, rfl⟩) hd rfl ?_
    try simp only [tk0, tk1, tk2, tk3, tk4]
    refine take_dst 15 67 undef rfl (by kernel_rfl) (by kernel_rfl) (by kernel_rfl) (fun _ _ _ h => h) (Or.inr ⟨by rfl, rfl⟩) hd rfl ?_
    try simp only [tk0, tk1, tk2, tk3, tk4]
    refine take_dst 16 68 undef rfl (by kernel_rfl) (by kernel_rfl) (by kernel_rfl) (fun _ _ _ h => h) (Or.inr ⟨by rfl, rfl⟩) hd rfl ?_
    try simp only [tk0, tk1, tk2, tk3, tk4]
    refine take_dst 17 69 undef rfl (by kernel_rfl) (by kernel_rfl) (by kernel_rfl) (fun _ _ _ h => h) (Or.inr ⟨by rfl, rfl⟩) hd rfl ?_
    try simp only [tk0, tk1, tk2, tk3, tk4]
    refine take_dst 18 70 undef rfl (by kernel_rfl) (by kernel_rfl) (by kernel_rfl) (fun _ _ _ h => h) (Or.inr ⟨by rfl, rfl⟩) hd rfl ?_
    try simp only [tk0, tk1, tk2, tk3, tk4]
    refine take_dst 19 71 undef rfl (by kernel_rfl) (by kernel_rfl) (by kernel_rfl) (fun _ _ _ h => h) (Or.inr ⟨by rfl, rfl⟩) hd rfl ?_
    try simp only [tk0, tk1, tk2, tk3, tk4]
    refine take_dst 20 72 (.bool false) rfl (by kernel_rfl) (by kernel_rfl) (by kernel_rfl) (fun _ _ _ h => h) (Or.inl ⟨by rfl, by intro wv hSv; go_simp⟩) hd rfl ?_
    try simp only [tk0, tk1, tk2, tk3, tk4]
    refine wpAnyH_done (by kernel_rfl) ?_ _
    have hbF : Below w.heap.size w y.drew := hb9.trans (Below.mono (Below.refl y.heap.size y).drew hb9.size)
    have hBf : BxS w n p.regs a b c s y.drew := hB
    obtain ⟨z0, z1, z2, z3, z4, z5⟩ := id hBf
    clear hB hBf hk hd
    go_wp2_with (go_at_call 104; refine (l4Has_I _ _ _ hz (by omega)).mono ?_; rintro e y2 ⟨rfl, rfl⟩)
    all_goals go_ret
    all_goals exact ⟨⟨_, rfl, by rw [decide_eq_true_iff] <;> omega⟩, by assumption⟩
theorem regs_qjh (n : Nat) (hn : n ≤ 63) (p : PD) (ac : Option Addr) (cc : Nat) (o4 : Option Addr) (c4 : Nat) (o5 : Option Addr) (c5 : Nat) (o8 : Option Addr) (c8 : Nat) (o9 : Option Addr) (c9 : Nat) (a b c s : Int) (w : World) (a1 : 0 ≤ a) (a2 : a ≤ 255) (b1 : 0 ≤ b) (b2 : b ≤ 511) (c1 : 0 ≤ c) (c2 : c ≤ 511) (l114 : hasC (useS n) 114 = false) (l110 : hasC (useS n) 110 = false) (l52 : hasC (useS n) 52 = true) (l115 : hasC (useS n) 115 = false) (l116 : hasC (useS n) 116 = false) (l118 : hasC (useS n) 118 = false) (l119 : hasC (useS n) 119 = false) :
    Calls Tryz.prog 101 #[prV p ac cc o4 c4 o5 c5 o8 c8 o9 c9, insV n a b c s] w fun e w' => Says e (a + 4 ≤ p.regs) ∧ Below w.heap.size w w' := by
  have hz := useS_size n (by omega)
  go_enter Tryz.func101, Tryz.ntmps101
  go_upto_region 13 with (first | (go_at_call 105; refine (l4Use_in n _ hn).mono ?_; rintro e y ⟨rfl, b9⟩; have hb9 := below2 b9; have hBl := (BxS.of b9).2; have hB := (BxS.of b9).1; obtain ⟨z0, z1, z2, z3, z4, z5⟩ := id hB; clear b9) | (go_at_call 104; refine (l4Has_I _ _ _ hz (by omega)).mono ?_; rintro e y2 ⟨rfl, rfl⟩))
  all_goals
    clear z0 z1 z2 z3 z4 z5
    have hk : Hid (∀ x, Below y.heap.size y x → BxS w n p.regs a b c s x) := fun x hx => BxS.later hB hBl hx
    have hd : BxS w n p.regs a b c s y.drew := hB
    refine wp_region_held_drew (S := BxS w n p.regs a b c s) (by kernel_rfl) hd (fun hH => ?_)
    refine take_dst 0 52 (.string (useS n)) rfl (by kernel_rfl) (by kernel_rfl) (by kernel_rfl) (fun _ _ _ h => h) (Or.inl ⟨by rfl, by intro wv hSv; go_simp⟩) hd rfl ?_
    try simp only [tk0, tk1, tk2, tk3, tk4]
    refine wpAnyH_ready (rs := [1]) (by kernel_rfl) (by simp) ?_
    refine AllReadyH.cons rfl (fun KK hKK => ?_) AllReadyH.nil
    go_simp
    refine (l4Has_I _ _ _ hz (by omega)).mono ?_
    rintro e y2 ⟨rfl, rfl⟩
    rw [l118]
    go_wp2_with fail
    refine hKK.out _ _ hd (fun _ => ?_)
    clear hKK KK
    try simp only [tk0, tk1, tk2, tk3, tk4]
    refine take_dst 2 54 (.bool false) rfl (by kernel_rfl) (by kernel_rfl) (by kernel_rfl) (fun _ _ _ h => h) (Or.inl ⟨by rfl, by intro wv hSv; go_simp⟩) hd rfl ?_
    try simp only [tk0, tk1, tk2, tk3, tk4]
    refine take_dst 3 55 undef rfl (by kernel_rfl) (by kernel_rfl) (by kernel_rfl) (fun _ _ _ h => h) (Or.inr ⟨by rfl, rfl⟩) hd rfl ?_
    try simp only [tk0, tk1, tk2, tk3, tk4]
    refine take_dst 4 56 undef rfl (by kernel_rfl) (by kernel_rfl) (by kernel_rfl) (fun _ _ _ h => h) (Or.inr ⟨by rfl, rfl⟩) hd rfl ?_
    try simp only [tk0, tk1, tk2, tk3, tk4]
    refine take_dst 5 57 undef rfl (by kernel_rfl) (by kernel_rfl) (by kernel_rfl) (fun _ _ _ h => h) (Or.inr ⟨by rfl, rfl⟩) hd rfl ?_
    try simp only [tk0, tk1, tk2, tk3, tk4]
    refine take_dst 6 58 (.bool false) rfl (by kernel_rfl) (by kernel_rfl) (by kernel_rfl) (fun _ _ _ h => h) (Or.inl ⟨by rfl, by intro wv hSv; go_simp⟩) hd rfl ?_
    try simp only [tk0, tk1, tk2, tk3, tk4]
    refine take_dst 7 59 (.bool false) rfl (by kernel_rfl) (by kernel_rfl) (by kernel_rfl) (fun _ _ _ h => h) (Or.inl ⟨by rfl, by intro wv hSv; go_simp⟩) hd rfl ?_
    try simp only [tk0, tk1, tk2, tk3, tk4]
    refine take_dst 8 60 undef rfl (by kernel_rfl) (by kernel_rfl) (by kernel_rfl) (fun _ _ _ h => h) (Or.inr ⟨by rfl, rfl⟩) hd rfl ?_
    try simp only [tk0, tk1, tk2, tk3, tk4]
    refine take_dst 9 61 undef rfl (by kernel_rfl) (by kernel_rfl) (by kernel_rfl) (fun _ _ _ h => h) (Or.inr ⟨by rfl, rfl⟩) hd rfl ?_
    try simp only [tk0, tk1, tk2, tk3, tk4]
    refine take_dst 10 62 undef rfl (by kernel_rfl) (by kernel_rfl) (by kernel_rfl) (fun _ _ _ h => h) (Or.inr ⟨by rfl, rfl⟩) hd rfl ?_
    try simp only [tk0, tk1, tk2, tk3, tk4]
    refine take_dst 11 63 (.bool false) rfl (by kernel_rfl) (by kernel_rfl) (by kernel_rfl) (fun _ _ _ h => h) (Or.inl ⟨by rfl, by intro wv hSv; go_simp⟩) hd rfl ?_
    try simp only [tk0, tk1, tk2, tk3, tk4]
    refine take_dst 12 64 (.bool false) rfl (by kernel_rfl) (by kernel_rfl) (by kernel_rfl) (fun _ _ _ h => h) (Or.inl ⟨by rfl, by intro wv hSv; go_simp⟩) hd rfl ?_
    try simp only [tk0, tk1, tk2, tk3, tk4]
    refine take_dst 13 65 undef rfl (by kernel_rfl) (by kernel_rfl) (by kernel_rfl) (fun _ _ _ h => h) (Or.inr ⟨by rfl, rfl⟩) hd rfl ?_
    try simp only [tk0, tk1, tk2, tk3, tk4]
    refine take_dst 14 66 undef rfl (by kernel_rfl) (by kernel_rfl) (by kernel_rfl) (fun _ _ _ h => h) (Or.inr ⟨by rfl, rfl⟩) hd rfl ?_
    try simp only [tk0, tk1, tk2, tk3, tk4]
    refine take_dst 15 67 undef rfl (by kernel_rfl) (by kernel_rfl) (by kernel_rfl) (fun _ _ _ h => h) (Or.inr ⟨by rfl, rfl⟩) hd rfl ?_
    try simp only [tk0, tk1, tk2, tk3, tk4]
    refine take_dst 16 68 undef rfl (by kernel_rfl) (by kernel_rfl) (by kernel_rfl) (fun _ _ _ h => h) (Or.inr ⟨by rfl, rfl⟩) hd rfl ?_
    try simp only [tk0, tk1, tk2, tk3, tk4]
    refine take_dst 17 69 undef rfl (by kernel_rfl) (by kernel_rfl) (by kernel_rfl) (fun _ _ _ h => h) (Or.inr ⟨by rfl, rfl⟩) hd rfl ?_
    try simp only [tk0, tk1, tk2, tk3, tk4]
    refine take_dst 18 70 undef rfl (by kernel_rfl) (by kernel_rfl) (by kernel_rfl) (fun _ _ _ h => h) (Or.inr ⟨by rfl, rfl⟩) hd rfl ?_
    try simp only [tk0, tk1, tk2, tk3, tk4]
    refine take_dst 19 71 undef rfl (by kernel_rfl) (by kernel_rfl) (by kernel_rfl) (fun _ _ _ h => h) (Or.inr ⟨by rfl, rfl⟩) hd rfl ?_
    try simp only [tk0, tk1, tk2, tk3, tk4]
    refine take_dst 20 72 (.bool false) rfl (by kernel_rfl) (by kernel_rfl) (by kernel_rfl) (fun _ _ _ h => h) (Or.inl ⟨by rfl, by intro wv hSv; go_simp⟩) hd rfl ?_
    try simp only [tk0, tk1, tk2, tk3, tk4]
    refine wpAnyH_done (by kernel_rfl) ?_ _
    have hbF : Below w.heap.size w y.drew := hb9.trans (Below.mono (Below.refl y.heap.size y).drew hb9.size)
    have hBf : BxS w n p.regs a b c s y.drew := hB
    obtain ⟨z0, z1, z2, z3, z4, z5⟩ := id hBf
    clear hB hBf hk hd
    go_wp2_with (go_at_call 104; refine (l4Has_I _ _ _ hz (by omega)).mono ?_; rintro e y2 ⟨rfl, rfl⟩)
    all_goals go_ret
    all_goals exact ⟨⟨_, rfl, by rw [decide_eq_true_iff] <;> omega⟩, by assumption⟩
theorem regs_qj (n : Nat) (hn : n ≤ 63) (p : PD) (ac : Option Addr) (cc : Nat) (o4 : Option Addr) (c4 : Nat) (o5 : Option Addr) (c5 : Nat) (o8 : Option Addr) (c8 : Nat) (o9 : Option Addr) (c9 : Nat) (a b c s : Int) (w : World) (a1 : 0 ≤ a) (a2 : a ≤ 255) (b1 : 0 ≤ b) (b2 : b ≤ 511) (c1 : 0 ≤ c) (c2 : c ≤ 511) (l114 : hasC (useS n) 114 = false) (l110 : hasC (useS n) 110 = false) (l52 : hasC (useS n) 52 = true) (l115 : hasC (useS n) 115 = false) (l116 : hasC (useS n) 116 = false) (l118 : hasC (useS n) 118 = false) (l119 : hasC (useS n) 119 = false) :
    Calls Tryz.prog 101 #[prV p ac cc o4 c4 o5 c5 o8 c8 o9 c9, insV n a b c s] w fun e w' => Says e (a + 4 ≤ p.regs) ∧ Below w.heap.size w w' := by
  have hz := useS_size n (by omega)
  go_enter Tryz.func101, Tryz.ntmps101
  go_upto_region 13 with (first | (go_at_call 105; refine (l4Use_in n _ hn).mono ?_; rintro e y ⟨rfl, b9⟩; have hb9 := below2 b9; have hBl := (BxS.of b9).2; have hB := (BxS.of b9).1; obtain ⟨z0, z1, z2, z3, z4, z5⟩ := id hB; clear b9) | (go_at_call 104; refine (l4Has_I _ _ _ hz (by omega)).mono ?_; rintro e y2 ⟨rfl, rfl⟩))
  all_goals
    clear z0 z1 z2 z3 z4 z5
    have hk : Hid (∀ x, Below y.heap.size y x → BxS w n p.regs a b c s x) := fun x hx => BxS.later hB hBl hx
    have hd : BxS w n p.regs a b c s y.drew := hB
    refine wp_region_held_drew (S := BxS w n p.regs a b c s) (by kernel_rfl) hd (fun hH => ?_)
    refine take_dst 0 52 (.string (useS n)) rfl (by kernel_rfl) (by kernel_rfl) (by kernel_rfl) (fun _ _ _ h => h) (Or.inl ⟨by rfl, by intro wv hSv; go_simp⟩) hd rfl ?_
    try simp only [tk0, tk1, tk2, tk3, tk4]
    refine wpAnyH_ready (rs := [1]) (by kernel_rfl) (by simp) ?_
    refine AllReadyH.cons rfl (fun KK hKK => ?_) AllReadyH.nil
    go_simp
    refine (l4Has_I _ _ _ hz (by omega)).mono ?_
    rintro e y2 ⟨rfl, rfl⟩
    rw [l118]
    go_wp2_with fail
    refine hKK.out _ _ hd (fun _ => ?_)
    clear hKK KK
    try simp only [tk0, tk1, tk2, tk3, tk4]
    refine take_dst 2 54 (.bool false) rfl (by kernel_rfl) (by kernel_rfl) (by kernel_rfl) (fun _ _ _ h => h) (Or.inl ⟨by rfl, by intro wv hSv; go_simp⟩) hd rfl ?_
    try simp only [tk0, tk1, tk2, tk3, tk4]
    refine take_dst 3 55 undef rfl (by kernel_rfl) (by kernel_rfl) (by kernel_rfl) (fun _ _ _ h => h) (Or.inr ⟨by rfl, rfl⟩) hd rfl ?_
    try simp only [tk0, tk1, tk2, tk3, tk4]
    refine take_dst 4 56 undef rfl (by kernel_rfl) (by kernel_rfl) (by kernel_rfl) (fun _ _ _ h => h) (Or.inr ⟨by rfl, rfl⟩) hd rfl ?_
    try simp only [tk0, tk1, tk2, tk3, tk4]
    refine take_dst 5 57 undef rfl (by kernel_rfl) (by kernel_rfl) (by kernel_rfl) (fun _ _ _ h => h) (Or.inr ⟨by rfl, rfl⟩) hd rfl ?_
    try simp only [tk0, tk1, tk2, tk3, tk4]
    refine take_dst 6 58 (.bool false) rfl (by kernel_rfl) (by kernel_rfl) (by kernel_rfl) (fun _ _ _ h => h) (Or.inl ⟨by rfl, by intro wv hSv; go_simp⟩) hd rfl ?_
    try simp only [tk0, tk1, tk2, tk3, tk4]
    refine take_dst 7 59 (.bool false) rfl (by kernel_rfl) (by kernel_rfl) (by kernel_rfl) (fun _ _ _ h => h) (Or.inl ⟨by rfl, by intro wv hSv; go_simp⟩) hd rfl ?_
    try simp only [tk0, tk1, tk2, tk3, tk4]
    refine take_dst 8 60 undef rfl (by kernel_rfl) (by kernel_rfl) (by kernel_rfl) (fun _ _ _ h => h) (Or.inr ⟨by rfl, rfl⟩) hd rfl ?_
    try simp only [tk0, tk1, tk2, tk3, tk4]
    refine take_dst 9 61 undef rfl (by kernel_rfl) (by kernel_rfl) (by kernel_rfl) (fun _ _ _ h => h) (Or.inr ⟨by rfl, rfl⟩) hd rfl ?_
    try simp only [tk0, tk1, tk2, tk3, tk4]
    refine take_dst 10 62 undef rfl (by kernel_rfl) (by kernel_rfl) (by kernel_rfl) (fun _ _ _ h => h) (Or.inr ⟨by rfl, rfl⟩) hd rfl ?_
    try simp only [tk0, tk1, tk2, tk3, tk4]
    refine take_dst 11 63 (.bool false) rfl (by kernel_rfl) (by kernel_rfl) (by kernel_rfl) (fun _ _ _ h => h) (Or.inl ⟨by rfl, by intro wv hSv; go_simp⟩) hd rfl ?_
    try simp only [tk0, tk1, tk2, tk3, tk4]
    refine take_dst 12 64 (.bool false) rfl (by kernel_rfl) (by kernel_rfl) (by kernel_rfl) (fun _ _ _ h => h) (Or.inl ⟨by rfl, by intro wv hSv; go_simp⟩) hd rfl ?_
    try simp only [tk0, tk1, tk2, tk3, tk4]
    refine take_dst 13 65 undef rfl (by kernel_rfl) (by kernel_rfl) (by kernel_rfl) (fun _ _ _ h => h) (Or.inr ⟨by rfl, rfl⟩) hd rfl ?_
    try simp only [tk0, tk1, tk2, tk3, tk4]
    refine take_dst 14 66 undef rfl (by kernel_rfl) (by kernel_rfl) (by kernel_rfl) (fun _ _ _ h => h) (Or.inr ⟨by rfl, rfl⟩) hd rfl ?_
    try simp only [tk0, tk1, tk2, tk3, tk4]
    refine take_dst 15 67 undef rfl (by kernel_rfl) (by kernel_rfl) (by kernel_rfl) (fun _ _ _ h => h) (Or.inr ⟨by rfl, rfl⟩) hd rfl ?_
    try simp only [tk0, tk1, tk2, tk3, tk4]
    refine take_dst 16 68 undef rfl (by kernel_rfl) (by kernel_rfl) (by kernel_rfl) (fun _ _ _ h => h) (Or.inr ⟨by rfl, rfl⟩) hd rfl ?_
    try simp only [tk0, tk1, tk2, tk3, tk4]
    refine take_dst 17 69 undef rfl (by kernel_rfl) (by kernel_rfl) (by kernel_rfl) (fun _ _ _ h => h) (Or.inr ⟨by rfl, rfl⟩) hd rfl ?_
    try simp only [tk0, tk1, tk2, tk3, tk4]
    refine take_dst 18 70 undef rfl (by kernel_rfl) (by kernel_rfl) (by kernel_rfl) (fun _ _ _ h => h) (Or.inr ⟨by rfl, rfl⟩) hd rfl ?_
    try simp only [tk0, tk1, tk2, tk3, tk4]
    refine take_dst 19 71 undef rfl (by kernel_rfl) (by kernel_rfl) (by kernel_rfl) (fun _ _ _ h => h) (Or.inr ⟨by rfl, rfl⟩) hd rfl ?_
    try simp only [tk0, tk1, tk2, tk3, tk4]
    refine take_dst 20 72 (.bool false) rfl (by kernel_rfl) (by kernel_rfl) (by kernel_rfl) (fun _ _ _ h => h) (Or.inl ⟨by rfl, by intro wv hSv; go_simp⟩) hd rfl ?_
    try simp only [tk0, tk1, tk2, tk3, tk4]
    refine wpAnyH_done (by kernel_rfl) ?_ _
    have hbF : Below w.heap.size w y.drew := hb9.trans (Below.mono (Below.refl y.heap.size y).drew hb9.size)
    have hBf : BxS w n p.regs a b c s y.drew := hB
    obtain ⟨z0, z1, z2, z3, z4, z5⟩ := id hBf
    clear hB hBf hk hd
    go_wp2_with (go_at_call 104; refine (l4Has_I _ _ _ hz (by omega)).mono ?_; rintro e y2 ⟨rfl, rfl⟩)
    all_goals go_ret
    all_goals exact ⟨⟨_, rfl, by rw [decide_eq_true_iff] <;> omega⟩, by assumption⟩
end Go.Proofs.YtckapapejfnojaaGreatDoor

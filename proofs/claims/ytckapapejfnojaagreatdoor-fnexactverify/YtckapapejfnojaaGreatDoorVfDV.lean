import Derived.Deep.QuietTactic
import Derived.BigQuiet
import Derived.Deep.Cut
import Derived.Deep.RegionHeld3
import Derived.Test.YtckapapejfnojaaGreatDoorGAV
import Derived.Test.YtckapapejfnojaaGreatDoorTpAV
import Derived.Test.YtckapapejfnojaaGreatDoorVfCV
namespace Go.Proofs.YtckapapejfnojaaGreatDoor
open Go.RowKit Go.Shelf
set_option linter.unusedVariables false
set_option linter.unusedSimpArgs false
set_option maxRecDepth 100000
set_option maxHeartbeats 1000000
theorem regs_rv (n : Nat) (hn : n ≤ 63) (p : PD) (ac : Option Addr) (cc : Nat) (o4 : Option Addr) (c4 : Nat) (o5 : Option Addr) (c5 : Nat) (o8 : Option Addr) (c8 : Nat) (o9 : Option Addr) (c9 : Nat) (a b c s : Int) (w : World) (a1 : 0 ≤ a) (a2 : a ≤ 255) (b1 : 0 ≤ b) (b2 : b ≤ 511) (c1 : 0 ≤ c) (c2 : c ≤ 511) (l114 : hasC (useS n) 114 = true) (l110 : hasC (useS n) 110 = false) (l52 : hasC (useS n) 52 = false) (l115 : hasC (useS n) 115 = false) (l116 : hasC (useS n) 116 = false) (l118 : hasC (useS n) 118 = true) (l119 : hasC (useS n) 119 = false) (hop : n ≠ 22 ∧ n ≠ 30) :
    Calls Tryz.prog 101 #[prV p ac cc o4 c4 o5 c5 o8 c8 o9 c9, insV n a b c s] w fun e w' => Says e (a + max 1 (rsz b) ≤ p.regs) ∧ Below w.heap.size w w' := by
  have hz := useS_size n (by omega)
  by_cases ob : b = 511
  · have qb : rsz b = 0 := if_pos ob
    have nb : (b != 511) = false := by simp [ob]
    replace ob : Hid (b = 511) := ob
    rw [qb]
    clear qb
    go_enter Tryz.func101, Tryz.ntmps101
    go_upto_region 13 with (first | (go_at_call 105; refine (l4Use_in n _ hn).mono ?_; rintro e y ⟨rfl, b9⟩; have hb9 := below2 b9; have hBl := (BxS.of b9).2; have hB := (BxS.of b9).1; obtain ⟨z0, z1, z2, z3, z4, z5⟩ := id hB; clear b9) | (go_at_call 104; refine (l4Has_I _ _ _ hz (by omega)).mono ?_; rintro e y2 ⟨rfl, rfl⟩))
    all_goals
      clear z0 z1 z2 z3 z4 z5
      have hk : Hid (∀ x, Below y.heap.size y x → BxS w n p.regs a b c s x) := fun x hx => BxS.later hB hBl hx
      have hd : BxS w n p.regs a b c s y.drew := hB
      refine wp_region_held_drew (S := BxS w n p.regs a b c s) (by kernel_rfl) hd (fun hH => ?_)
      refine take_dst 0 52 (.string (useS n)) rfl (by kernel_rfl) (by kernel_rfl) (by kernel_rfl) (fun _ _ _ h => h) (Or.inl ⟨by rfl, by intro wv hSv; go_simp⟩) hd rfl ?_
      try simp only [tk0, tk1, tk2, tk3, tk4]
      refine wpAnyH_ready (rs := [1]) (by kernel_rfl) (by simp) ?_
      refine AllReadyH.cons rfl (fun KK hKK => ?_) AllReadyH.nil
      go_simp
      refine (l4Has_I _ _ _ hz (by omega)).mono ?_
      rintro e y2 ⟨rfl, rfl⟩
      rw [l118]
      go_wp2_with fail
      refine hKK.out _ _ hd (fun _ => ?_)
      clear hKK KK
      try simp only [tk0, tk1, tk2, tk3, tk4]
      refine take_dst 2 54 (.bool true) rfl (by kernel_rfl) (by kernel_rfl) (by kernel_rfl) (fun _ _ _ h => h) (Or.inl ⟨by rfl, by intro wv hSv; go_simp⟩) hd rfl ?_
      try simp only [tk0, tk1, tk2, tk3, tk4]
      refine take_dst 3 55 (.pointer (some ⟨w.heap.size + 1, 2, none⟩)) rfl (by kernel_rfl) (by kernel_rfl) (by kernel_rfl) (fun _ _ _ h => h) (Or.inl ⟨by rfl, by intro wv hSv; go_simp⟩) hd rfl ?_
      try simp only [tk0, tk1, tk2, tk3, tk4]
      refine take_dst 4 56 (.int .i64 b) rfl (by kernel_rfl) (by kernel_rfl) (by kernel_rfl) (fun _ _ _ h => h) (Or.inl ⟨by rfl, by intro wv hSv; unfold BxS at hSv; obtain ⟨h0, h1, h2, h3, h4, h5⟩ := hSv; go_simp⟩) hd rfl ?_
      try simp only [tk0, tk1, tk2, tk3, tk4]
      refine take_dst 5 57 (.bool false) rfl (by kernel_rfl) (by kernel_rfl) (by kernel_rfl) (fun _ _ _ h => h) (Or.inl ⟨by rfl, by intro wv hSv; go_simp⟩) hd rfl ?_
      try simp only [tk0, tk1, tk2, tk3, tk4]
      refine take_dst 6 58 (.bool false) rfl (by kernel_rfl) (by kernel_rfl) (by kernel_rfl) (fun _ _ _ h => h) (Or.inl ⟨by rfl, by intro wv hSv; go_simp⟩) hd rfl ?_
      try simp only [tk0, tk1, tk2, tk3, tk4]
      refine take_dst 7 59 (.bool false) rfl (by kernel_rfl) (by kernel_rfl) (by kernel_rfl) (fun _ _ _ h => h) (Or.inl ⟨by rfl, by intro wv hSv; go_simp⟩) hd rfl ?_
      try simp only [tk0, tk1, tk2, tk3, tk4]
      refine take_dst 8 60 undef rfl (by kernel_rfl) (by kernel_rfl) (by kernel_rfl) (fun _ _ _ h => h) (Or.inr ⟨by rfl, rfl⟩) hd rfl ?_
      try simp only [tk0, tk1, tk2, tk3, tk4]
      refine take_dst 9 61 undef rfl (by kernel_rfl) (by kernel_rfl) (by kernel_rfl) (fun _ _ _ h => h) (Or.inr ⟨by rfl, rfl⟩) hd rfl ?_
      try simp only [tk0, tk1, tk2, tk3, tk4]
      refine take_dst 10 62 undef rfl (by kernel_rfl) (by kernel_rfl) (by kernel_rfl) (fun _ _ _ h => h) (Or.inr ⟨by rfl, rfl⟩) hd rfl ?_
      try simp only [tk0, tk1, tk2, tk3, tk4]
      refine take_dst 11 63 (.bool false) rfl (by kernel_rfl) (by kernel_rfl) (by kernel_rfl) (fun _ _ _ h => h) (Or.inl ⟨by rfl, by intro wv hSv; go_simp⟩) hd rfl ?_
      try simp only [tk0, tk1, tk2, tk3, tk4]
      refine take_dst 12 64 (.bool false) rfl (by kernel_rfl) (by kernel_rfl) (by kernel_rfl) (fun _ _ _ h => h) (Or.inl ⟨by rfl, by intro wv hSv; go_simp⟩) hd rfl ?_
      try simp only [tk0, tk1, tk2, tk3, tk4]
      refine take_dst 13 65 undef rfl (by kernel_rfl) (by kernel_rfl) (by kernel_rfl) (fun _ _ _ h => h) (Or.inr ⟨by rfl, rfl⟩) hd rfl ?_
      try simp only [tk0, tk1, tk2, tk3, tk4]
      refine take_dst 14 66 undef rfl (by kernel_rfl) (by kernel_rfl) (by kernel_rfl) (fun _ _ _ h => h) (Or.inr ⟨by rfl, rfl⟩) hd rfl ?_
      try simp only [tk0, tk1, tk2, tk3, tk4]
      refine take_dst 15 67 undef rfl (by kernel_rfl) (by kernel_rfl) (by kernel_rfl) (fun _ _ _ h => h) (Or.inr ⟨by rfl, rfl⟩) hd rfl ?_
      try simp only [tk0, tk1, tk2, tk3, tk4]
      refine take_dst 16 68 undef rfl (by kernel_rfl) (by kernel_rfl) (by kernel_rfl) (fun _ _ _ h => h) (Or.inr ⟨by rfl, rfl⟩) hd rfl ?_
      try simp only [tk0, tk1, tk2, tk3, tk4]
      refine take_dst 17 69 undef rfl (by kernel_rfl) (by kernel_rfl) (by kernel_rfl) (fun _ _ _ h => h) (Or.inr ⟨by rfl, rfl⟩) hd rfl ?_
      try simp only [tk0, tk1, tk2, tk3, tk4]
      refine take_dst 18 70 undef rfl (by kernel_rfl) (by kernel_rfl) (by kernel_rfl) (fun _ _ _ h => h) (Or.inr ⟨by rfl, rfl⟩) hd rfl ?_
      try simp only [tk0, tk1, tk2, tk3, tk4]
      refine take_dst 19 71 undef rfl (by kernel_rfl) (by kernel_rfl) (by kernel_rfl) (fun _ _ _ h => h) (Or.inr ⟨by rfl, rfl⟩) hd rfl ?_
      try simp only [tk0, tk1, tk2, tk3, tk4]
      refine take_dst 20 72 (.bool false) rfl (by kernel_rfl) (by kernel_rfl) (by kernel_rfl) (fun _ _ _ h => h) (Or.inl ⟨by rfl, by intro wv hSv; go_simp⟩) hd rfl ?_
      try simp only [tk0, tk1, tk2, tk3, tk4]
      refine wpAnyH_done (by kernel_rfl) ?_ _
      have hbF : Below w.heap.size w y.drew := hb9.trans (Below.mono (Below.refl y.heap.size y).drew hb9.size)
      have hBf : BxS w n p.regs a b c s y.drew := hB
      obtain ⟨z0, z1, z2, z3, z4, z5⟩ := id hBf
      clear hB hBf hk hd
      go_wp2_with (go_at_call 104; refine (l4Has_I _ _ _ hz (by omega)).mono ?_; rintro e y2 ⟨rfl, rfl⟩)
      all_goals go_ret
      all_goals exact ⟨⟨_, rfl, by rw [decide_eq_true_iff] <;> omega⟩, by assumption⟩
  · have qb : rsz b = b := if_neg ob
    have nb : (b != 511) = true := by simp [ob]
    by_cases zb : 0 < b
    · rw [qb]
      clear qb
      go_enter Tryz.func101, Tryz.ntmps101
      go_upto_region 13 with (first | (go_at_call 105; refine (l4Use_in n _ hn).mono ?_; rintro e y ⟨rfl, b9⟩; have hb9 := below2 b9; have hBl := (BxS.of b9).2; have hB := (BxS.of b9).1; obtain ⟨z0, z1, z2, z3, z4, z5⟩ := id hB; clear b9) | (go_at_call 104; refine (l4Has_I _ _ _ hz (by omega)).mono ?_; rintro e y2 ⟨rfl, rfl⟩))
      all_goals
        clear z0 z1 z2 z3 z4 z5
        have hk : Hid (∀ x, Below y.heap.size y x → BxS w n p.regs a b c s x) := fun x hx => BxS.later hB hBl hx
        have hwb : IntKind.i64.wrap (a + b) = a + b := by simp [IntKind.wrap, IntKind.bits, IntKind.signed]; omega
        have hF : Hid (∀ x, Below y.heap.size y x → Calls Tryz.prog 40 #[insV n a b c s] x fun e x' => e = .returned (.int .i64 (a)) ∧ Below y.heap.size y x') := fun x hx => (l4From_0 _ a b c s x (by omega) (by omega)).mono fun e x' ⟨he, hb⟩ => ⟨he, hx.trans (hb.mono hx.size)⟩
        have hd : BxS w n p.regs a b c s y.drew := hB
        refine wp_region_held_drew (S := BxS w n p.regs a b c s) (by kernel_rfl) hd (fun hH => ?_)
        refine take_dst 0 52 (.string (useS n)) rfl (by kernel_rfl) (by kernel_rfl) (by kernel_rfl) (fun _ _ _ h => h) (Or.inl ⟨by rfl, by intro wv hSv; go_simp⟩) hd rfl ?_
        try simp only [tk0, tk1, tk2, tk3, tk4]
        refine wpAnyH_ready (rs := [1]) (by kernel_rfl) (by simp) ?_
        refine AllReadyH.cons rfl (fun KK hKK => ?_) AllReadyH.nil
        go_simp
        refine (l4Has_I _ _ _ hz (by omega)).mono ?_
        rintro e y2 ⟨rfl, rfl⟩
        rw [l118]
        go_wp2_with fail
        refine hKK.out _ _ hd (fun _ => ?_)
        clear hKK KK
        try simp only [tk0, tk1, tk2, tk3, tk4]
        refine take_dst 2 54 (.bool true) rfl (by kernel_rfl) (by kernel_rfl) (by kernel_rfl) (fun _ _ _ h => h) (Or.inl ⟨by rfl, by intro wv hSv; go_simp⟩) hd rfl ?_
        try simp only [tk0, tk1, tk2, tk3, tk4]
        refine take_dst 3 55 (.pointer (some ⟨w.heap.size + 1, 2, none⟩)) rfl (by kernel_rfl) (by kernel_rfl) (by kernel_rfl) (fun _ _ _ h => h) (Or.inl ⟨by rfl, by intro wv hSv; go_simp⟩) hd rfl ?_
        try simp only [tk0, tk1, tk2, tk3, tk4]
        refine take_dst 4 56 (.int .i64 b) rfl (by kernel_rfl) (by kernel_rfl) (by kernel_rfl) (fun _ _ _ h => h) (Or.inl ⟨by rfl, by intro wv hSv; unfold BxS at hSv; obtain ⟨h0, h1, h2, h3, h4, h5⟩ := hSv; go_simp⟩) hd rfl ?_
        try simp only [tk0, tk1, tk2, tk3, tk4]
        refine take_dst 5 57 (.bool true) rfl (by kernel_rfl) (by kernel_rfl) (by kernel_rfl) (fun _ _ _ h => h) (Or.inl ⟨by rfl, by intro wv hSv; go_simp⟩) hd rfl ?_
        try simp only [tk0, tk1, tk2, tk3, tk4]
        refine take_dst 6 58 (.bool true) rfl (by kernel_rfl) (by kernel_rfl) (by kernel_rfl) (fun _ _ _ h => h) (Or.inl ⟨by rfl, by intro wv hSv; go_simp⟩) hd rfl ?_
        try simp only [tk0, tk1, tk2, tk3, tk4]
        refine take_dst 7 59 (.bool true) rfl (by kernel_rfl) (by kernel_rfl) (by kernel_rfl) (fun _ _ _ h => h) (Or.inl ⟨by rfl, by intro wv hSv; go_simp⟩) hd rfl ?_
        try simp only [tk0, tk1, tk2, tk3, tk4]
        refine take_dst 8 60 (.pointer (some ⟨w.heap.size + 1, 2, none⟩)) rfl (by kernel_rfl) (by kernel_rfl) (by kernel_rfl) (fun _ _ _ h => h) (Or.inl ⟨by rfl, by intro wv hSv; go_simp⟩) hd rfl ?_
        try simp only [tk0, tk1, tk2, tk3, tk4]
        refine take_dst 9 61 (.int .i64 b) rfl (by kernel_rfl) (by kernel_rfl) (by kernel_rfl) (fun _ _ _ h => h) (Or.inl ⟨by rfl, by intro wv hSv; unfold BxS at hSv; obtain ⟨h0, h1, h2, h3, h4, h5⟩ := hSv; go_simp⟩) hd rfl ?_
        try simp only [tk0, tk1, tk2, tk3, tk4]
        refine take_dst 10 62 (.bool true) rfl (by kernel_rfl) (by kernel_rfl) (by kernel_rfl) (fun _ _ _ h => h) (Or.inl ⟨by rfl, by intro wv hSv; go_simp⟩) hd rfl ?_
        try simp only [tk0, tk1, tk2, tk3, tk4]
        refine take_dst 11 63 (.bool true) rfl (by kernel_rfl) (by kernel_rfl) (by kernel_rfl) (fun _ _ _ h => h) (Or.inl ⟨by rfl, by intro wv hSv; go_simp⟩) hd rfl ?_
        try simp only [tk0, tk1, tk2, tk3, tk4]
        refine take_dst 12 64 (.bool true) rfl (by kernel_rfl) (by kernel_rfl) (by kernel_rfl) (fun _ _ _ h => h) (Or.inl ⟨by rfl, by intro wv hSv; go_simp⟩) hd rfl ?_
        try simp only [tk0, tk1, tk2, tk3, tk4]
        refine take_dst 13 65 (.agg #[.int .i64 (n : Int), .int .i64 a, .int .i64 b, .int .i64 c, .int .i64 s]) rfl (by kernel_rfl) (by kernel_rfl) (by kernel_rfl) (fun _ _ _ h => h) (Or.inl ⟨by rfl, by intro wv hSv; unfold BxS at hSv; obtain ⟨h0, h1, h2, h3, h4, h5⟩ := hSv; go_simp⟩) hd rfl ?_
        try simp only [tk0, tk1, tk2, tk3, tk4]
        refine take_dst 15 67 (.pointer (some ⟨w.heap.size + 1, 2, none⟩)) rfl (by kernel_rfl) (by kernel_rfl) (by kernel_rfl) (fun _ _ _ h => h) (Or.inl ⟨by rfl, by intro wv hSv; go_simp⟩) hd rfl ?_
        try simp only [tk0, tk1, tk2, tk3, tk4]
        refine take_dst 16 68 (.int .i64 b) rfl (by kernel_rfl) (by kernel_rfl) (by kernel_rfl) (fun _ _ _ h => h) (Or.inl ⟨by rfl, by intro wv hSv; unfold BxS at hSv; obtain ⟨h0, h1, h2, h3, h4, h5⟩ := hSv; go_simp⟩) hd rfl ?_
        try simp only [tk0, tk1, tk2, tk3, tk4]
        refine take_dst 18 70 (.int .i64 (a + 1)) rfl (by kernel_rfl) (by kernel_rfl) (by kernel_rfl) (fun _ _ _ h => h) (Or.inl ⟨by rfl, by intro wv hSv; go_simp⟩) hd rfl ?_
        try simp only [tk0, tk1, tk2, tk3, tk4]
        refine wpAnyH_ready (rs := [14]) (by kernel_rfl) (by simp) ?_
        refine AllReadyH.cons rfl (fun KK hKK => ?_) AllReadyH.nil
        go_simp
        refine (hF.out _ (Below.refl _ _).drew).mono ?_
        rintro e y4 ⟨rfl, b4⟩
        have h4 : BxS w n p.regs a b c s y4 := hk.out y4 b4
        go_wp2_with fail
        refine hKK.out _ _ h4 (fun _ => ?_)
        clear hKK KK
        try simp only [tk0, tk1, tk2, tk3, tk4]
        refine take_dst 17 69 (.int .i64 (a + b)) rfl (by kernel_rfl) (by kernel_rfl) (by kernel_rfl) (fun _ _ _ h => h) (Or.inl ⟨by rfl, by intro wv hSv; go_simp⟩) h4 rfl ?_
        try simp only [tk0, tk1, tk2, tk3, tk4]
        refine take_dst 19 71 (.bool (decide (a + 1 < a + b))) rfl (by kernel_rfl) (by kernel_rfl) (by kernel_rfl) (fun _ _ _ h => h) (Or.inl ⟨by rfl, by intro wv hSv; go_simp⟩) h4 rfl ?_
        try simp only [tk0, tk1, tk2, tk3, tk4]
        refine take_dst 20 72 (.bool (decide (a + 1 < a + b))) rfl (by kernel_rfl) (by kernel_rfl) (by kernel_rfl) (fun _ _ _ h => h) (Or.inl ⟨by rfl, by intro wv hSv; go_simp⟩) h4 rfl ?_
        try simp only [tk0, tk1, tk2, tk3, tk4]
        refine wpAnyH_done (by kernel_rfl) ?_ _
        by_cases hgt : a + 1 < a + b
        · have dgt : decide (a + 1 < a + b) = true := by simp; omega
          go_wp2_with fail
          have hd2 : BxS w n p.regs a b c s y4.drew := h4
          refine wp_region_held_drew (S := BxS w n p.regs a b c s) (by kernel_rfl) hd2 (fun hH => ?_)
          refine take_dst 0 73 (.agg #[.int .i64 (n : Int), .int .i64 a, .int .i64 b, .int .i64 c, .int .i64 s]) rfl (by kernel_rfl) (by kernel_rfl) (by kernel_rfl) (fun _ _ _ h => h) (Or.inl ⟨by rfl, by intro wv hSv; unfold BxS at hSv; obtain ⟨h0, h1, h2, h3, h4, h5⟩ := hSv; go_simp⟩) hd2 rfl ?_
          try simp only [tk0, tk1, tk2, tk3, tk4]
          refine take_dst 2 75 (.pointer (some ⟨w.heap.size + 1, 2, none⟩)) rfl (by kernel_rfl) (by kernel_rfl) (by kernel_rfl) (fun _ _ _ h => h) (Or.inl ⟨by rfl, by intro wv hSv; go_simp⟩) hd2 rfl ?_
          try simp only [tk0, tk1, tk2, tk3, tk4]
          refine take_dst 3 76 (.int .i64 b) rfl (by kernel_rfl) (by kernel_rfl) (by kernel_rfl) (fun _ _ _ h => h) (Or.inl ⟨by rfl, by intro wv hSv; unfold BxS at hSv; obtain ⟨h0, h1, h2, h3, h4, h5⟩ := hSv; go_simp⟩) hd2 rfl ?_
          try simp only [tk0, tk1, tk2, tk3, tk4]
          refine wpAnyH_ready (rs := [1]) (by kernel_rfl) (by simp) ?_
          refine AllReadyH.cons rfl (fun KK hKK => ?_) AllReadyH.nil
          go_simp
          refine (hF.out _ b4.drew).mono ?_
          rintro e y5 ⟨rfl, b5⟩
          have h5 : BxS w n p.regs a b c s y5 := hk.out y5 b5
          go_wp2_with fail
          refine hKK.out _ _ h5 (fun _ => ?_)
          clear hKK KK
          try simp only [tk0, tk1, tk2, tk3, tk4]
          refine take_dst 4 77 (.int .i64 (a + b)) rfl (by kernel_rfl) (by kernel_rfl) (by kernel_rfl) (fun _ _ _ h => h) (Or.inl ⟨by rfl, by intro wv hSv; go_simp⟩) h5 rfl ?_
          try simp only [tk0, tk1, tk2, tk3, tk4]
          refine take_dst 5 6 (.int .i64 (a + b)) rfl (by kernel_rfl) (by kernel_rfl) (by kernel_rfl) (fun _ _ _ h => h) (Or.inl ⟨by rfl, by intro wv hSv; go_simp⟩) h5 rfl ?_
          try simp only [tk0, tk1, tk2, tk3, tk4]
          refine wpAnyH_done (by kernel_rfl) ?_ _
          have hbF : Below w.heap.size w y5 := hb9.trans (Below.mono b5 hb9.size)
          have hBf : BxS w n p.regs a b c s y5 := h5
          obtain ⟨z0, z1, z2, z3, z4, z5⟩ := id hBf
          clear hB hBf hk hF hd
          go_wp2_with (go_at_call 104; refine (l4Has_I _ _ _ hz (by omega)).mono ?_; rintro e y2 ⟨rfl, rfl⟩)
          all_goals go_ret
          all_goals exact ⟨⟨_, rfl, by rw [decide_eq_true_iff] <;> omega⟩, by assumption⟩
        · have dgt : decide (a + 1 < a + b) = false := by simp; omega
          have hbF : Below w.heap.size w y4 := hb9.trans (Below.mono b4 hb9.size)
          have hBf : BxS w n p.regs a b c s y4 := h4
          obtain ⟨z0, z1, z2, z3, z4, z5⟩ := id hBf
          clear hB hBf hk hF hd
          go_wp2_with (go_at_call 104; refine (l4Has_I _ _ _ hz (by omega)).mono ?_; rintro e y2 ⟨rfl, rfl⟩)
          all_goals go_ret
          all_goals exact ⟨⟨_, rfl, by rw [decide_eq_true_iff] <;> omega⟩, by assumption⟩
    · have db : decide (0 < b) = false := by simp; omega
      rw [qb]
      clear qb
      go_enter Tryz.func101, Tryz.ntmps101
      go_upto_region 13 with (first | (go_at_call 105; refine (l4Use_in n _ hn).mono ?_; rintro e y ⟨rfl, b9⟩; have hb9 := below2 b9; have hBl := (BxS.of b9).2; have hB := (BxS.of b9).1; obtain ⟨z0, z1, z2, z3, z4, z5⟩ := id hB; clear b9) | (go_at_call 104; refine (l4Has_I _ _ _ hz (by omega)).mono ?_; rintro e y2 ⟨rfl, rfl⟩))
      all_goals
        clear z0 z1 z2 z3 z4 z5
        have hk : Hid (∀ x, Below y.heap.size y x → BxS w n p.regs a b c s x) := fun x hx => BxS.later hB hBl hx
        have hd : BxS w n p.regs a b c s y.drew := hB
        refine wp_region_held_drew (S := BxS w n p.regs a b c s) (by kernel_rfl) hd (fun hH => ?_)
        refine take_dst 0 52 (.string (useS n)) rfl (by kernel_rfl) (by kernel_rfl) (by kernel_rfl) (fun _ _ _ h => h) (Or.inl ⟨by rfl, by intro wv hSv; go_simp⟩) hd rfl ?_
        try simp only [tk0, tk1, tk2, tk3, tk4]
        refine wpAnyH_ready (rs := [1]) (by kernel_rfl) (by simp) ?_
        refine AllReadyH.cons rfl (fun KK hKK => ?_) AllReadyH.nil
        go_simp
        refine (l4Has_I _ _ _ hz (by omega)).mono ?_
        rintro e y2 ⟨rfl, rfl⟩
        rw [l118]
        go_wp2_with fail
        refine hKK.out _ _ hd (fun _ => ?_)
        clear hKK KK
        try simp only [tk0, tk1, tk2, tk3, tk4]
        refine take_dst 2 54 (.bool true) rfl (by kernel_rfl) (by kernel_rfl) (by kernel_rfl) (fun _ _ _ h => h) (Or.inl ⟨by rfl, by intro wv hSv; go_simp⟩) hd rfl ?_
        try simp only [tk0, tk1, tk2, tk3, tk4]
        refine take_dst 3 55 (.pointer (some ⟨w.heap.size + 1, 2, none⟩)) rfl (by kernel_rfl) (by kernel_rfl) (by kernel_rfl) (fun _ _ _ h => h) (Or.inl ⟨by rfl, by intro wv hSv; go_simp⟩) hd rfl ?_
        try simp only [tk0, tk1, tk2, tk3, tk4]
        refine take_dst 4 56 (.int .i64 b) rfl (by kernel_rfl) (by kernel_rfl) (by kernel_rfl) (fun _ _ _ h => h) (Or.inl ⟨by rfl, by intro wv hSv; unfold BxS at hSv; obtain ⟨h0, h1, h2, h3, h4, h5⟩ := hSv; go_simp⟩) hd rfl ?_
        try simp only [tk0, tk1, tk2, tk3, tk4]
        refine take_dst 5 57 (.bool true) rfl (by kernel_rfl) (by kernel_rfl) (by kernel_rfl) (fun _ _ _ h => h) (Or.inl ⟨by rfl, by intro wv hSv; go_simp⟩) hd rfl ?_
        try simp only [tk0, tk1, tk2, tk3, tk4]
        refine take_dst 6 58 (.bool true) rfl (by kernel_rfl) (by kernel_rfl) (by kernel_rfl) (fun _ _ _ h => h) (Or.inl ⟨by rfl, by intro wv hSv; go_simp⟩) hd rfl ?_
        try simp only [tk0, tk1, tk2, tk3, tk4]
        refine take_dst 7 59 (.bool true) rfl (by kernel_rfl) (by kernel_rfl) (by kernel_rfl) (fun _ _ _ h => h) (Or.inl ⟨by rfl, by intro wv hSv; go_simp⟩) hd rfl ?_
        try simp only [tk0, tk1, tk2, tk3, tk4]
        refine take_dst 8 60 (.pointer (some ⟨w.heap.size + 1, 2, none⟩)) rfl (by kernel_rfl) (by kernel_rfl) (by kernel_rfl) (fun _ _ _ h => h) (Or.inl ⟨by rfl, by intro wv hSv; go_simp⟩) hd rfl ?_
        try simp only [tk0, tk1, tk2, tk3, tk4]
        refine take_dst 9 61 (.int .i64 b) rfl (by kernel_rfl) (by kernel_rfl) (by kernel_rfl) (fun _ _ _ h => h) (Or.inl ⟨by rfl, by intro wv hSv; unfold BxS at hSv; obtain ⟨h0, h1, h2, h3, h4, h5⟩ := hSv; go_simp⟩) hd rfl ?_
        try simp only [tk0, tk1, tk2, tk3, tk4]
        refine take_dst 10 62 (.bool false) rfl (by kernel_rfl) (by kernel_rfl) (by kernel_rfl) (fun _ _ _ h => h) (Or.inl ⟨by rfl, by intro wv hSv; go_simp⟩) hd rfl ?_
        try simp only [tk0, tk1, tk2, tk3, tk4]
        refine take_dst 11 63 (.bool false) rfl (by kernel_rfl) (by kernel_rfl) (by kernel_rfl) (fun _ _ _ h => h) (Or.inl ⟨by rfl, by intro wv hSv; go_simp⟩) hd rfl ?_
        try simp only [tk0, tk1, tk2, tk3, tk4]
        refine take_dst 12 64 (.bool false) rfl (by kernel_rfl) (by kernel_rfl) (by kernel_rfl) (fun _ _ _ h => h) (Or.inl ⟨by rfl, by intro wv hSv; go_simp⟩) hd rfl ?_
        try simp only [tk0, tk1, tk2, tk3, tk4]
        refine take_dst 13 65 undef rfl (by kernel_rfl) (by kernel_rfl) (by kernel_rfl) (fun _ _ _ h => h) (Or.inr ⟨by rfl, rfl⟩) hd rfl ?_
        try simp only [tk0, tk1, tk2, tk3, tk4]
        refine take_dst 14 66 undef rfl (by kernel_rfl) (by kernel_rfl) (by kernel_rfl) (fun _ _ _ h => h) (Or.inr ⟨by rfl, rfl⟩) hd rfl ?_
        try simp only [tk0, tk1, tk2, tk3, tk4]
        refine take_dst 15 67 undef rfl (by kernel_rfl) (by kernel_rfl) (by kernel_rfl) (fun _ _ _ h => h) (Or.inr ⟨by rfl, rfl⟩) hd rfl ?_
        try simp only [tk0, tk1, tk2, tk3, tk4]
        refine take_dst 16 68 undef rfl (by kernel_rfl) (by kernel_rfl) (by kernel_rfl) (fun _ _ _ h => h) (Or.inr ⟨by rfl, rfl⟩) hd rfl ?_
        try simp only [tk0, tk1, tk2, tk3, tk4]
        refine take_dst 17 69 undef rfl (by kernel_rfl) (by kernel_rfl) (by kernel_rfl) (fun _ _ _ h => h) (Or.inr ⟨by rfl, rfl⟩) hd rfl ?_
        try simp only [tk0, tk1, tk2, tk3, tk4]
        refine take_dst 18 70 undef rfl (by kernel_rfl) (by kernel_rfl) (by kernel_rfl) (fun _ _ _ h => h) (Or.inr ⟨by rfl, rfl⟩) hd rfl ?_
        try simp only [tk0, tk1, tk2, tk3, tk4]
        refine take_dst 19 71 undef rfl (by kernel_rfl) (by kernel_rfl) (by kernel_rfl) (fun _ _ _ h => h) (Or.inr ⟨by rfl, rfl⟩) hd rfl ?_
        try simp only [tk0, tk1, tk2, tk3, tk4]
        refine take_dst 20 72 (.bool false) rfl (by kernel_rfl) (by kernel_rfl) (by kernel_rfl) (fun _ _ _ h => h) (Or.inl ⟨by rfl, by intro wv hSv; go_simp⟩) hd rfl ?_
        try simp only [tk0, tk1, tk2, tk3, tk4]
        refine wpAnyH_done (by kernel_rfl) ?_ _
        have hbF : Below w.heap.size w y.drew := hb9.trans (Below.mono (Below.refl y.heap.size y).drew hb9.size)
        have hBf : BxS w n p.regs a b c s y.drew := hB
        obtain ⟨z0, z1, z2, z3, z4, z5⟩ := id hBf
        clear hB hBf hk hd
        go_wp2_with (go_at_call 104; refine (l4Has_I _ _ _ hz (by omega)).mono ?_; rintro e y2 ⟨rfl, rfl⟩)
        all_goals go_ret
        all_goals exact ⟨⟨_, rfl, by rw [decide_eq_true_iff] <;> omega⟩, by assumption⟩
theorem regs_rvVV (n : Nat) (hn : n ≤ 63) (p : PD) (ac : Option Addr) (cc : Nat) (o4 : Option Addr) (c4 : Nat) (o5 : Option Addr) (c5 : Nat) (o8 : Option Addr) (c8 : Nat) (o9 : Option Addr) (c9 : Nat) (a b c s : Int) (w : World) (a1 : 0 ≤ a) (a2 : a ≤ 255) (b1 : 0 ≤ b) (b2 : b ≤ 511) (c1 : 0 ≤ c) (c2 : c ≤ 511) (l114 : hasC (useS n) 114 = true) (l110 : hasC (useS n) 110 = false) (l52 : hasC (useS n) 52 = false) (l115 : hasC (useS n) 115 = false) (l116 : hasC (useS n) 116 = false) (l118 : hasC (useS n) 118 = true) (l119 : hasC (useS n) 119 = false) (hop : n ≠ 22 ∧ n ≠ 30) :
    Calls Tryz.prog 101 #[prV p ac cc o4 c4 o5 c5 o8 c8 o9 c9, insV n a b c s] w fun e w' => Says e (a + max 1 (rsz b) ≤ p.regs) ∧ Below w.heap.size w w' := by
  have hz := useS_size n (by omega)
  by_cases ob : b = 511
  · have qb : rsz b = 0 := if_pos ob
    have nb : (b != 511) = false := by simp [ob]
    replace ob : Hid (b = 511) := ob
    rw [qb]
    clear qb
    go_enter Tryz.func101, Tryz.ntmps101
    go_upto_region 13 with (first | (go_at_call 105; refine (l4Use_in n _ hn).mono ?_; rintro e y ⟨rfl, b9⟩; have hb9 := below2 b9; have hBl := (BxS.of b9).2; have hB := (BxS.of b9).1; obtain ⟨z0, z1, z2, z3, z4, z5⟩ := id hB; clear b9) | (go_at_call 104; refine (l4Has_I _ _ _ hz (by omega)).mono ?_; rintro e y2 ⟨rfl, rfl⟩))
    all_goals
      clear z0 z1 z2 z3 z4 z5
      have hk : Hid (∀ x, Below y.heap.size y x → BxS w n p.regs a b c s x) := fun x hx => BxS.later hB hBl hx
      have hd : BxS w n p.regs a b c s y.drew := hB
      refine wp_region_held_drew (S := BxS w n p.regs a b c s) (by kernel_rfl) hd (fun hH => ?_)
      refine take_dst 0 52 (.string (useS n)) rfl (by kernel_rfl) (by kernel_rfl) (by kernel_rfl) (fun _ _ _ h => h) (Or.inl ⟨by rfl, by intro wv hSv; go_simp⟩) hd rfl ?_
      try simp only [tk0, tk1, tk2, tk3, tk4]
      refine wpAnyH_ready (rs := [1]) (by kernel_rfl) (by simp) ?_
      refine AllReadyH.cons rfl (fun KK hKK => ?_) AllReadyH.nil
      go_simp
      refine (l4Has_I _ _ _ hz (by omega)).mono ?_
      rintro e y2 ⟨rfl, rfl⟩
      rw [l118]
      go_wp2_with fail
      refine hKK.out _ _ hd (fun _ => ?_)
      clear hKK KK
      try simp only [tk0, tk1, tk2, tk3, tk4]
      refine take_dst 2 54 (.bool true) rfl (by kernel_rfl) (by kernel_rfl) (by kernel_rfl) (fun _ _ _ h => h) (Or.inl ⟨by rfl, by intro wv hSv; go_simp⟩) hd rfl ?_
      try simp only [tk0, tk1, tk2, tk3, tk4]
      refine take_dst 3 55 (.pointer (some ⟨w.heap.size + 1, 2, none⟩)) rfl (by kernel_rfl) (by kernel_rfl) (by kernel_rfl) (fun _ _ _ h => h) (Or.inl ⟨by rfl, by intro wv hSv; go_simp⟩) hd rfl ?_
      try simp only [tk0, tk1, tk2, tk3, tk4]
      refine take_dst 4 56 (.int .i64 b) rfl (by kernel_rfl) (by kernel_rfl) (by kernel_rfl) (fun _ _ _ h => h) (Or.inl ⟨by rfl, by intro wv hSv; unfold BxS at hSv; obtain ⟨h0, h1, h2, h3, h4, h5⟩ := hSv; go_simp⟩) hd rfl ?_
      try simp only [tk0, tk1, tk2, tk3, tk4]
      refine take_dst 5 57 (.bool false) rfl (by kernel_rfl) (by kernel_rfl) (by kernel_rfl) (fun _ _ _ h => h) (Or.inl ⟨by rfl, by intro wv hSv; go_simp⟩) hd rfl ?_
      try simp only [tk0, tk1, tk2, tk3, tk4]
      refine take_dst 6 58 (.bool false) rfl (by kernel_rfl) (by kernel_rfl) (by kernel_rfl) (fun _ _ _ h => h) (Or.inl ⟨by rfl, by intro wv hSv; go_simp⟩) hd rfl ?_
      try simp only [tk0, tk1, tk2, tk3, tk4]
      refine take_dst 7 59 (.bool false) rfl (by kernel_rfl) (by kernel_rfl) (by kernel_rfl) (fun _ _ _ h => h) (Or.inl ⟨by rfl, by intro wv hSv; go_simp⟩) hd rfl ?_
      try simp only [tk0, tk1, tk2, tk3, tk4]
      refine take_dst 8 60 undef rfl (by kernel_rfl) (by kernel_rfl) (by kernel_rfl) (fun _ _ _ h => h) (Or.inr ⟨by rfl, rfl⟩) hd rfl ?_
      try simp only [tk0, tk1, tk2, tk3, tk4]
      refine take_dst 9 61 undef rfl (by kernel_rfl) (by kernel_rfl) (by kernel_rfl) (fun _ _ _ h => h) (Or.inr ⟨by rfl, rfl⟩) hd rfl ?_
      try simp only [tk0, tk1, tk2, tk3, tk4]
      refine take_dst 10 62 undef rfl (by kernel_rfl) (by kernel_rfl) (by kernel_rfl) (fun _ _ _ h => h) (Or.inr ⟨by rfl, rfl⟩) hd rfl ?_
      try simp only [tk0, tk1, tk2, tk3, tk4]
      refine take_dst 11 63 (.bool false) rfl (by kernel_rfl) (by kernel_rfl) (by kernel_rfl) (fun _ _ _ h => h) (Or.inl ⟨by rfl, by intro wv hSv; go_simp⟩) hd rfl ?_
      try simp only [tk0, tk1, tk2, tk3, tk4]
      refine take_dst 12 64 (.bool false) rfl (by kernel_rfl) (by kernel_rfl) (by kernel_rfl) (fun _ _ _ h => h) (Or.inl ⟨by rfl, by intro wv hSv; go_simp⟩) hd rfl ?_
      try simp only [tk0, tk1, tk2, tk3, tk4]
      refine take_dst 13 65 undef rfl (by kernel_rfl) (by kernel_rfl) (by kernel_rfl) (fun _ _ _ h => h) (Or.inr ⟨by rfl, rfl⟩) hd rfl ?_
      try simp only [tk0, tk1, tk2, tk3, tk4]
      refine take_dst 14 66 undef rfl (by kernel_rfl) (by kernel_rfl) (by kernel_rfl) (fun _ _ _ h => h) (Or.inr ⟨by rfl, rfl⟩) hd rfl ?_
      try simp only [tk0, tk1, tk2, tk3, tk4]
      refine take_dst 15 67 undef rfl (by kernel_rfl) (by kernel_rfl) (by kernel_rfl) (fun _ _ _ h => h) (Or.inr ⟨by rfl, rfl⟩) hd rfl ?_
      try simp only [tk0, tk1, tk2, tk3, tk4]
      refine take_dst 16 68 undef rfl (by kernel_rfl) (by kernel_rfl) (by kernel_rfl) (fun _ _ _ h => h) (Or.inr ⟨by rfl, rfl⟩) hd rfl ?_
      try simp only [tk0, tk1, tk2, tk3, tk4]
      refine take_dst 17 69 undef rfl (by kernel_rfl) (by kernel_rfl) (by kernel_rfl) (fun _ _ _ h => h) (Or.inr ⟨by rfl, rfl⟩) hd rfl ?_
      try simp only [tk0, tk1, tk2, tk3, tk4]
      refine take_dst 18 70 undef rfl (by kernel_rfl) (by kernel_rfl) (by kernel_rfl) (fun _ _ _ h => h) (Or.inr ⟨by rfl, rfl⟩) hd rfl ?_
      try simp only [tk0, tk1, tk2, tk3, tk4]
      refine take_dst 19 71 undef rfl (by kernel_rfl) (by kernel_rfl) (by kernel_rfl) (fun _ _ _ h => h) (Or.inr ⟨by rfl, rfl⟩) hd rfl ?_
      try simp only [tk0, tk1, tk2, tk3, tk4]
      refine take_dst 20 72 (.bool false) rfl (by kernel_rfl) (by kernel_rfl) (by kernel_rfl) (fun _ _ _ h => h) (Or.inl ⟨by rfl, by intro wv hSv; go_simp⟩) hd rfl ?_
      try simp only [tk0, tk1, tk2, tk3, tk4]
      refine wpAnyH_done (by kernel_rfl) ?_ _
      have hbF : Below w.heap.size w y.drew := hb9.trans (Below.mono (Below.refl y.heap.size y).drew hb9.size)
      have hBf : BxS w n p.regs a b c s y.drew := hB
      obtain ⟨z0, z1, z2, z3, z4, z5⟩ := id hBf
      clear hB hBf hk hd
      go_wp2_with (go_at_call 104; refine (l4Has_I _ _ _ hz (by omega)).mono ?_; rintro e y2 ⟨rfl, rfl⟩)
      all_goals go_ret
      all_goals exact ⟨⟨_, rfl, by rw [decide_eq_true_iff] <;> omega⟩, by assumption⟩
  · have qb : rsz b = b := if_neg ob
    have nb : (b != 511) = true := by simp [ob]
    by_cases zb : 0 < b
    · rw [qb]
      clear qb
      go_enter Tryz.func101, Tryz.ntmps101
      go_upto_region 13 with (first | (go_at_call 105; refine (l4Use_in n _ hn).mono ?_; rintro e y ⟨rfl, b9⟩; have hb9 := below2 b9; have hBl := (BxS.of b9).2; have hB := (BxS.of b9).1; obtain ⟨z0, z1, z2, z3, z4, z5⟩ := id hB; clear b9) | (go_at_call 104; refine (l4Has_I _ _ _ hz (by omega)).mono ?_; rintro e y2 ⟨rfl, rfl⟩))
      all_goals
        clear z0 z1 z2 z3 z4 z5
        have hk : Hid (∀ x, Below y.heap.size y x → BxS w n p.regs a b c s x) := fun x hx => BxS.later hB hBl hx
        have hwb : IntKind.i64.wrap (a + b) = a + b := by simp [IntKind.wrap, IntKind.bits, IntKind.signed]; omega
        have hF : Hid (∀ x, Below y.heap.size y x → Calls Tryz.prog 40 #[insV n a b c s] x fun e x' => e = .returned (.int .i64 (a)) ∧ Below y.heap.size y x') := fun x hx => (l4From_0 _ a b c s x (by omega) (by omega)).mono fun e x' ⟨he, hb⟩ => ⟨he, hx.trans (hb.mono hx.size)⟩
        have hd : BxS w n p.regs a b c s y.drew := hB
        refine wp_region_held_drew (S := BxS w n p.regs a b c s) (by kernel_rfl) hd (fun hH => ?_)
        refine take_dst 0 52 (.string (useS n)) rfl (by kernel_rfl) (by kernel_rfl) (by kernel_rfl) (fun _ _ _ h => h) (Or.inl ⟨by rfl, by intro wv hSv; go_simp⟩) hd rfl ?_
        try simp only [tk0, tk1, tk2, tk3, tk4]
        refine wpAnyH_ready (rs := [1]) (by kernel_rfl) (by simp) ?_
        refine AllReadyH.cons rfl (fun KK hKK => ?_) AllReadyH.nil
        go_simp
        refine (l4Has_I _ _ _ hz (by omega)).mono ?_
        rintro e y2 ⟨rfl, rfl⟩
        rw [l118]
        go_wp2_with fail
        refine hKK.out _ _ hd (fun _ => ?_)
        clear hKK KK
        try simp only [tk0, tk1, tk2, tk3, tk4]
        refine take_dst 2 54 (.bool true) rfl (by kernel_rfl) (by kernel_rfl) (by kernel_rfl) (fun _ _ _ h => h) (Or.inl ⟨by rfl, by intro wv hSv; go_simp⟩) hd rfl ?_
        try simp only [tk0, tk1, tk2, tk3, tk4]
        refine take_dst 3 55 (.pointer (some ⟨w.heap.size + 1, 2, none⟩)) rfl (by kernel_rfl) (by kernel_rfl) (by kernel_rfl) (fun _ _ _ h => h) (Or.inl ⟨by rfl, by intro wv hSv; go_simp⟩) hd rfl ?_
        try simp only [tk0, tk1, tk2, tk3, tk4]
        refine take_dst 4 56 (.int .i64 b) rfl (by kernel_rfl) (by kernel_rfl) (by kernel_rfl) (fun _ _ _ h => h) (Or.inl ⟨by rfl, by intro wv hSv; unfold BxS at hSv; obtain ⟨h0, h1, h2, h3, h4, h5⟩ := hSv; go_simp⟩) hd rfl ?_
        try simp only [tk0, tk1, tk2, tk3, tk4]
        refine take_dst 5 57 (.bool true) rfl (by kernel_rfl) (by kernel_rfl) (by kernel_rfl) (fun _ _ _ h => h) (Or.inl ⟨by rfl, by intro wv hSv; go_simp⟩) hd rfl ?_
        try simp only [tk0, tk1, tk2, tk3, tk4]
        refine take_dst 6 58 (.bool true) rfl (by kernel_rfl) (by kernel_rfl) (by kernel_rfl) (fun _ _ _ h => h) (Or.inl ⟨by rfl, by intro wv hSv; go_simp⟩) hd rfl ?_
        try simp only [tk0, tk1, tk2, tk3, tk4]
        refine take_dst 7 59 (.bool true) rfl (by kernel_rfl) (by kernel_rfl) (by kernel_rfl) (fun _ _ _ h => h) (Or.inl ⟨by rfl, by intro wv hSv; go_simp⟩) hd rfl ?_
        try simp only [tk0, tk1, tk2, tk3, tk4]
        refine take_dst 8 60 (.pointer (some ⟨w.heap.size + 1, 2, none⟩)) rfl (by kernel_rfl) (by kernel_rfl) (by kernel_rfl) (fun _ _ _ h => h) (Or.inl ⟨by rfl, by intro wv hSv; go_simp⟩) hd rfl ?_
        try simp only [tk0, tk1, tk2, tk3, tk4]
        refine take_dst 9 61 (.int .i64 b) rfl (by kernel_rfl) (by kernel_rfl) (by kernel_rfl) (fun _ _ _ h => h) (Or.inl ⟨by rfl, by intro wv hSv; unfold BxS at hSv; obtain ⟨h0, h1, h2, h3, h4, h5⟩ := hSv; go_simp⟩) hd rfl ?_
        try simp only [tk0, tk1, tk2, tk3, tk4]
        refine take_dst 10 62 (.bool true) rfl (by kernel_rfl) (by kernel_rfl) (by kernel_rfl) (fun _ _ _ h => h) (Or.inl ⟨by rfl, by intro wv hSv; go_simp⟩) hd rfl ?_
        try simp only [tk0, tk1, tk2, tk3, tk4]
        refine take_dst 11 63 (.bool true) rfl (by kernel_rfl) (by kernel_rfl) (by kernel_rfl) (fun _ _ _ h => h) (Or.inl ⟨by rfl, by intro wv hSv; go_simp⟩) hd rfl ?_
        try simp only [tk0, tk1, tk2, tk3, tk4]
        refine take_dst 12 64 (.bool true) rfl (by kernel_rfl) (by kernel_rfl) (by kernel_rfl) (fun _ _ _ h => h) (Or.inl ⟨by rfl, by intro wv hSv; go_simp⟩) hd rfl ?_
        try simp only [tk0, tk1, tk2, tk3, tk4]
        refine take_dst 13 65 (.agg #[.int .i64 (n : Int), .int .i64 a, .int .i64 b, .int .i64 c, .int .i64 s]) rfl (by kernel_rfl) (by kernel_rfl) (by kernel_rfl) (fun _ _ _ h => h) (Or.inl ⟨by rfl, by intro wv hSv; unfold BxS at hSv; obtain ⟨h0, h1, h2, h3, h4, h5⟩ := hSv; go_simp⟩) hd rfl ?_
        try simp only [tk0, tk1, tk2, tk3, tk4]
        refine take_dst 15 67 (.pointer (some ⟨w.heap.size + 1, 2, none⟩)) rfl (by kernel_rfl) (by kernel_rfl) (by kernel_rfl) (fun _ _ _ h => h) (Or.inl ⟨by rfl, by intro wv hSv; go_simp⟩) hd rfl ?_
        try simp only [tk0, tk1, tk2, tk3, tk4]
        refine take_dst 16 68 (.int .i64 b) rfl (by kernel_rfl) (by kernel_rfl) (by kernel_rfl) (fun _ _ _ h => h) (Or.inl ⟨by rfl, by intro wv hSv; unfold BxS at hSv; obtain ⟨h0, h1, h2, h3, h4, h5⟩ := hSv; go_simp⟩) hd rfl ?_
        try simp only [tk0, tk1, tk2, tk3, tk4]
        refine take_dst 18 70 (.int .i64 (a + 1)) rfl (by kernel_rfl) (by kernel_rfl) (by kernel_rfl) (fun _ _ _ h => h) (Or.inl ⟨by rfl, by intro wv hSv; go_simp⟩) hd rfl ?_
        try simp only [tk0, tk1, tk2, tk3, tk4]
        refine wpAnyH_ready (rs := [14]) (by kernel_rfl) (by simp) ?_
        refine AllReadyH.cons rfl (fun KK hKK => ?_) AllReadyH.nil
        go_simp
        refine (hF.out _ (Below.refl _ _).drew).mono ?_
        rintro e y4 ⟨rfl, b4⟩
        have h4 : BxS w n p.regs a b c s y4 := hk.out y4 b4
        go_wp2_with fail
        refine hKK.out _ _ h4 (fun _ => ?_)
        clear hKK KK
        try simp only [tk0, tk1, tk2, tk3, tk4]
        refine take_dst 17 69 (.int .i64 (a + b)) rfl (by kernel_rfl) (by kernel_rfl) (by kernel_rfl) (fun _ _ _ h => h) (Or.inl ⟨by rfl, by intro wv hSv; go_simp⟩) h4 rfl ?_
        try simp only [tk0, tk1, tk2, tk3, tk4]
        refine take_dst 19 71 (.bool (decide (a + 1 < a + b))) rfl (by kernel_rfl) (by kernel_rfl) (by kernel_rfl) (fun _ _ _ h => h) (Or.inl ⟨by rfl, by intro wv hSv; go_simp⟩) h4 rfl ?_
        try simp only [tk0, tk1, tk2, tk3, tk4]
        refine take_dst 20 72 (.bool (decide (a + 1 < a + b))) rfl (by kernel_rfl) (by kernel_rfl) (by kernel_rfl) (fun _ _ _ h => h) (Or.inl ⟨by rfl, by intro wv hSv; go_simp⟩) h4 rfl ?_
        try simp only [tk0, tk1, tk2, tk3, tk4]
        refine wpAnyH_done (by kernel_rfl) ?_ _
        by_cases hgt : a + 1 < a + b
        · have dgt : decide (a + 1 < a + b) = true := by simp; omega
          go_wp2_with fail
          have hd2 : BxS w n p.regs a b c s y4.drew := h4
          refine wp_region_held_drew (S := BxS w n p.regs a b c s) (by kernel_rfl) hd2 (fun hH => ?_)
          refine take_dst 0 73 (.agg #[.int .i64 (n : Int), .int .i64 a, .int .i64 b, .int .i64 c, .int .i64 s]) rfl (by kernel_rfl) (by kernel_rfl) (by kernel_rfl) (fun _ _ _ h => h) (Or.inl ⟨by rfl, by intro wv hSv; unfold BxS at hSv; obtain ⟨h0, h1, h2, h3, h4, h5⟩ := hSv; go_simp⟩) hd2 rfl ?_
          try simp only [tk0, tk1, tk2, tk3, tk4]
          refine take_dst 2 75 (.pointer (some ⟨w.heap.size + 1, 2, none⟩)) rfl (by kernel_rfl) (by kernel_rfl) (by kernel_rfl) (fun _ _ _ h => h) (Or.inl ⟨by rfl, by intro wv hSv; go_simp⟩) hd2 rfl ?_
          try simp only [tk0, tk1, tk2, tk3, tk4]
          refine take_dst 3 76 (.int .i64 b) rfl (by kernel_rfl) (by kernel_rfl) (by kernel_rfl) (fun _ _ _ h => h) (Or.inl ⟨by rfl, by intro wv hSv; unfold BxS at hSv; obtain ⟨h0, h1, h2, h3, h4, h5⟩ := hSv; go_simp⟩) hd2 rfl ?_
          try simp only [tk0, tk1, tk2, tk3, tk4]
          refine wpAnyH_ready (rs := [1]) (by kernel_rfl) (by simp) ?_
          refine AllReadyH.cons rfl (fun KK hKK => ?_) AllReadyH.nil
          go_simp
          refine (hF.out _ b4.drew).mono ?_
          rintro e y5 ⟨rfl, b5⟩
          have h5 : BxS w n p.regs a b c s y5 := hk.out y5 b5
          go_wp2_with fail
          refine hKK.out _ _ h5 (fun _ => ?_)
          clear hKK KK
          try simp only [tk0, tk1, tk2, tk3, tk4]
          refine take_dst 4 77 (.int .i64 (a + b)) rfl (by kernel_rfl) (by kernel_rfl) (by kernel_rfl) (fun _ _ _ h => h) (Or.inl ⟨by rfl, by intro wv hSv; go_simp⟩) h5 rfl ?_
          try simp only [tk0, tk1, tk2, tk3, tk4]
          refine take_dst 5 6 (.int .i64 (a + b)) rfl (by kernel_rfl) (by kernel_rfl) (by kernel_rfl) (fun _ _ _ h => h) (Or.inl ⟨by rfl, by intro wv hSv; go_simp⟩) h5 rfl ?_
          try simp only [tk0, tk1, tk2, tk3, tk4]
          refine wpAnyH_done (by kernel_rfl) ?_ _
          have hbF : Below w.heap.size w y5 := hb9.trans (Below.mono b5 hb9.size)
          have hBf : BxS w n p.regs a b c s y5 := h5
          obtain ⟨z0, z1, z2, z3, z4, z5⟩ := id hBf
          clear hB hBf hk hF hd
          go_wp2_with (go_at_call 104; refine (l4Has_I _ _ _ hz (by omega)).mono ?_; rintro e y2 ⟨rfl, rfl⟩)
          all_goals go_ret
          all_goals exact ⟨⟨_, rfl, by rw [decide_eq_true_iff] <;> omega⟩, by assumption⟩
        · have dgt : decide (a + 1 < a + b) = false := by simp; omega
          have hbF : Below w.heap.size w y4 := hb9.trans (Below.mono b4 hb9.size)
          have hBf : BxS w n p.regs a b c s y4 := h4
          obtain ⟨z0, z1, z2, z3, z4, z5⟩ := id hBf
          clear hB hBf hk hF hd
          go_wp2_with (go_at_call 104; refine (l4Has_I _ _ _ hz (by omega)).mono ?_; rintro e y2 ⟨rfl, rfl⟩)
          all_goals go_ret
          all_goals exact ⟨⟨_, rfl, by rw [decide_eq_true_iff] <;> omega⟩, by assumption⟩
    · have db : decide (0 < b) = false := by simp; omega
      rw [qb]
      clear qb
      go_enter Tryz.func101, Tryz.ntmps101
      go_upto_region 13 with (first | (go_at_call 105; refine (l4Use_in n _ hn).mono ?_; rintro e y ⟨rfl, b9⟩; have hb9 := below2 b9; have hBl := (BxS.of b9).2; have hB := (BxS.of b9).1; obtain ⟨z0, z1, z2, z3, z4, z5⟩ := id hB; clear b9) | (go_at_call 104; refine (l4Has_I _ _ _ hz (by omega)).mono ?_; rintro e y2 ⟨rfl, rfl⟩))
      all_goals
        clear z0 z1 z2 z3 z4 z5
        have hk : Hid (∀ x, Below y.heap.size y x → BxS w n p.regs a b c s x) := fun x hx => BxS.later hB hBl hx
        have hd : BxS w n p.regs a b c s y.drew := hB
        refine wp_region_held_drew (S := BxS w n p.regs a b c s) (by kernel_rfl) hd (fun hH => ?_)
        refine take_dst 0 52 (.string (useS n)) rfl (by kernel_rfl) (by kernel_rfl) (by kernel_rfl) (fun _ _ _ h => h) (Or.inl ⟨by rfl, by intro wv hSv; go_simp⟩) hd rfl ?_
        try simp only [tk0, tk1, tk2, tk3, tk4]
        refine wpAnyH_ready (rs := [1]) (by kernel_rfl) (by simp) ?_
        refine AllReadyH.cons rfl (fun KK hKK => ?_) AllReadyH.nil
        go_simp
        refine (l4Has_I _ _ _ hz (by omega)).mono ?_
        rintro e y2 ⟨rfl, rfl⟩
        rw [l118]
        go_wp2_with fail
        refine hKK.out _ _ hd (fun _ => ?_)
        clear hKK KK
        try simp only [tk0, tk1, tk2, tk3, tk4]
        refine take_dst 2 54 (.bool true) rfl (by kernel_rfl) (by kernel_rfl) (by kernel_rfl) (fun _ _ _ h => h) (Or.inl ⟨by rfl, by intro wv hSv; go_simp⟩) hd rfl ?_
        try simp only [tk0, tk1, tk2, tk3, tk4]
        refine take_dst 3 55 (.pointer (some ⟨w.heap.size + 1, 2, none⟩)) rfl (by kernel_rfl) (by kernel_rfl) (by kernel_rfl) (fun _ _ _ h => h) (Or.inl ⟨by rfl, by intro wv hSv; go_simp⟩) hd rfl ?_
        try simp only [tk0, tk1, tk2, tk3, tk4]
        refine take_dst 4 56 (.int .i64 b) rfl (by kernel_rfl) (by kernel_rfl) (by kernel_rfl) (fun _ _ _ h => h) (Or.inl ⟨by rfl, by intro wv hSv; unfold BxS at hSv; obtain ⟨h0, h1, h2, h3, h4, h5⟩ := hSv; go_simp⟩) hd rfl ?_
        try simp only [tk0, tk1, tk2, tk3, tk4]
        refine take_dst 5 57 (.bool true) rfl (by kernel_rfl) (by kernel_rfl) (by kernel_rfl) (fun _ _ _ h => h) (Or.inl ⟨by rfl, by intro wv hSv; go_simp⟩) hd rfl ?_
        try simp only [tk0, tk1, tk2, tk3, tk4]
        refine take_dst 6 58 (.bool true) rfl (by kernel_rfl) (by kernel_rfl) (by kernel_rfl) (fun _ _ _ h => h) (Or.inl ⟨by rfl, by intro wv hSv; go_simp⟩) hd rfl ?_
        try simp only [tk0, tk1, tk2, tk3, tk4]
        refine take_dst 7 59 (.bool true) rfl (by kernel_rfl) (by kernel_rfl) (by kernel_rfl) (fun _ _ _ h => h) (Or.inl ⟨by rfl, by intro wv hSv; go_simp⟩) hd rfl ?_
        try simp only [tk0, tk1, tk2, tk3, tk4]
        refine take_dst 8 60 (.pointer (some ⟨w.heap.size + 1, 2, none⟩)) rfl (by kernel_rfl) (by kernel_rfl) (by kernel_rfl) (fun _ _ _ h => h) (Or.inl ⟨by rfl, by intro wv hSv; go_simp⟩) hd rfl ?_
        try simp only [tk0, tk1, tk2, tk3, tk4]
        refine take_dst 9 61 (.int .i64 b) rfl (by kernel_rfl) (by kernel_rfl) (by kernel_rfl) (fun _ _ _ h => h) (Or.inl ⟨by rfl, by intro wv hSv; unfold BxS at hSv; obtain ⟨h0, h1, h2, h3, h4, h5⟩ := hSv; go_simp⟩) hd rfl ?_
        try simp only [tk0, tk1, tk2, tk3, tk4]
        refine take_dst 10 62 (.bool false) rfl (by kernel_rfl) (by kernel_rfl) (by kernel_rfl) (fun _ _ _ h => h) (Or.inl ⟨by rfl, by intro wv hSv; go_simp⟩) hd rfl ?_
        try simp only [tk0, tk1, tk2, tk3, tk4]
        refine take_dst 11 63 (.bool false) rfl (by kernel_rfl) (by kernel_rfl) (by kernel_rfl) (fun _ _ _ h => h) (Or.inl ⟨by rfl, by intro wv hSv; go_simp⟩) hd rfl ?_
        try simp only [tk0, tk1, tk2, tk3, tk4]
        refine take_dst 12 64 (.bool false) rfl (by kernel_rfl) (by kernel_rfl) (by kernel_rfl) (fun _ _ _ h => h) (Or.inl ⟨by rfl, by intro wv hSv; go_simp⟩) hd rfl ?_
        try simp only [tk0, tk1, tk2, tk3, tk4]
        refine take_dst 13 65 undef rfl (by kernel_rfl) (by kernel_rfl) (by kernel_rfl) (fun _ _ _ h => h) (Or.inr ⟨by rfl, rfl⟩) hd rfl ?_
        try simp only [tk0, tk1, tk2, tk3, tk4]
        refine take_dst 14 66 undef rfl (by kernel_rfl) (by kernel_rfl) (by kernel_rfl) (fun _ _ _ h => h) (Or.inr ⟨by rfl, rfl⟩) hd rfl ?_
        try simp only [tk0, tk1, tk2, tk3, tk4]
        refine take_dst 15 67 undef rfl (by kernel_rfl) (by kernel_rfl) (by kernel_rfl) (fun _ _ _ h => h) (Or.inr ⟨by rfl, rfl⟩) hd rfl ?_
        try simp only [tk0, tk1, tk2, tk3, tk4]
        refine take_dst 16 68 undef rfl (by kernel_rfl) (by kernel_rfl) (by kernel_rfl) (fun _ _ _ h => h) (Or.inr ⟨by rfl, rfl⟩) hd rfl ?_
        try simp only [tk0, tk1, tk2, tk3, tk4]
        refine take_dst 17 69 undef rfl (by kernel_rfl) (by kernel_rfl) (by kernel_rfl) (fun _ _ _ h => h) (Or.inr ⟨by rfl, rfl⟩) hd rfl ?_
        try simp only [tk0, tk1, tk2, tk3, tk4]
        refine take_dst 18 70 undef rfl (by kernel_rfl) (by kernel_rfl) (by kernel_rfl) (fun _ _ _ h => h) (Or.inr ⟨by rfl, rfl⟩) hd rfl ?_
        try simp only [tk0, tk1, tk2, tk3, tk4]
        refine take_dst 19 71 undef rfl (by kernel_rfl) (by kernel_rfl) (by kernel_rfl) (fun _ _ _ h => h) (Or.inr ⟨by rfl, rfl⟩) hd rfl ?_
        try simp only [tk0, tk1, tk2, tk3, tk4]
        refine take_dst 20 72 (.bool false) rfl (by kernel_rfl) (by kernel_rfl) (by kernel_rfl) (fun _ _ _ h => h) (Or.inl ⟨by rfl, by intro wv hSv; go_simp⟩) hd rfl ?_
        try simp only [tk0, tk1, tk2, tk3, tk4]
        refine wpAnyH_done (by kernel_rfl) ?_ _
        have hbF : Below w.heap.size w y.drew := hb9.trans (Below.mono (Below.refl y.heap.size y).drew hb9.size)
        have hBf : BxS w n p.regs a b c s y.drew := hB
        obtain ⟨z0, z1, z2, z3, z4, z5⟩ := id hBf
        clear hB hBf hk hd
        go_wp2_with (go_at_call 104; refine (l4Has_I _ _ _ hz (by omega)).mono ?_; rintro e y2 ⟨rfl, rfl⟩)
        all_goals go_ret
        all_goals exact ⟨⟨_, rfl, by rw [decide_eq_true_iff] <;> omega⟩, by assumption⟩
theorem regs_rvwc (n : Nat) (hn : n ≤ 63) (p : PD) (ac : Option Addr) (cc : Nat) (o4 : Option Addr) (c4 : Nat) (o5 : Option Addr) (c5 : Nat) (o8 : Option Addr) (c8 : Nat) (o9 : Option Addr) (c9 : Nat) (a b c s : Int) (w : World) (a1 : 0 ≤ a) (a2 : a ≤ 255) (b1 : 0 ≤ b) (b2 : b ≤ 511) (c1 : 0 ≤ c) (c2 : c ≤ 511) (l114 : hasC (useS n) 114 = true) (l110 : hasC (useS n) 110 = false) (l52 : hasC (useS n) 52 = false) (l115 : hasC (useS n) 115 = false) (l116 : hasC (useS n) 116 = false) (l118 : hasC (useS n) 118 = true) (l119 : hasC (useS n) 119 = true) (hop : n = 22 ∨ n = 30) :
    Calls Tryz.prog 101 #[prV p ac cc o4 c4 o5 c5 o8 c8 o9 c9, insV n a b c s] w fun e w' => Says e (a + max (1 + rsz b) (rsz c) ≤ p.regs) ∧ Below w.heap.size w w' := by
  have hz := useS_size n (by omega)
  by_cases ob : b = 511
  · have qb : rsz b = 0 := if_pos ob
    have nb : (b != 511) = false := by simp [ob]
    replace ob : Hid (b = 511) := ob
    by_cases oc : c = 511
    · have qc : rsz c = 0 := if_pos oc
      have nc : (c != 511) = false := by simp [oc]
      replace oc : Hid (c = 511) := oc
      rw [qb, qc]
      clear qb qc
      go_enter Tryz.func101, Tryz.ntmps101
      go_upto_region 13 with (first | (go_at_call 105; refine (l4Use_in n _ hn).mono ?_; rintro e y ⟨rfl, b9⟩; have hb9 := below2 b9; have hBl := (BxS.of b9).2; have hB := (BxS.of b9).1; obtain ⟨z0, z1, z2, z3, z4, z5⟩ := id hB; clear b9) | (go_at_call 104; refine (l4Has_I _ _ _ hz (by omega)).mono ?_; rintro e y2 ⟨rfl, rfl⟩))
      all_goals
        clear z0 z1 z2 z3 z4 z5
        have hk : Hid (∀ x, Below y.heap.size y x → BxS w n p.regs a b c s x) := fun x hx => BxS.later hB hBl hx
        have hd : BxS w n p.regs a b c s y.drew := hB
        refine wp_region_held_drew (S := BxS w n p.regs a b c s) (by kernel_rfl) hd (fun hH => ?_)
        refine take_dst 0 52 (.string (useS n)) rfl (by kernel_rfl) (by kernel_rfl) (by kernel_rfl) (fun _ _ _ h => h) (Or.inl ⟨by rfl, by intro wv hSv; go_simp⟩) hd rfl ?_
        try simp only [tk0, tk1, tk2, tk3, tk4]
        refine wpAnyH_ready (rs := [1]) (by kernel_rfl) (by simp) ?_
        refine AllReadyH.cons rfl (fun KK hKK => ?_) AllReadyH.nil
        go_simp
        refine (l4Has_I _ _ _ hz (by omega)).mono ?_
        rintro e y2 ⟨rfl, rfl⟩
        rw [l118]
        go_wp2_with fail
        refine hKK.out _ _ hd (fun _ => ?_)
        clear hKK KK
        try simp only [tk0, tk1, tk2, tk3, tk4]
        refine take_dst 2 54 (.bool true) rfl (by kernel_rfl) (by kernel_rfl) (by kernel_rfl) (fun _ _ _ h => h) (Or.inl ⟨by rfl, by intro wv hSv; go_simp⟩) hd rfl ?_
        try simp only [tk0, tk1, tk2, tk3, tk4]
        refine take_dst 3 55 (.pointer (some ⟨w.heap.size + 1, 2, none⟩)) rfl (by kernel_rfl) (by kernel_rfl) (by kernel_rfl) (fun _ _ _ h => h) (Or.inl ⟨by rfl, by intro wv hSv; go_simp⟩) hd rfl ?_
        try simp only [tk0, tk1, tk2, tk3, tk4]
        refine take_dst 4 56 (.int .i64 b) rfl (by kernel_rfl) (by kernel_rfl) (by kernel_rfl) (fun _ _ _ h => h) (Or.inl ⟨by rfl, by intro wv hSv; unfold BxS at hSv; obtain ⟨h0, h1, h2, h3, h4, h5⟩ := hSv; go_simp⟩) hd rfl ?_
        try simp only [tk0, tk1, tk2, tk3, tk4]
        refine take_dst 5 57 (.bool false) rfl (by kernel_rfl) (by kernel_rfl) (by kernel_rfl) (fun _ _ _ h => h) (Or.inl ⟨by rfl, by intro wv hSv; go_simp⟩) hd rfl ?_
        try simp only [tk0, tk1, tk2, tk3, tk4]
        refine take_dst 6 58 (.bool false) rfl (by kernel_rfl) (by kernel_rfl) (by kernel_rfl) (fun _ _ _ h => h) (Or.inl ⟨by rfl, by intro wv hSv; go_simp⟩) hd rfl ?_
        try simp only [tk0, tk1, tk2, tk3, tk4]
        refine take_dst 7 59 (.bool false) rfl (by kernel_rfl) (by kernel_rfl) (by kernel_rfl) (fun _ _ _ h => h) (Or.inl ⟨by rfl, by intro wv hSv; go_simp⟩) hd rfl ?_
        try simp only [tk0, tk1, tk2, tk3, tk4]
        refine take_dst 8 60 undef rfl (by kernel_rfl) (by kernel_rfl) (by kernel_rfl) (fun _ _ _ h => h) (Or.inr ⟨by rfl, rfl⟩) hd rfl ?_
        try simp only [tk0, tk1, tk2, tk3, tk4]
        refine take_dst 9 61 undef rfl (by kernel_rfl) (by kernel_rfl) (by kernel_rfl) (fun _ _ _ h => h) (Or.inr ⟨by rfl, rfl⟩) hd rfl ?_
        try simp only [tk0, tk1, tk2, tk3, tk4]
        refine take_dst 10 62 undef rfl (by kernel_rfl) (by kernel_rfl) (by kernel_rfl) (fun _ _ _ h => h) (Or.inr ⟨by rfl, rfl⟩) hd rfl ?_
        try simp only [tk0, tk1, tk2, tk3, tk4]
        refine take_dst 11 63 (.bool false) rfl (by kernel_rfl) (by kernel_rfl) (by kernel_rfl) (fun _ _ _ h => h) (Or.inl ⟨by rfl, by intro wv hSv; go_simp⟩) hd rfl ?_
        try simp only [tk0, tk1, tk2, tk3, tk4]
        refine take_dst 12 64 (.bool false) rfl (by kernel_rfl) (by kernel_rfl) (by kernel_rfl) (fun _ _ _ h => h) (Or.inl ⟨by rfl, by intro wv hSv; go_simp⟩) hd rfl ?_
        try simp only [tk0, tk1, tk2, tk3, tk4]
        refine take_dst 13 65 undef rfl (by kernel_rfl) (by kernel_rfl) (by kernel_rfl) (fun _ _ _ h => h) (Or.inr ⟨by rfl, rfl⟩) hd rfl ?_
        try simp only [tk0, tk1, tk2, tk3, tk4]
        refine take_dst 14 66 undef rfl (by kernel_rfl) (by kernel_rfl) (by kernel_rfl) (fun _ _ _ h => h) (Or.inr ⟨by rfl, rfl⟩) hd rfl ?_
        try simp only [tk0, tk1, tk2, tk3, tk4]
        refine take_dst 15 67 undef rfl (by kernel_rfl) (by kernel_rfl) (by kernel_rfl) (fun _ _ _ h => h) (Or.inr ⟨by rfl, rfl⟩) hd rfl ?_
        try simp only [tk0, tk1, tk2, tk3, tk4]
        refine take_dst 16 68 undef rfl (by kernel_rfl) (by kernel_rfl) (by kernel_rfl) (fun _ _ _ h => h) (Or.inr ⟨by rfl, rfl⟩) hd rfl ?_
        try simp only [tk0, tk1, tk2, tk3, tk4]
        refine take_dst 17 69 undef rfl (by kernel_rfl) (by kernel_rfl) (by kernel_rfl) (fun _ _ _ h => h) (Or.inr ⟨by rfl, rfl⟩) hd rfl ?_
        try simp only [tk0, tk1, tk2, tk3, tk4]
        refine take_dst 18 70 undef rfl (by kernel_rfl) (by kernel_rfl) (by kernel_rfl) (fun _ _ _ h => h) (Or.inr ⟨by rfl, rfl⟩) hd rfl ?_
        try simp only [tk0, tk1, tk2, tk3, tk4]
        refine take_dst 19 71 undef rfl (by kernel_rfl) (by kernel_rfl) (by kernel_rfl) (fun _ _ _ h => h) (Or.inr ⟨by rfl, rfl⟩) hd rfl ?_
        try simp only [tk0, tk1, tk2, tk3, tk4]
        refine take_dst 20 72 (.bool false) rfl (by kernel_rfl) (by kernel_rfl) (by kernel_rfl) (fun _ _ _ h => h) (Or.inl ⟨by rfl, by intro wv hSv; go_simp⟩) hd rfl ?_
        try simp only [tk0, tk1, tk2, tk3, tk4]
        refine wpAnyH_done (by kernel_rfl) ?_ _
        have hbF : Below w.heap.size w y.drew := hb9.trans (Below.mono (Below.refl y.heap.size y).drew hb9.size)
        have hBf : BxS w n p.regs a b c s y.drew := hB
        obtain ⟨z0, z1, z2, z3, z4, z5⟩ := id hBf
        clear hB hBf hk hd
        go_wp2_with (go_at_call 104; refine (l4Has_I _ _ _ hz (by omega)).mono ?_; rintro e y2 ⟨rfl, rfl⟩)
        all_goals go_ret
        all_goals exact ⟨⟨_, rfl, by rw [decide_eq_true_iff] <;> omega⟩, by assumption⟩
    · have qc : rsz c = c := if_neg oc
      have nc : (c != 511) = true := by simp [oc]
      rw [qb, qc]
      clear qb qc
      go_enter Tryz.func101, Tryz.ntmps101
      go_upto_region 13 with (first | (go_at_call 105; refine (l4Use_in n _ hn).mono ?_; rintro e y ⟨rfl, b9⟩; have hb9 := below2 b9; have hBl := (BxS.of b9).2; have hB := (BxS.of b9).1; obtain ⟨z0, z1, z2, z3, z4, z5⟩ := id hB; clear b9) | (go_at_call 104; refine (l4Has_I _ _ _ hz (by omega)).mono ?_; rintro e y2 ⟨rfl, rfl⟩))
      all_goals
        clear z0 z1 z2 z3 z4 z5
        have hk : Hid (∀ x, Below y.heap.size y x → BxS w n p.regs a b c s x) := fun x hx => BxS.later hB hBl hx
        have hd : BxS w n p.regs a b c s y.drew := hB
        refine wp_region_held_drew (S := BxS w n p.regs a b c s) (by kernel_rfl) hd (fun hH => ?_)
        refine take_dst 0 52 (.string (useS n)) rfl (by kernel_rfl) (by kernel_rfl) (by kernel_rfl) (fun _ _ _ h => h) (Or.inl ⟨by rfl, by intro wv hSv; go_simp⟩) hd rfl ?_
        try simp only [tk0, tk1, tk2, tk3, tk4]
        refine wpAnyH_ready (rs := [1]) (by kernel_rfl) (by simp) ?_
        refine AllReadyH.cons rfl (fun KK hKK => ?_) AllReadyH.nil
        go_simp
        refine (l4Has_I _ _ _ hz (by omega)).mono ?_
        rintro e y2 ⟨rfl, rfl⟩
        rw [l118]
        go_wp2_with fail
        refine hKK.out _ _ hd (fun _ => ?_)
        clear hKK KK
        try simp only [tk0, tk1, tk2, tk3, tk4]
        refine take_dst 2 54 (.bool true) rfl (by kernel_rfl) (by kernel_rfl) (by kernel_rfl) (fun _ _ _ h => h) (Or.inl ⟨by rfl, by intro wv hSv; go_simp⟩) hd rfl ?_
        try simp only [tk0, tk1, tk2, tk3, tk4]
        refine take_dst 3 55 (.pointer (some ⟨w.heap.size + 1, 2, none⟩)) rfl (by kernel_rfl) (by kernel_rfl) (by kernel_rfl) (fun _ _ _ h => h) (Or.inl ⟨by rfl, by intro wv hSv; go_simp⟩) hd rfl ?_
        try simp only [tk0, tk1, tk2, tk3, tk4]
        refine take_dst 4 56 (.int .i64 b) rfl (by kernel_rfl) (by kernel_rfl) (by kernel_rfl) (fun _ _ _ h => h) (Or.inl ⟨by rfl, by intro wv hSv; unfold BxS at hSv; obtain ⟨h0, h1, h2, h3, h4, h5⟩ := hSv; go_simp⟩) hd rfl ?_
        try simp only [tk0, tk1, tk2, tk3, tk4]
        refine take_dst 5 57 (.bool false) rfl (by kernel_rfl) (by kernel_rfl) (by kernel_rfl) (fun _ _ _ h => h) (Or.inl ⟨by rfl, by intro wv hSv; go_simp⟩) hd rfl ?_
        try simp only [tk0, tk1, tk2, tk3, tk4]
        refine take_dst 6 58 (.bool false) rfl (by kernel_rfl) (by kernel_rfl) (by kernel_rfl) (fun _ _ _ h => h) (Or.inl ⟨by rfl, by intro wv hSv; go_simp⟩) hd rfl ?_
        try simp only [tk0, tk1, tk2, tk3, tk4]
        refine take_dst 7 59 (.bool false) rfl (by kernel_rfl) (by kernel_rfl) (by kernel_rfl) (fun _ _ _ h => h) (Or.inl ⟨by rfl, by intro wv hSv; go_simp⟩) hd rfl ?_
        try simp only [tk0, tk1, tk2, tk3, tk4]
        refine take_dst 8 60 undef rfl (by kernel_rfl) (by kernel_rfl) (by kernel_rfl) (fun _ _ _ h => h) (Or.inr ⟨by rfl, rfl⟩) hd rfl ?_
        try simp only [tk0, tk1, tk2, tk3, tk4]
        refine take_dst 9 61 undef rfl (by kernel_rfl) (by kernel_rfl) (by kernel_rfl) (fun _ _ _ h => h) (Or.inr ⟨by rfl, rfl⟩) hd rfl ?_
        try simp only [tk0, tk1, tk2, tk3, tk4]
        refine take_dst 10 62 undef rfl (by kernel_rfl) (by kernel_rfl) (by kernel_rfl) (fun _ _ _ h => h) (Or.inr ⟨by rfl, rfl⟩) hd rfl ?_
        try simp only [tk0, tk1, tk2, tk3, tk4]
        refine take_dst 11 63 (.bool false) rfl (by kernel_rfl) (by kernel_rfl) (by kernel_rfl) (fun _ _ _ h => h) (Or.inl ⟨by rfl, by intro wv hSv; go_simp⟩) hd rfl ?_
        try simp only [tk0, tk1, tk2, tk3, tk4]
        refine take_dst 12 64 (.bool false) rfl (by kernel_rfl) (by kernel_rfl) (by kernel_rfl) (fun _ _ _ h => h) (Or.inl ⟨by rfl, by intro wv hSv; go_simp⟩) hd rfl ?_
        try simp only [tk0, tk1, tk2, tk3, tk4]
        refine take_dst 13 65 undef rfl (by kernel_rfl) (by kernel_rfl) (by kernel_rfl) (fun _ _ _ h => h) (Or.inr ⟨by rfl, rfl⟩) hd rfl ?_
        try simp only [tk0, tk1, tk2, tk3, tk4]
        refine take_dst 14 66 undef rfl (by kernel_rfl) (by kernel_rfl) (by kernel_rfl) (fun _ _ _ h => h) (Or.inr ⟨by rfl, rfl⟩) hd rfl ?_
        try simp only [tk0, tk1, tk2, tk3, tk4]
        refine take_dst 15 67 undef rfl (by kernel_rfl) (by kernel_rfl) (by kernel_rfl) (fun _ _ _ h => h) (Or.inr ⟨by rfl, rfl⟩) hd rfl ?_
        try simp only [tk0, tk1, tk2, tk3, tk4]
        refine take_dst 16 68 undef rfl (by kernel_rfl) (by kernel_rfl) (by kernel_rfl) (fun _ _ _ h => h) (Or.inr ⟨by rfl, rfl⟩) hd rfl ?_
        try simp only [tk0, tk1, tk2, tk3, tk4]
        refine take_dst 17 69 undef rfl (by kernel_rfl) (by kernel_rfl) (by kernel_rfl) (fun _ _ _ h => h) (Or.inr ⟨by rfl, rfl⟩) hd rfl ?_
        try simp only [tk0, tk1, tk2, tk3, tk4]
        refine take_dst 18 70 undef rfl (by kernel_rfl) (by kernel_rfl) (by kernel_rfl) (fun _ _ _ h => h) (Or.inr ⟨by rfl, rfl⟩) hd rfl ?_
        try simp only [tk0, tk1, tk2, tk3, tk4]
        refine take_dst 19 71 undef rfl (by kernel_rfl) (by kernel_rfl) (by kernel_rfl) (fun _ _ _ h => h) (Or.inr ⟨by rfl, rfl⟩) hd rfl ?_
        try simp only [tk0, tk1, tk2, tk3, tk4]
        refine take_dst 20 72 (.bool false) rfl (by kernel_rfl) (by kernel_rfl) (by kernel_rfl) (fun _ _ _ h => h) (Or.inl ⟨by rfl, by intro wv hSv; go_simp⟩) hd rfl ?_
        try simp only [tk0, tk1, tk2, tk3, tk4]
        refine wpAnyH_done (by kernel_rfl) ?_ _
        have hbF : Below w.heap.size w y.drew := hb9.trans (Below.mono (Below.refl y.heap.size y).drew hb9.size)
        have hBf : BxS w n p.regs a b c s y.drew := hB
        obtain ⟨z0, z1, z2, z3, z4, z5⟩ := id hBf
        clear hB hBf hk hd
        go_wp2_with (go_at_call 104; refine (l4Has_I _ _ _ hz (by omega)).mono ?_; rintro e y2 ⟨rfl, rfl⟩)
        all_goals go_ret
        all_goals exact ⟨⟨_, rfl, by rw [decide_eq_true_iff] <;> omega⟩, by assumption⟩
  · have qb : rsz b = b := if_neg ob
    have nb : (b != 511) = true := by simp [ob]
    by_cases zb : 0 < b
    · by_cases oc : c = 511
      · have qc : rsz c = 0 := if_pos oc
        have nc : (c != 511) = false := by simp [oc]
        replace oc : Hid (c = 511) := oc
        rw [qb, qc]
        clear qb qc
        go_enter Tryz.func101, Tryz.ntmps101
        go_upto_region 13 with (first | (go_at_call 105; refine (l4Use_in n _ hn).mono ?_; rintro e y ⟨rfl, b9⟩; have hb9 := below2 b9; have hBl := (BxS.of b9).2; have hB := (BxS.of b9).1; obtain ⟨z0, z1, z2, z3, z4, z5⟩ := id hB; clear b9) | (go_at_call 104; refine (l4Has_I _ _ _ hz (by omega)).mono ?_; rintro e y2 ⟨rfl, rfl⟩))
        all_goals
          clear z0 z1 z2 z3 z4 z5
          have hk : Hid (∀ x, Below y.heap.size y x → BxS w n p.regs a b c s x) := fun x hx => BxS.later hB hBl hx
          have hwb : IntKind.i64.wrap (a + 1 + b) = a + 1 + b := by simp [IntKind.wrap, IntKind.bits, IntKind.signed]; omega
          have hF : Hid (∀ x, Below y.heap.size y x → Calls Tryz.prog 40 #[insV n a b c s] x fun e x' => e = .returned (.int .i64 (a + 1)) ∧ Below y.heap.size y x') := fun x hx => (l4From_1 _ a b c s x (by omega) a1 a2).mono fun e x' ⟨he, hb⟩ => ⟨he, hx.trans (hb.mono hx.size)⟩
          have hd : BxS w n p.regs a b c s y.drew := hB
          refine wp_region_held_drew (S := BxS w n p.regs a b c s) (by kernel_rfl) hd (fun hH => ?_)
          refine take_dst 0 52 (.string (useS n)) rfl (by kernel_rfl) (by kernel_rfl) (by kernel_rfl) (fun _ _ _ h => h) (Or.inl ⟨by rfl, by intro wv hSv; go_simp⟩) hd rfl ?_
          try simp only [tk0, tk1, tk2, tk3, tk4]
          refine wpAnyH_ready (rs := [1]) (by kernel_rfl) (by simp) ?_
          refine AllReadyH.cons rfl (fun KK hKK => ?_) AllReadyH.nil
          go_simp
          refine (l4Has_I _ _ _ hz (by omega)).mono ?_
          rintro e y2 ⟨rfl, rfl⟩
          rw [l118]
          go_wp2_with fail
          refine hKK.out _ _ hd (fun _ => ?_)
          clear hKK KK
          try simp only [tk0, tk1, tk2, tk3, tk4]
          refine take_dst 2 54 (.bool true) rfl (by kernel_rfl) (by kernel_rfl) (by kernel_rfl) (fun _ _ _ h => h) (Or.inl ⟨by rfl, by intro wv hSv; go_simp⟩) hd rfl ?_
          try simp only [tk0, tk1, tk2, tk3, tk4]
          refine take_dst 3 55 (.pointer (some ⟨w.heap.size + 1, 2, none⟩)) rfl (by kernel_rfl) (by kernel_rfl) (by kernel_rfl) (fun _ _ _ h => h) (Or.inl ⟨by rfl, by intro wv hSv; go_simp⟩) hd rfl ?_
          try simp only [tk0, tk1, tk2, tk3, tk4]
          refine take_dst 4 56 (.int .i64 b) rfl (by kernel_rfl) (by kernel_rfl) (by kernel_rfl) (fun _ _ _ h => h) (Or.inl ⟨by rfl, by intro wv hSv; unfold BxS at hSv; obtain ⟨h0, h1, h2, h3, h4, h5⟩ := hSv; go_simp⟩) hd rfl ?_
          try simp only [tk0, tk1, tk2, tk3, tk4]
          refine take_dst 5 57 (.bool true) rfl (by kernel_rfl) (by kernel_rfl) (by kernel_rfl) (fun _ _ _ h => h) (Or.inl ⟨by rfl, by intro wv hSv; go_simp⟩) hd rfl ?_
          try simp only [tk0, tk1, tk2, tk3, tk4]
          refine take_dst 6 58 (.bool true) rfl (by kernel_rfl) (by kernel_rfl) (by kernel_rfl) (fun _ _ _ h => h) (Or.inl ⟨by rfl, by intro wv hSv; go_simp⟩) hd rfl ?_
          try simp only [tk0, tk1, tk2, tk3, tk4]
          refine take_dst 7 59 (.bool true) rfl (by kernel_rfl) (by kernel_rfl) (by kernel_rfl) (fun _ _ _ h => h) (Or.inl ⟨by rfl, by intro wv hSv; go_simp⟩) hd rfl ?_
          try simp only [tk0, tk1, tk2, tk3, tk4]
          refine take_dst 8 60 (.pointer (some ⟨w.heap.size + 1, 2, none⟩)) rfl (by kernel_rfl) (by kernel_rfl) (by kernel_rfl) (fun _ _ _ h => h) (Or.inl ⟨by rfl, by intro wv hSv; go_simp⟩) hd rfl ?_
          try simp only [tk0, tk1, tk2, tk3, tk4]
          refine take_dst 9 61 (.int .i64 b) rfl (by kernel_rfl) (by kernel_rfl) (by kernel_rfl) (fun _ _ _ h => h) (Or.inl ⟨by rfl, by intro wv hSv; unfold BxS at hSv; obtain ⟨h0, h1, h2, h3, h4, h5⟩ := hSv; go_simp⟩) hd rfl ?_
          try simp only [tk0, tk1, tk2, tk3, tk4]
          refine take_dst 10 62 (.bool true) rfl (by kernel_rfl) (by kernel_rfl) (by kernel_rfl) (fun _ _ _ h => h) (Or.inl ⟨by rfl, by intro wv hSv; go_simp⟩) hd rfl ?_
          try simp only [tk0, tk1, tk2, tk3, tk4]
          refine take_dst 11 63 (.bool true) rfl (by kernel_rfl) (by kernel_rfl) (by kernel_rfl) (fun _ _ _ h => h) (Or.inl ⟨by rfl, by intro wv hSv; go_simp⟩) hd rfl ?_
          try simp only [tk0, tk1, tk2, tk3, tk4]
          refine take_dst 12 64 (.bool true) rfl (by kernel_rfl) (by kernel_rfl) (by kernel_rfl) (fun _ _ _ h => h) (Or.inl ⟨by rfl, by intro wv hSv; go_simp⟩) hd rfl ?_
          try simp only [tk0, tk1, tk2, tk3, tk4]
          refine take_dst 13 65 (.agg #[.int .i64 (n : Int), .int .i64 a, .int .i64 b, .int .i64 c, .int .i64 s]) rfl (by kernel_rfl) (by kernel_rfl) (by kernel_rfl) (fun _ _ _ h => h) (Or.inl ⟨by rfl, by intro wv hSv; unfold BxS at hSv; obtain ⟨h0, h1, h2, h3, h4, h5⟩ := hSv; go_simp⟩) hd rfl ?_
          try simp only [tk0, tk1, tk2, tk3, tk4]
          refine take_dst 15 67 (.pointer (some ⟨w.heap.size + 1, 2, none⟩)) rfl (by kernel_rfl) (by kernel_rfl) (by kernel_rfl) (fun _ _ _ h => h) (Or.inl ⟨by rfl, by intro wv hSv; go_simp⟩) hd rfl ?_
          try simp only [tk0, tk1, tk2, tk3, tk4]
          refine take_dst 16 68 (.int .i64 b) rfl (by kernel_rfl) (by kernel_rfl) (by kernel_rfl) (fun _ _ _ h => h) (Or.inl ⟨by rfl, by intro wv hSv; unfold BxS at hSv; obtain ⟨h0, h1, h2, h3, h4, h5⟩ := hSv; go_simp⟩) hd rfl ?_
          try simp only [tk0, tk1, tk2, tk3, tk4]
          refine take_dst 18 70 (.int .i64 (a + 1)) rfl (by kernel_rfl) (by kernel_rfl) (by kernel_rfl) (fun _ _ _ h => h) (Or.inl ⟨by rfl, by intro wv hSv; go_simp⟩) hd rfl ?_
          try simp only [tk0, tk1, tk2, tk3, tk4]
          refine wpAnyH_ready (rs := [14]) (by kernel_rfl) (by simp) ?_
          refine AllReadyH.cons rfl (fun KK hKK => ?_) AllReadyH.nil
          go_simp
          refine (hF.out _ (Below.refl _ _).drew).mono ?_
          rintro e y4 ⟨rfl, b4⟩
          have h4 : BxS w n p.regs a b c s y4 := hk.out y4 b4
          go_wp2_with fail
          refine hKK.out _ _ h4 (fun _ => ?_)
          clear hKK KK
          try simp only [tk0, tk1, tk2, tk3, tk4]
          refine take_dst 17 69 (.int .i64 (a + 1 + b)) rfl (by kernel_rfl) (by kernel_rfl) (by kernel_rfl) (fun _ _ _ h => h) (Or.inl ⟨by rfl, by intro wv hSv; go_simp⟩) h4 rfl ?_
          try simp only [tk0, tk1, tk2, tk3, tk4]
          refine take_dst 19 71 (.bool (decide (a + 1 < a + 1 + b))) rfl (by kernel_rfl) (by kernel_rfl) (by kernel_rfl) (fun _ _ _ h => h) (Or.inl ⟨by rfl, by intro wv hSv; go_simp⟩) h4 rfl ?_
          try simp only [tk0, tk1, tk2, tk3, tk4]
          refine take_dst 20 72 (.bool (decide (a + 1 < a + 1 + b))) rfl (by kernel_rfl) (by kernel_rfl) (by kernel_rfl) (fun _ _ _ h => h) (Or.inl ⟨by rfl, by intro wv hSv; go_simp⟩) h4 rfl ?_
          try simp only [tk0, tk1, tk2, tk3, tk4]
          refine wpAnyH_done (by kernel_rfl) ?_ _
          by_cases hgt : a + 1 < a + 1 + b
          · have dgt : decide (a + 1 < a + 1 + b) = true := by simp; omega
            go_wp2_with fail
            have hd2 : BxS w n p.regs a b c s y4.drew := h4
            refine wp_region_held_drew (S := BxS w n p.regs a b c s) (by kernel_rfl) hd2 (fun hH => ?_)
            refine take_dst 0 73 (.agg #[.int .i64 (n : Int), .int .i64 a, .int .i64 b, .int .i64 c, .int .i64 s]) rfl (by kernel_rfl) (by kernel_rfl) (by kernel_rfl) (fun _ _ _ h => h) (Or.inl ⟨by rfl, by intro wv hSv; unfold BxS at hSv; obtain ⟨h0, h1, h2, h3, h4, h5⟩ := hSv; go_simp⟩) hd2 rfl ?_
            try simp only [tk0, tk1, tk2, tk3, tk4]
            refine take_dst 2 75 (.pointer (some ⟨w.heap.size + 1, 2, none⟩)) rfl (by kernel_rfl) (by kernel_rfl) (by kernel_rfl) (fun _ _ _ h => h) (Or.inl ⟨by rfl, by intro wv hSv; go_simp⟩) hd2 rfl ?_
            try simp only [tk0, tk1, tk2, tk3, tk4]
            refine take_dst 3 76 (.int .i64 b) rfl (by kernel_rfl) (by kernel_rfl) (by kernel_rfl) (fun _ _ _ h => h) (Or.inl ⟨by rfl, by intro wv hSv; unfold BxS at hSv; obtain ⟨h0, h1, h2, h3, h4, h5⟩ := hSv; go_simp⟩) hd2 rfl ?_
            try simp only [tk0, tk1, tk2, tk3, tk4]
            refine wpAnyH_ready (rs := [1]) (by kernel_rfl) (by simp) ?_
            refine AllReadyH.cons rfl (fun KK hKK => ?_) AllReadyH.nil
            go_simp
            refine (hF.out _ b4.drew).mono ?_
            rintro e y5 ⟨rfl, b5⟩
            have h5 : BxS w n p.regs a b c s y5 := hk.out y5 b5
            go_wp2_with fail
            refine hKK.out _ _ h5 (fun _ => ?_)
            clear hKK KK
            try simp only [tk0, tk1, tk2, tk3, tk4]
            refine take_dst 4 77 (.int .i64 (a + 1 + b)) rfl (by kernel_rfl) (by kernel_rfl) (by kernel_rfl) (fun _ _ _ h => h) (Or.inl ⟨by rfl, by intro wv hSv; go_simp⟩) h5 rfl ?_
            try simp only [tk0, tk1, tk2, tk3, tk4]
            refine take_dst 5 6 (.int .i64 (a + 1 + b)) rfl (by kernel_rfl) (by kernel_rfl) (by kernel_rfl) (fun _ _ _ h => h) (Or.inl ⟨by rfl, by intro wv hSv; go_simp⟩) h5 rfl ?_
            try simp only [tk0, tk1, tk2, tk3, tk4]
            refine wpAnyH_done (by kernel_rfl) ?_ _
            have hbF : Below w.heap.size w y5 := hb9.trans (Below.mono b5 hb9.size)
            have hBf : BxS w n p.regs a b c s y5 := h5
            obtain ⟨z0, z1, z2, z3, z4, z5⟩ := id hBf
            clear hB hBf hk hF hd
            go_wp2_with (go_at_call 104; refine (l4Has_I _ _ _ hz (by omega)).mono ?_; rintro e y2 ⟨rfl, rfl⟩)
            all_goals go_ret
            all_goals exact ⟨⟨_, rfl, by rw [decide_eq_true_iff] <;> omega⟩, by assumption⟩
          · have dgt : decide (a + 1 < a + 1 + b) = false := by simp; omega
            have hbF : Below w.heap.size w y4 := hb9.trans (Below.mono b4 hb9.size)
            have hBf : BxS w n p.regs a b c s y4 := h4
            obtain ⟨z0, z1, z2, z3, z4, z5⟩ := id hBf
            clear hB hBf hk hF hd
            go_wp2_with (go_at_call 104; refine (l4Has_I _ _ _ hz (by omega)).mono ?_; rintro e y2 ⟨rfl, rfl⟩)
            all_goals go_ret
            all_goals exact ⟨⟨_, rfl, by rw [decide_eq_true_iff] <;> omega⟩, by assumption⟩
      · have qc : rsz c = c := if_neg oc
        have nc : (c != 511) = true := by simp [oc]
        rw [qb, qc]
        clear qb qc
        go_enter Tryz.func101, Tryz.ntmps101
        go_upto_region 13 with (first | (go_at_call 105; refine (l4Use_in n _ hn).mono ?_; rintro e y ⟨rfl, b9⟩; have hb9 := below2 b9; have hBl := (BxS.of b9).2; have hB := (BxS.of b9).1; obtain ⟨z0, z1, z2, z3, z4, z5⟩ := id hB; clear b9) | (go_at_call 104; refine (l4Has_I _ _ _ hz (by omega)).mono ?_; rintro e y2 ⟨rfl, rfl⟩))
        all_goals
          clear z0 z1 z2 z3 z4 z5
          have hk : Hid (∀ x, Below y.heap.size y x → BxS w n p.regs a b c s x) := fun x hx => BxS.later hB hBl hx
          have hwb : IntKind.i64.wrap (a + 1 + b) = a + 1 + b := by simp [IntKind.wrap, IntKind.bits, IntKind.signed]; omega
          have hF : Hid (∀ x, Below y.heap.size y x → Calls Tryz.prog 40 #[insV n a b c s] x fun e x' => e = .returned (.int .i64 (a + 1)) ∧ Below y.heap.size y x') := fun x hx => (l4From_1 _ a b c s x (by omega) a1 a2).mono fun e x' ⟨he, hb⟩ => ⟨he, hx.trans (hb.mono hx.size)⟩
          have hd : BxS w n p.regs a b c s y.drew := hB
          refine wp_region_held_drew (S := BxS w n p.regs a b c s) (by kernel_rfl) hd (fun hH => ?_)
          refine take_dst 0 52 (.string (useS n)) rfl (by kernel_rfl) (by kernel_rfl) (by kernel_rfl) (fun _ _ _ h => h) (Or.inl ⟨by rfl, by intro wv hSv; go_simp⟩) hd rfl ?_
          try simp only [tk0, tk1, tk2, tk3, tk4]
          refine wpAnyH_ready (rs := [1]) (by kernel_rfl) (by simp) ?_
          refine AllReadyH.cons rfl (fun KK hKK => ?_) AllReadyH.nil
          go_simp
          refine (l4Has_I _ _ _ hz (by omega)).mono ?_
          rintro e y2 ⟨rfl, rfl⟩
          rw [l118]
          go_wp2_with fail
          refine hKK.out _ _ hd (fun _ => ?_)
          clear hKK KK
          try simp only [tk0, tk1, tk2, tk3, tk4]
          refine take_dst 2 54 (.bool true) rfl (by kernel_rfl) (by kernel_rfl) (by kernel_rfl) (fun _ _ _ h => h) (Or.inl ⟨by rfl, by intro wv hSv; go_simp⟩) hd rfl ?_
          try simp only [tk0, tk1, tk2, tk3, tk4]
          refine take_dst 3 55 (.pointer (some ⟨w.heap.size + 1, 2, none⟩)) rfl (by kernel_rfl) (by kernel_rfl) (by kernel_rfl) (fun _ _ _ h => h) (Or.inl ⟨by rfl, by intro wv hSv; go_simp⟩) hd rfl ?_
          try simp only [tk0, tk1, tk2, tk3, tk4]
          refine take_dst 4 56 (.int .i64 b) rfl (by kernel_rfl) (by kernel_rfl) (by kernel_rfl) (fun _ _ _ h => h) (Or.inl ⟨by rfl, by intro wv hSv; unfold BxS at hSv; obtain ⟨h0, h1, h2, h3, h4, h5⟩ := hSv; go_simp⟩) hd rfl ?_
          try simp only [tk0, tk1, tk2, tk3, tk4]
          refine take_dst 5 57 (.bool true) rfl (by kernel_rfl) (by kernel_rfl) (by kernel_rfl) (fun _ _ _ h => h) (Or.inl ⟨by rfl, by intro wv hSv; go_simp⟩) hd rfl ?_
          try simp only [tk0, tk1, tk2, tk3, tk4]
          refine take_dst 6 58 (.bool true) rfl (by kernel_rfl) (by kernel_rfl) (by kernel_rfl) (fun _ _ _ h => h) (Or.inl ⟨by rfl, by intro wv hSv; go_simp⟩) hd rfl ?_
          try simp only [tk0, tk1, tk2, tk3, tk4]
          refine take_dst 7 59 (.bool true) rfl (by kernel_rfl) (by kernel_rfl) (by kernel_rfl) (fun _ _ _ h => h) (Or.inl ⟨by rfl, by intro wv hSv; go_simp⟩) hd rfl ?_
          try simp only [tk0, tk1, tk2, tk3, tk4]
          refine take_dst 8 60 (.pointer (some ⟨w.heap.size + 1, 2, none⟩)) rfl (by kernel_rfl) (by kernel_rfl) (by kernel_rfl) (fun _ _ _ h => h) (Or.inl ⟨by rfl, by intro wv hSv; go_simp⟩) hd rfl ?_
          try simp only [tk0, tk1, tk2, tk3, tk4]
          refine take_dst 9 61 (.int .i64 b) rfl (by kernel_rfl) (by kernel_rfl) (by kernel_rfl) (fun _ _ _ h => h) (Or.inl ⟨by rfl, by intro wv hSv; unfold BxS at hSv; obtain ⟨h0, h1, h2, h3, h4, h5⟩ := hSv; go_simp⟩) hd rfl ?_
          try simp only [tk0, tk1, tk2, tk3, tk4]
          refine take_dst 10 62 (.bool true) rfl (by kernel_rfl) (by kernel_rfl) (by kernel_rfl) (fun _ _ _ h => h) (Or.inl ⟨by rfl, by intro wv hSv; go_simp⟩) hd rfl ?_
          try simp only [tk0, tk1, tk2, tk3, tk4]
          refine take_dst 11 63 (.bool true) rfl (by kernel_rfl) (by kernel_rfl) (by kernel_rfl) (fun _ _ _ h => h) (Or.inl ⟨by rfl, by intro wv hSv; go_simp⟩) hd rfl ?_
          try simp only [tk0, tk1, tk2, tk3, tk4]
          refine take_dst 12 64 (.bool true) rfl (by kernel_rfl) (by kernel_rfl) (by kernel_rfl) (fun _ _ _ h => h) (Or.inl ⟨by rfl, by intro wv hSv; go_simp⟩) hd rfl ?_
          try simp only [tk0, tk1, tk2, tk3, tk4]
          refine take_dst 13 65 (.agg #[.int .i64 (n : Int), .int .i64 a, .int .i64 b, .int .i64 c, .int .i64 s]) rfl (by kernel_rfl) (by kernel_rfl) (by kernel_rfl) (fun _ _ _ h => h) (Or.inl ⟨by rfl, by intro wv hSv; unfold BxS at hSv; obtain ⟨h0, h1, h2, h3, h4, h5⟩ := hSv; go_simp⟩) hd rfl ?_
          try simp only [tk0, tk1, tk2, tk3, tk4]
          refine take_dst 15 67 (.pointer (some ⟨w.heap.size + 1, 2, none⟩)) rfl (by kernel_rfl) (by kernel_rfl) (by kernel_rfl) (fun _ _ _ h => h) (Or.inl ⟨by rfl, by intro wv hSv; go_simp⟩) hd rfl ?_
          try simp only [tk0, tk1, tk2, tk3, tk4]
          refine take_dst 16 68 (.int .i64 b) rfl (by kernel_rfl) (by kernel_rfl) (by kernel_rfl) (fun _ _ _ h => h) (Or.inl ⟨by rfl, by intro wv hSv; unfold BxS at hSv; obtain ⟨h0, h1, h2, h3, h4, h5⟩ := hSv; go_simp⟩) hd rfl ?_
          try simp only [tk0, tk1, tk2, tk3, tk4]
          refine take_dst 18 70 (.int .i64 (a + 1)) rfl (by kernel_rfl) (by kernel_rfl) (by kernel_rfl) (fun _ _ _ h => h) (Or.inl ⟨by rfl, by intro wv hSv; go_simp⟩) hd rfl ?_
          try simp only [tk0, tk1, tk2, tk3, tk4]
          refine wpAnyH_ready (rs := [14]) (by kernel_rfl) (by simp) ?_
          refine AllReadyH.cons rfl (fun KK hKK => ?_) AllReadyH.nil
          go_simp
          refine (hF.out _ (Below.refl _ _).drew).mono ?_
          rintro e y4 ⟨rfl, b4⟩
          have h4 : BxS w n p.regs a b c s y4 := hk.out y4 b4
          go_wp2_with fail
          refine hKK.out _ _ h4 (fun _ => ?_)
          clear hKK KK
          try simp only [tk0, tk1, tk2, tk3, tk4]
          refine take_dst 17 69 (.int .i64 (a + 1 + b)) rfl (by kernel_rfl) (by kernel_rfl) (by kernel_rfl) (fun _ _ _ h => h) (Or.inl ⟨by rfl, by intro wv hSv; go_simp⟩) h4 rfl ?_
          try simp only [tk0, tk1, tk2, tk3, tk4]
          refine take_dst 19 71 (.bool (decide (a + 1 < a + 1 + b))) rfl (by kernel_rfl) (by kernel_rfl) (by kernel_rfl) (fun _ _ _ h => h) (Or.inl ⟨by rfl, by intro wv hSv; go_simp⟩) h4 rfl ?_
          try simp only [tk0, tk1, tk2, tk3, tk4]
          refine take_dst 20 72 (.bool (decide (a + 1 < a + 1 + b))) rfl (by kernel_rfl) (by kernel_rfl) (by kernel_rfl) (fun _ _ _ h => h) (Or.inl ⟨by rfl, by intro wv hSv; go_simp⟩) h4 rfl ?_
          try simp only [tk0, tk1, tk2, tk3, tk4]
          refine wpAnyH_done (by kernel_rfl) ?_ _
          by_cases hgt : a + 1 < a + 1 + b
          · have dgt : decide (a + 1 < a + 1 + b) = true := by simp; omega
            go_wp2_with fail
            have hd2 : BxS w n p.regs a b c s y4.drew := h4
            refine wp_region_held_drew (S := BxS w n p.regs a b c s) (by kernel_rfl) hd2 (fun hH => ?_)
            refine take_dst 0 73 (.agg #[.int .i64 (n : Int), .int .i64 a, .int .i64 b, .int .i64 c, .int .i64 s]) rfl (by kernel_rfl) (by kernel_rfl) (by kernel_rfl) (fun _ _ _ h => h) (Or.inl ⟨by rfl, by intro wv hSv; unfold BxS at hSv; obtain ⟨h0, h1, h2, h3, h4, h5⟩ := hSv; go_simp⟩) hd2 rfl ?_
            try simp only [tk0, tk1, tk2, tk3, tk4]
            refine take_dst 2 75 (.pointer (some ⟨w.heap.size + 1, 2, none⟩)) rfl (by kernel_rfl) (by kernel_rfl) (by kernel_rfl) (fun _ _ _ h => h) (Or.inl ⟨by rfl, by intro wv hSv; go_simp⟩) hd2 rfl ?_
            try simp only [tk0, tk1, tk2, tk3, tk4]
            refine take_dst 3 76 (.int .i64 b) rfl (by kernel_rfl) (by kernel_rfl) (by kernel_rfl) (fun _ _ _ h => h) (Or.inl ⟨by rfl, by intro wv hSv; unfold BxS at hSv; obtain ⟨h0, h1, h2, h3, h4, h5⟩ := hSv; go_simp⟩) hd2 rfl ?_
            try simp only [tk0, tk1, tk2, tk3, tk4]
            refine wpAnyH_ready (rs := [1]) (by kernel_rfl) (by simp) ?_
            refine AllReadyH.cons rfl (fun KK hKK => ?_) AllReadyH.nil
            go_simp
            refine (hF.out _ b4.drew).mono ?_
            rintro e y5 ⟨rfl, b5⟩
            have h5 : BxS w n p.regs a b c s y5 := hk.out y5 b5
            go_wp2_with fail
            refine hKK.out _ _ h5 (fun _ => ?_)
            clear hKK KK
            try simp only [tk0, tk1, tk2, tk3, tk4]
            refine take_dst 4 77 (.int .i64 (a + 1 + b)) rfl (by kernel_rfl) (by kernel_rfl) (by kernel_rfl) (fun _ _ _ h => h) (Or.inl ⟨by rfl, by intro wv hSv; go_simp⟩) h5 rfl ?_
            try simp only [tk0, tk1, tk2, tk3, tk4]
            refine take_dst 5 6 (.int .i64 (a + 1 + b)) rfl (by kernel_rfl) (by kernel_rfl) (by kernel_rfl) (fun _ _ _ h => h) (Or.inl ⟨by rfl, by intro wv hSv; go_simp⟩) h5 rfl ?_
            try simp only [tk0, tk1, tk2, tk3, tk4]
            refine wpAnyH_done (by kernel_rfl) ?_ _
            have hbF : Below w.heap.size w y5 := hb9.trans (Below.mono b5 hb9.size)
            have hBf : BxS w n p.regs a b c s y5 := h5
            obtain ⟨z0, z1, z2, z3, z4, z5⟩ := id hBf
            clear hB hBf hk hF hd
            go_wp2_with (go_at_call 104; refine (l4Has_I _ _ _ hz (by omega)).mono ?_; rintro e y2 ⟨rfl, rfl⟩)
            all_goals go_ret
            all_goals exact ⟨⟨_, rfl, by rw [decide_eq_true_iff] <;> omega⟩, by assumption⟩
          · have dgt : decide (a + 1 < a + 1 + b) = false := by simp; omega
            have hbF : Below w.heap.size w y4 := hb9.trans (Below.mono b4 hb9.size)
            have hBf : BxS w n p.regs a b c s y4 := h4
            obtain ⟨z0, z1, z2, z3, z4, z5⟩ := id hBf
            clear hB hBf hk hF hd
            go_wp2_with (go_at_call 104; refine (l4Has_I _ _ _ hz (by omega)).mono ?_; rintro e y2 ⟨rfl, rfl⟩)
            all_goals go_ret
            all_goals exact ⟨⟨_, rfl, by rw [decide_eq_true_iff] <;> omega⟩, by assumption⟩
    · have db : decide (0 < b) = false := by simp; omega
      by_cases oc : c = 511
      · have qc : rsz c = 0 := if_pos oc
        have nc : (c != 511) = false := by simp [oc]
        replace oc : Hid (c = 511) := oc
        rw [qb, qc]
        clear qb qc
        go_enter Tryz.func101, Tryz.ntmps101
        go_upto_region 13 with (first | (go_at_call 105; refine (l4Use_in n _ hn).mono ?_; rintro e y ⟨rfl, b9⟩; have hb9 := below2 b9; have hBl := (BxS.of b9).2; have hB := (BxS.of b9).1; obtain ⟨z0, z1, z2, z3, z4, z5⟩ := id hB; clear b9) | (go_at_call 104; refine (l4Has_I _ _ _ hz (by omega)).mono ?_; rintro e y2 ⟨rfl, rfl⟩))
        all_goals
          clear z0 z1 z2 z3 z4 z5
          have hk : Hid (∀ x, Below y.heap.size y x → BxS w n p.regs a b c s x) := fun x hx => BxS.later hB hBl hx
          have hd : BxS w n p.regs a b c s y.drew := hB
          refine wp_region_held_drew (S := BxS w n p.regs a b c s) (by kernel_rfl) hd (fun hH => ?_)
          refine take_dst 0 52 (.string (useS n)) rfl (by kernel_rfl) (by kernel_rfl) (by kernel_rfl) (fun _ _ _ h => h) (Or.inl ⟨by rfl, by intro wv hSv; go_simp⟩) hd rfl ?_
          try simp only [tk0, tk1, tk2, tk3, tk4]
          refine wpAnyH_ready (rs := [1]) (by kernel_rfl) (by simp) ?_
          refine AllReadyH.cons rfl (fun KK hKK => ?_) AllReadyH.nil
          go_simp
          refine (l4Has_I _ _ _ hz (by omega)).mono ?_
          rintro e y2 ⟨rfl, rfl⟩
          rw [l118]
          go_wp2_with fail
          refine hKK.out _ _ hd (fun _ => ?_)
          clear hKK KK
          try simp only [tk0, tk1, tk2, tk3, tk4]
          refine take_dst 2 54 (.bool true) rfl (by kernel_rfl) (by kernel_rfl) (by kernel_rfl) (fun _ _ _ h => h) (Or.inl ⟨by rfl, by intro wv hSv; go_simp⟩) hd rfl ?_
          try simp only [tk0, tk1, tk2, tk3, tk4]
          refine take_dst 3 55 (.pointer (some ⟨w.heap.size + 1, 2, none⟩)) rfl (by kernel_rfl) (by kernel_rfl) (by kernel_rfl) (fun _ _ _ h => h) (Or.inl ⟨by rfl, by intro wv hSv; go_simp⟩) hd rfl ?_
          try simp only [tk0, tk1, tk2, tk3, tk4]
          refine take_dst 4 56 (.int .i64 b) rfl (by kernel_rfl) (by kernel_rfl) (by kernel_rfl) (fun _ _ _ h => h) (Or.inl ⟨by rfl, by intro wv hSv; unfold BxS at hSv; obtain ⟨h0, h1, h2, h3, h4, h5⟩ := hSv; go_simp⟩) hd rfl ?_
          try simp only [tk0, tk1, tk2, tk3, tk4]
          refine take_dst 5 57 (.bool true) rfl (by kernel_rfl) (by kernel_rfl) (by kernel_rfl) (fun _ _ _ h => h) (Or.inl ⟨by rfl, by intro wv hSv; go_simp⟩) hd rfl ?_
          try simp only [tk0, tk1, tk2, tk3, tk4]
          refine take_dst 6 58 (.bool true) rfl (by kernel_rfl) (by kernel_rfl) (by kernel_rfl) (fun _ _ _ h => h) (Or.inl ⟨by rfl, by intro wv hSv; go_simp⟩) hd rfl ?_
          try simp only [tk0, tk1, tk2, tk3, tk4]
          refine take_dst 7 59 (.bool true) rfl (by kernel_rfl) (by kernel_rfl) (by kernel_rfl) (fun _ _ _ h => h) (Or.inl ⟨by rfl, by intro wv hSv; go_simp⟩) hd rfl ?_
          try simp only [tk0, tk1, tk2, tk3, tk4]
          refine take_dst 8 60 (.pointer (some ⟨w.heap.size + 1, 2, none⟩)) rfl (by kernel_rfl) (by kernel_rfl) (by kernel_rfl) (fun _ _ _ h => h) (Or.inl ⟨by rfl, by intro wv hSv; go_simp⟩) hd rfl ?_
          try simp only [tk0, tk1, tk2, tk3, tk4]
          refine take_dst 9 61 (.int .i64 b) rfl (by kernel_rfl) (by kernel_rfl) (by kernel_rfl) (fun _ _ _ h => h) (Or.inl ⟨by rfl, by intro wv hSv; unfold BxS at hSv; obtain ⟨h0, h1, h2, h3, h4, h5⟩ := hSv; go_simp⟩) hd rfl ?_
          try simp only [tk0, tk1, tk2, tk3, tk4]
          refine take_dst 10 62 (.bool false) rfl (by kernel_rfl) (by kernel_rfl) (by kernel_rfl) (fun _ _ _ h => h) (Or.inl ⟨by rfl, by intro wv hSv; go_simp⟩) hd rfl ?_
          try simp only [tk0, tk1, tk2, tk3, tk4]
          refine take_dst 11 63 (.bool false) rfl (by kernel_rfl) (by kernel_rfl) (by kernel_rfl) (fun _ _ _ h => h) (Or.inl ⟨by rfl, by intro wv hSv; go_simp⟩) hd rfl ?_
          try simp only [tk0, tk1, tk2, tk3, tk4]
          refine take_dst 12 64 (.bool false) rfl (by kernel_rfl) (by kernel_rfl) (by kernel_rfl) (fun _ _ _ h => h) (Or.inl ⟨by rfl, by intro wv hSv; go_simp⟩) hd rfl ?_
          try simp only [tk0, tk1, tk2, tk3, tk4]
          refine take_dst 13 65 undef rfl (by kernel_rfl) (by kernel_rfl) (by kernel_rfl) (fun _ _ _ h => h) (Or.inr ⟨by rfl, rfl⟩) hd rfl ?_
          try simp only [tk0, tk1, tk2, tk3, tk4]
          refine take_dst 14 66 undef rfl (by kernel_rfl) (by kernel_rfl) (by kernel_rfl) (fun _ _ _ h => h) (Or.inr ⟨by rfl, rfl⟩) hd rfl ?_
          try simp only [tk0, tk1, tk2, tk3, tk4]
          refine take_dst 15 67 undef rfl (by kernel_rfl) (by kernel_rfl) (by kernel_rfl) (fun _ _ _ h => h) (Or.inr ⟨by rfl, rfl⟩) hd rfl ?_
          try simp only [tk0, tk1, tk2, tk3, tk4]
          refine take_dst 16 68 undef rfl (by kernel_rfl) (by kernel_rfl) (by kernel_rfl) (fun _ _ _ h => h) (Or.inr ⟨by rfl, rfl⟩) hd rfl ?_
          try simp only [tk0, tk1, tk2, tk3, tk4]
          refine take_dst 17 69 undef rfl (by kernel_rfl) (by kernel_rfl) (by kernel_rfl) (fun _ _ _ h => h) (Or.inr ⟨by rfl, rfl⟩) hd rfl ?_
          try simp only [tk0, tk1, tk2, tk3, tk4]
          refine take_dst 18 70 undef rfl (by kernel_rfl) (by kernel_rfl) (by kernel_rfl) (fun _ _ _ h => h) (Or.inr ⟨by rfl, rfl⟩) hd rfl ?_
          try simp only [tk0, tk1, tk2, tk3, tk4]
          refine take_dst 19 71 undef rfl (by kernel_rfl) (by kernel_rfl) (by kernel_rfl) (fun _ _ _ h => h) (Or.inr ⟨by rfl, rfl⟩) hd rfl ?_
          try simp only [tk0, tk1, tk2, tk3, tk4]
          refine take_dst 20 72 (.bool false) rfl (by kernel_rfl) (by kernel_rfl) (by kernel_rfl) (fun _ _ _ h => h) (Or.inl ⟨by rfl, by intro wv hSv; go_simp⟩) hd rfl ?_
          try simp only [tk0, tk1, tk2, tk3, tk4]
          refine wpAnyH_done (by kernel_rfl) ?_ _
          have hbF : Below w.heap.size w y.drew := hb9.trans (Below.mono (Below.refl y.heap.size y).drew hb9.size)
          have hBf : BxS w n p.regs a b c s y.drew := hB
          obtain ⟨z0, z1, z2, z3, z4, z5⟩ := id hBf
          clear hB hBf hk hd
          go_wp2_with (go_at_call 104; refine (l4Has_I _ _ _ hz (by omega)).mono ?_; rintro e y2 ⟨rfl, rfl⟩)
          all_goals go_ret
          all_goals exact ⟨⟨_, rfl, by rw [decide_eq_true_iff] <;> omega⟩, by assumption⟩
      · have qc : rsz c = c := if_neg oc
        have nc : (c != 511) = true := by simp [oc]
        rw [qb, qc]
        clear qb qc
        go_enter Tryz.func101, Tryz.ntmps101
        go_upto_region 13 with (first | (go_at_call 105; refine (l4Use_in n _ hn).mono ?_; rintro e y ⟨rfl, b9⟩; have hb9 := below2 b9; have hBl := (BxS.of b9).2; have hB := (BxS.of b9).1; obtain ⟨z0, z1, z2, z3, z4, z5⟩ := id hB; clear b9) | (go_at_call 104; refine (l4Has_I _ _ _ hz (by omega)).mono ?_; rintro e y2 ⟨rfl, rfl⟩))
        all_goals
          clear z0 z1 z2 z3 z4 z5
          have hk : Hid (∀ x, Below y.heap.size y x → BxS w n p.regs a b c s x) := fun x hx => BxS.later hB hBl hx
          have hd : BxS w n p.regs a b c s y.drew := hB
          refine wp_region_held_drew (S := BxS w n p.regs a b c s) (by kernel_rfl) hd (fun hH => ?_)
          refine take_dst 0 52 (.string (useS n)) rfl (by kernel_rfl) (by kernel_rfl) (by kernel_rfl) (fun _ _ _ h => h) (Or.inl ⟨by rfl, by intro wv hSv; go_simp⟩) hd rfl ?_
          try simp only [tk0, tk1, tk2, tk3, tk4]
          refine wpAnyH_ready (rs := [1]) (by kernel_rfl) (by simp) ?_
          refine AllReadyH.cons rfl (fun KK hKK => ?_) AllReadyH.nil
          go_simp
          refine (l4Has_I _ _ _ hz (by omega)).mono ?_
          rintro e y2 ⟨rfl, rfl⟩
          rw [l118]
          go_wp2_with fail
          refine hKK.out _ _ hd (fun _ => ?_)
          clear hKK KK
          try simp only [tk0, tk1, tk2, tk3, tk4]
          refine take_dst 2 54 (.bool true) rfl (by kernel_rfl) (by kernel_rfl) (by kernel_rfl) (fun _ _ _ h => h) (Or.inl ⟨by rfl, by intro wv hSv; go_simp⟩) hd rfl ?_
          try simp only [tk0, tk1, tk2, tk3, tk4]
          refine take_dst 3 55 (.pointer (some ⟨w.heap.size + 1, 2, none⟩)) rfl (by kernel_rfl) (by kernel_rfl) (by kernel_rfl) (fun _ _ _ h => h) (Or.inl ⟨by rfl, by intro wv hSv; go_simp⟩) hd rfl ?_
          try simp only [tk0, tk1, tk2, tk3, tk4]
          refine take_dst 4 56 (.int .i64 b) rfl (by kernel_rfl) (by kernel_rfl) (by kernel_rfl) (fun _ _ _ h => h) (Or.inl ⟨by rfl, by intro wv hSv; unfold BxS at hSv; obtain ⟨h0, h1, h2, h3, h4, h5⟩ := hSv; go_simp⟩) hd rfl ?_
          try simp only [tk0, tk1, tk2, tk3, tk4]
          refine take_dst 5 57 (.bool true) rfl (by kernel_rfl) (by kernel_rfl) (by kernel_rfl) (fun _ _ _ h => h) (Or.inl ⟨by rfl, by intro wv hSv; go_simp⟩) hd rfl ?_
          try simp only [tk0, tk1, tk2, tk3, tk4]
          refine take_dst 6 58 (.bool true) rfl (by kernel_rfl) (by kernel_rfl) (by kernel_rfl) (fun _ _ _ h => h) (Or.inl ⟨by rfl, by intro wv hSv; go_simp⟩) hd rfl ?_
          try simp only [tk0, tk1, tk2, tk3, tk4]
          refine take_dst 7 59 (.bool true) rfl (by kernel_rfl) (by kernel_rfl) (by kernel_rfl) (fun _ _ _ h => h) (Or.inl ⟨by rfl, by intro wv hSv; go_simp⟩) hd rfl ?_
          try simp only [tk0, tk1, tk2, tk3, tk4]
          refine take_dst 8 60 (.pointer (some ⟨w.heap.size + 1, 2, none⟩)) rfl (by kernel_rfl) (by kernel_rfl) (by kernel_rfl) (fun _ _ _ h => h) (Or.inl ⟨by rfl, by intro wv hSv; go_simp⟩) hd rfl ?_
          try simp only [tk0, tk1, tk2, tk3, tk4]
          refine take_dst 9 61 (.int .i64 b) rfl (by kernel_rfl) (by kernel_rfl) (by kernel_rfl) (fun _ _ _ h => h) (Or.inl ⟨by rfl, by intro wv hSv; unfold BxS at hSv; obtain ⟨h0, h1, h2, h3, h4, h5⟩ := hSv; go_simp⟩) hd rfl ?_
          try simp only [tk0, tk1, tk2, tk3, tk4]
          refine take_dst 10 62 (.bool false) rfl (by kernel_rfl) (by kernel_rfl) (by kernel_rfl) (fun _ _ _ h => h) (Or.inl ⟨by rfl, by intro wv hSv; go_simp⟩) hd rfl ?_
          try simp only [tk0, tk1, tk2, tk3, tk4]
          refine take_dst 11 63 (.bool false) rfl (by kernel_rfl) (by kernel_rfl) (by kernel_rfl) (fun _ _ _ h => h) (Or.inl ⟨by rfl, by intro wv hSv; go_simp⟩) hd rfl ?_
          try simp only [tk0, tk1, tk2, tk3, tk4]
          refine take_dst 12 64 (.bool false) rfl (by kernel_rfl) (by kernel_rfl) (by kernel_rfl) (fun _ _ _ h => h) (Or.inl ⟨by rfl, by intro wv hSv; go_simp⟩) hd rfl ?_
          try simp only [tk0, tk1, tk2, tk3, tk4]
          refine take_dst 13 65 undef rfl (by kernel_rfl) (by kernel_rfl) (by kernel_rfl) (fun _ _ _ h => h) (Or.inr ⟨by rfl, rfl⟩) hd rfl ?_
          try simp only [tk0, tk1, tk2, tk3, tk4]
          refine take_dst 14 66 undef rfl (by kernel_rfl) (by kernel_rfl) (by kernel_rfl) (fun _ _ _ h => h) (Or.inr ⟨by rfl, rfl⟩) hd rfl ?_
          try simp only [tk0, tk1, tk2, tk3, tk4]
          refine take_dst 15 67 undef rfl (by kernel_rfl) (by kernel_rfl) (by kernel_rfl) (fun _ _ _ h => h) (Or.inr ⟨by rfl, rfl⟩) hd rfl ?_
          try simp only [tk0, tk1, tk2, tk3, tk4]
          refine take_dst 16 68 undef rfl (by kernel_rfl) (by kernel_rfl) (by kernel_rfl) (fun _ _ _ h => h) (Or.inr ⟨by rfl, rfl⟩) hd rfl ?_
          try simp only [tk0, tk1, tk2, tk3, tk4]
          refine take_dst 17 69 undef rfl (by kernel_rfl) (by kernel_rfl) (by kernel_rfl) (fun _ _ _ h => h) (Or.inr ⟨by rfl, rfl⟩) hd rfl ?_
          try simp only [tk0, tk1, tk2, tk3, tk4]
          refine take_dst 18 70 undef rfl (by kernel_rfl) (by kernel_rfl) (by kernel_rfl) (fun _ _ _ h => h) (Or.inr ⟨by rfl, rfl⟩) hd rfl ?_
          try simp only [tk0, tk1, tk2, tk3, tk4]
          refine take_dst 19 71 undef rfl (by kernel_rfl) (by kernel_rfl) (by kernel_rfl) (fun _ _ _ h => h) (Or.inr ⟨by rfl, rfl⟩) hd rfl ?_
          try simp only [tk0, tk1, tk2, tk3, tk4]
          refine take_dst 20 72 (.bool false) rfl (by kernel_rfl) (by kernel_rfl) (by kernel_rfl) (fun _ _ _ h => h) (Or.inl ⟨by rfl, by intro wv hSv; go_simp⟩) hd rfl ?_
          try simp only [tk0, tk1, tk2, tk3, tk4]
          refine wpAnyH_done (by kernel_rfl) ?_ _
          have hbF : Below w.heap.size w y.drew := hb9.trans (Below.mono (Below.refl y.heap.size y).drew hb9.size)
          have hBf : BxS w n p.regs a b c s y.drew := hB
          obtain ⟨z0, z1, z2, z3, z4, z5⟩ := id hBf
          clear hB hBf hk hd
          go_wp2_with (go_at_call 104; refine (l4Has_I _ _ _ hz (by omega)).mono ?_; rintro e y2 ⟨rfl, rfl⟩)
          all_goals go_ret
          all_goals exact ⟨⟨_, rfl, by rw [decide_eq_true_iff] <;> omega⟩, by assumption⟩
theorem regs_rvwy (n : Nat) (hn : n ≤ 63) (p : PD) (ac : Option Addr) (cc : Nat) (o4 : Option Addr) (c4 : Nat) (o5 : Option Addr) (c5 : Nat) (o8 : Option Addr) (c8 : Nat) (o9 : Option Addr) (c9 : Nat) (a b c s : Int) (w : World) (a1 : 0 ≤ a) (a2 : a ≤ 255) (b1 : 0 ≤ b) (b2 : b ≤ 511) (c1 : 0 ≤ c) (c2 : c ≤ 511) (l114 : hasC (useS n) 114 = true) (l110 : hasC (useS n) 110 = false) (l52 : hasC (useS n) 52 = false) (l115 : hasC (useS n) 115 = false) (l116 : hasC (useS n) 116 = false) (l118 : hasC (useS n) 118 = true) (l119 : hasC (useS n) 119 = true) (hop : n ≠ 22 ∧ n ≠ 30) :
    Calls Tryz.prog 101 #[prV p ac cc o4 c4 o5 c5 o8 c8 o9 c9, insV n a b c s] w fun e w' => Says e (a + max 1 (max (rsz b) (rsz c)) ≤ p.regs) ∧ Below w.heap.size w w' := by
  have hz := useS_size n (by omega)
  by_cases ob : b = 511
  · have qb : rsz b = 0 := if_pos ob
    have nb : (b != 511) = false := by simp [ob]
    replace ob : Hid (b = 511) := ob
    by_cases oc : c = 511
    · have qc : rsz c = 0 := if_pos oc
      have nc : (c != 511) = false := by simp [oc]
      replace oc : Hid (c = 511) := oc
      rw [qb, qc]
      clear qb qc
      go_enter Tryz.func101, Tryz.ntmps101
      go_upto_region 13 with (first | (go_at_call 105; refine (l4Use_in n _ hn).mono ?_; rintro e y ⟨rfl, b9⟩; have hb9 := below2 b9; have hBl := (BxS.of b9).2; have hB := (BxS.of b9).1; obtain ⟨z0, z1, z2, z3, z4, z5⟩ := id hB; clear b9) | (go_at_call 104; refine (l4Has_I _ _ _ hz (by omega)).mono ?_; rintro e y2 ⟨rfl, rfl⟩))
      all_goals
        clear z0 z1 z2 z3 z4 z5
        have hk : Hid (∀ x, Below y.heap.size y x → BxS w n p.regs a b c s x) := fun x hx => BxS.later hB hBl hx
        have hd : BxS w n p.regs a b c s y.drew := hB
        refine wp_region_held_drew (S := BxS w n p.regs a b c s) (by kernel_rfl) hd (fun hH => ?_)
        refine take_dst 0 52 (.string (useS n)) rfl (by kernel_rfl) (by kernel_rfl) (by kernel_rfl) (fun _ _ _ h => h) (Or.inl ⟨by rfl, by intro wv hSv; go_simp⟩) hd rfl ?_
        try simp only [tk0, tk1, tk2, tk3, tk4]
        refine wpAnyH_ready (rs := [1]) (by kernel_rfl) (by simp) ?_
        refine AllReadyH.cons rfl (fun KK hKK => ?_) AllReadyH.nil
        go_simp
        refine (l4Has_I _ _ _ hz (by omega)).mono ?_
        rintro e y2 ⟨rfl, rfl⟩
        rw [l118]
        go_wp2_with fail
        refine hKK.out _ _ hd (fun _ => ?_)
        clear hKK KK
        try simp only [tk0, tk1, tk2, tk3, tk4]
        refine take_dst 2 54 (.bool true) rfl (by kernel_rfl) (by kernel_rfl) (by kernel_rfl) (fun _ _ _ h => h) (Or.inl ⟨by rfl, by intro wv hSv; go_simp⟩) hd rfl ?_
        try simp only [tk0, tk1, tk2, tk3, tk4]
        refine take_dst 3 55 (.pointer (some ⟨w.heap.size + 1, 2, none⟩)) rfl (by kernel_rfl) (by kernel_rfl) (by kernel_rfl) (fun _ _ _ h => h) (Or.inl ⟨by rfl, by intro wv hSv; go_simp⟩) hd rfl ?_
        try simp only [tk0, tk1, tk2, tk3, tk4]
        refine take_dst 4 56 (.int .i64 b) rfl (by kernel_rfl) (by kernel_rfl) (by kernel_rfl) (fun _ _ _ h => h) (Or.inl ⟨by rfl, by intro wv hSv; unfold BxS at hSv; obtain ⟨h0, h1, h2, h3, h4, h5⟩ := hSv; go_simp⟩) hd rfl ?_
        try simp only [tk0, tk1, tk2, tk3, tk4]
        refine take_dst 5 57 (.bool false) rfl (by kernel_rfl) (by kernel_rfl) (by kernel_rfl) (fun _ _ _ h => h) (Or.inl ⟨by rfl, by intro wv hSv; go_simp⟩) hd rfl ?_
        try simp only [tk0, tk1, tk2, tk3, tk4]
        refine take_dst 6 58 (.bool false) rfl (by kernel_rfl) (by kernel_rfl) (by kernel_rfl) (fun _ _ _ h => h) (Or.inl ⟨by rfl, by intro wv hSv; go_simp⟩) hd rfl ?_
        try simp only [tk0, tk1, tk2, tk3, tk4]
        refine take_dst 7 59 (.bool false) rfl (by kernel_rfl) (by kernel_rfl) (by kernel_rfl) (fun _ _ _ h => h) (Or.inl ⟨by rfl, by intro wv hSv; go_simp⟩) hd rfl ?_
        try simp only [tk0, tk1, tk2, tk3, tk4]
        refine take_dst 8 60 undef rfl (by kernel_rfl) (by kernel_rfl) (by kernel_rfl) (fun _ _ _ h => h) (Or.inr ⟨by rfl, rfl⟩) hd rfl ?_
        try simp only [tk0, tk1, tk2, tk3, tk4]
        refine take_dst 9 61 undef rfl (by kernel_rfl) (by kernel_rfl) (by kernel_rfl) (fun _ _ _ h => h) (Or.inr ⟨by rfl, rfl⟩) hd rfl ?_
        try simp only [tk0, tk1, tk2, tk3, tk4]
        refine take_dst 10 62 undef rfl (by kernel_rfl) (by kernel_rfl) (by kernel_rfl) (fun _ _ _ h => h) (Or.inr ⟨by rfl, rfl⟩) hd rfl ?_
        try simp only [tk0, tk1, tk2, tk3, tk4]
        refine take_dst 11 63 (.bool false) rfl (by kernel_rfl) (by kernel_rfl) (by kernel_rfl) (fun _ _ _ h => h) (Or.inl ⟨by rfl, by intro wv hSv; go_simp⟩) hd rfl ?_
        try simp only [tk0, tk1, tk2, tk3, tk4]
        refine take_dst 12 64 (.bool false) rfl (by kernel_rfl) (by kernel_rfl) (by kernel_rfl) (fun _ _ _ h => h) (Or.inl ⟨by rfl, by intro wv hSv; go_simp⟩) hd rfl ?_
        try simp only [tk0, tk1, tk2, tk3, tk4]
        refine take_dst 13 65 undef rfl (by kernel_rfl) (by kernel_rfl) (by kernel_rfl) (fun _ _ _ h => h) (Or.inr ⟨by rfl, rfl⟩) hd rfl ?_
        try simp only [tk0, tk1, tk2, tk3, tk4]
        refine take_dst 14 66 undef rfl (by kernel_rfl) (by kernel_rfl) (by kernel_rfl) (fun _ _ _ h => h) (Or.inr ⟨by rfl, rfl⟩) hd rfl ?_
        try simp only [tk0, tk1, tk2, tk3, tk4]
        refine take_dst 15 67 undef rfl (by kernel_rfl) (by kernel_rfl) (by kernel_rfl) (fun _ _ _ h => h) (Or.inr ⟨by rfl, rfl⟩) hd rfl ?_
        try simp only [tk0, tk1, tk2, tk3, tk4]
        refine take_dst 16 68 undef rfl (by kernel_rfl) (by kernel_rfl) (by kernel_rfl) (fun _ _ _ h => h) (Or.inr ⟨by rfl, rfl⟩) hd rfl ?_
        try simp only [tk0, tk1, tk2, tk3, tk4]
        refine take_dst 17 69 undef rfl (by kernel_rfl) (by kernel_rfl) (by kernel_rfl) (fun _ _ _ h => h) (Or.inr ⟨by rfl, rfl⟩) hd rfl ?_
        try simp only [tk0, tk1, tk2, tk3, tk4]
        refine take_dst 18 70 undef rfl (by kernel_rfl) (by kernel_rfl) (by kernel_rfl) (fun _ _ _ h => h) (Or.inr ⟨by rfl, rfl⟩) hd rfl ?_
        try simp only [tk0, tk1, tk2, tk3, tk4]
        refine take_dst 19 71 undef rfl (by kernel_rfl) (by kernel_rfl) (by kernel_rfl) (fun _ _ _ h => h) (Or.inr ⟨by rfl, rfl⟩) hd rfl ?_
        try simp only [tk0, tk1, tk2, tk3, tk4]
        refine take_dst 20 72 (.bool false) rfl (by kernel_rfl) (by kernel_rfl) (by kernel_rfl) (fun _ _ _ h => h) (Or.inl ⟨by rfl, by intro wv hSv; go_simp⟩) hd rfl ?_
        try simp only [tk0, tk1, tk2, tk3, tk4]
        refine wpAnyH_done (by kernel_rfl) ?_ _
        have hbF : Below w.heap.size w y.drew := hb9.trans (Below.mono (Below.refl y.heap.size y).drew hb9.size)
        have hBf : BxS w n p.regs a b c s y.drew := hB
        obtain ⟨z0, z1, z2, z3, z4, z5⟩ := id hBf
        clear hB hBf hk hd
        go_wp2_with (go_at_call 104; refine (l4Has_I _ _ _ hz (by omega)).mono ?_; rintro e y2 ⟨rfl, rfl⟩)
        all_goals go_ret
        all_goals exact ⟨⟨_, rfl, by rw [decide_eq_true_iff] <;> omega⟩, by assumption⟩
    · have qc : rsz c = c := if_neg oc
      have nc : (c != 511) = true := by simp [oc]
      rw [qb, qc]
      clear qb qc
      go_enter Tryz.func101, Tryz.ntmps101
      go_upto_region 13 with (first | (go_at_call 105; refine (l4Use_in n _ hn).mono ?_; rintro e y ⟨rfl, b9⟩; have hb9 := below2 b9; have hBl := (BxS.of b9).2; have hB := (BxS.of b9).1; obtain ⟨z0, z1, z2, z3, z4, z5⟩ := id hB; clear b9) | (go_at_call 104; refine (l4Has_I _ _ _ hz (by omega)).mono ?_; rintro e y2 ⟨rfl, rfl⟩))
      all_goals
        clear z0 z1 z2 z3 z4 z5
        have hk : Hid (∀ x, Below y.heap.size y x → BxS w n p.regs a b c s x) := fun x hx => BxS.later hB hBl hx
        have hd : BxS w n p.regs a b c s y.drew := hB
        refine wp_region_held_drew (S := BxS w n p.regs a b c s) (by kernel_rfl) hd (fun hH => ?_)
        refine take_dst 0 52 (.string (useS n)) rfl (by kernel_rfl) (by kernel_rfl) (by kernel_rfl) (fun _ _ _ h => h) (Or.inl ⟨by rfl, by intro wv hSv; go_simp⟩) hd rfl ?_
        try simp only [tk0, tk1, tk2, tk3, tk4]
        refine wpAnyH_ready (rs := [1]) (by kernel_rfl) (by simp) ?_
        refine AllReadyH.cons rfl (fun KK hKK => ?_) AllReadyH.nil
        go_simp
        refine (l4Has_I _ _ _ hz (by omega)).mono ?_
        rintro e y2 ⟨rfl, rfl⟩
        rw [l118]
        go_wp2_with fail
        refine hKK.out _ _ hd (fun _ => ?_)
        clear hKK KK
        try simp only [tk0, tk1, tk2, tk3, tk4]
        refine take_dst 2 54 (.bool true) rfl (by kernel_rfl) (by kernel_rfl) (by kernel_rfl) (fun _ _ _ h => h) (Or.inl ⟨by rfl, by intro wv hSv; go_simp⟩) hd rfl ?_
        try simp only [tk0, tk1, tk2, tk3, tk4]
        refine take_dst 3 55 (.pointer (some ⟨w.heap.size + 1, 2, none⟩)) rfl (by kernel_rfl) (by kernel_rfl) (by kernel_rfl) (fun _ _ _ h => h) (Or.inl ⟨by rfl, by intro wv hSv; go_simp⟩) hd rfl ?_
        try simp only [tk0, tk1, tk2, tk3, tk4]
        refine take_dst 4 56 (.int .i64 b) rfl (by kernel_rfl) (by kernel_rfl) (by kernel_rfl) (fun _ _ _ h => h) (Or.inl ⟨by rfl, by intro wv hSv; unfold BxS at hSv; obtain ⟨h0, h1, h2, h3, h4, h5⟩ := hSv; go_simp⟩) hd rfl ?_
        try simp only [tk0, tk1, tk2, tk3, tk4]
        refine take_dst 5 57 (.bool false) rfl (by kernel_rfl) (by kernel_rfl) (by kernel_rfl) (fun _ _ _ h => h) (Or.inl ⟨by rfl, by intro wv hSv; go_simp⟩) hd rfl ?_
        try simp only [tk0, tk1, tk2, tk3, tk4]
        refine take_dst 6 58 (.bool false) rfl (by kernel_rfl) (by kernel_rfl) (by kernel_rfl) (fun _ _ _ h => h) (Or.inl ⟨by rfl, by intro wv hSv; go_simp⟩) hd rfl ?_
        try simp only [tk0, tk1, tk2, tk3, tk4]
        refine take_dst 7 59 (.bool false) rfl (by kernel_rfl) (by kernel_rfl) (by kernel_rfl) (fun _ _ _ h => h) (Or.inl ⟨by rfl, by intro wv hSv; go_simp⟩) hd rfl ?_
        try simp only [tk0, tk1, tk2, tk3, tk4]
        refine take_dst 8 60 undef rfl (by kernel_rfl) (by kernel_rfl) (by kernel_rfl) (fun _ _ _ h => h) (Or.inr ⟨by rfl, rfl⟩) hd rfl ?_
        try simp only [tk0, tk1, tk2, tk3, tk4]
        refine take_dst 9 61 undef rfl (by kernel_rfl) (by kernel_rfl) (by kernel_rfl) (fun _ _ _ h => h) (Or.inr ⟨by rfl, rfl⟩) hd rfl ?_
        try simp only [tk0, tk1, tk2, tk3, tk4]
        refine take_dst 10 62 undef rfl (by kernel_rfl) (by kernel_rfl) (by kernel_rfl) (fun _ _ _ h => h) (Or.inr ⟨by rfl, rfl⟩) hd rfl ?_
        try simp only [tk0, tk1, tk2, tk3, tk4]
        refine take_dst 11 63 (.bool false) rfl (by kernel_rfl) (by kernel_rfl) (by kernel_rfl) (fun _ _ _ h => h) (Or.inl ⟨by rfl, by intro wv hSv; go_simp⟩) hd rfl ?_
        try simp only [tk0, tk1, tk2, tk3, tk4]
        refine take_dst 12 64 (.bool false) rfl (by kernel_rfl) (by kernel_rfl) (by kernel_rfl) (fun _ _ _ h => h) (Or.inl ⟨by rfl, by intro wv hSv; go_simp⟩) hd rfl ?_
        try simp only [tk0, tk1, tk2, tk3, tk4]
        refine take_dst 13 65 undef rfl (by kernel_rfl) (by kernel_rfl) (by kernel_rfl) (fun _ _ _ h => h) (Or.inr ⟨by rfl, rfl⟩) hd rfl ?_
        try simp only [tk0, tk1, tk2, tk3, tk4]
        refine take_dst 14 66 undef rfl (by kernel_rfl) (by kernel_rfl) (by kernel_rfl) (fun _ _ _ h => h) (Or.inr ⟨by rfl, rfl⟩) hd rfl ?_
        try simp only [tk0, tk1, tk2, tk3, tk4]
        refine take_dst 15 67 undef rfl (by kernel_rfl) (by kernel_rfl) (by kernel_rfl) (fun _ _ _ h => h) (Or.inr ⟨by rfl, rfl⟩) hd rfl ?_
        try simp only [tk0, tk1, tk2, tk3, tk4]
        refine take_dst 16 68 undef rfl (by kernel_rfl) (by kernel_rfl) (by kernel_rfl) (fun _ _ _ h => h) (Or.inr ⟨by rfl, rfl⟩) hd rfl ?_
        try simp only [tk0, tk1, tk2, tk3, tk4]
        refine take_dst 17 69 undef rfl (by kernel_rfl) (by kernel_rfl) (by kernel_rfl) (fun _ _ _ h => h) (Or.inr ⟨by rfl, rfl⟩) hd rfl ?_
        try simp only [tk0, tk1, tk2, tk3, tk4]
        refine take_dst 18 70 undef rfl (by kernel_rfl) (by kernel_rfl) (by kernel_rfl) (fun _ _ _ h => h) (Or.inr ⟨by rfl, rfl⟩) hd rfl ?_
        try simp only [tk0, tk1, tk2, tk3, tk4]
        refine take_dst 19 71 undef rfl (by kernel_rfl) (by kernel_rfl) (by kernel_rfl) (fun _ _ _ h => h) (Or.inr ⟨by rfl, rfl⟩) hd rfl ?_
        try simp only [tk0, tk1, tk2, tk3, tk4]
        refine take_dst 20 72 (.bool false) rfl (by kernel_rfl) (by kernel_rfl) (by kernel_rfl) (fun _ _ _ h => h) (Or.inl ⟨by rfl, by intro wv hSv; go_simp⟩) hd rfl ?_
        try simp only [tk0, tk1, tk2, tk3, tk4]
        refine wpAnyH_done (by kernel_rfl) ?_ _
        have hbF : Below w.heap.size w y.drew := hb9.trans (Below.mono (Below.refl y.heap.size y).drew hb9.size)
        have hBf : BxS w n p.regs a b c s y.drew := hB
        obtain ⟨z0, z1, z2, z3, z4, z5⟩ := id hBf
        clear hB hBf hk hd
        go_wp2_with (go_at_call 104; refine (l4Has_I _ _ _ hz (by omega)).mono ?_; rintro e y2 ⟨rfl, rfl⟩)
        all_goals go_ret
        all_goals exact ⟨⟨_, rfl, by rw [decide_eq_true_iff] <;> omega⟩, by assumption⟩
  · have qb : rsz b = b := if_neg ob
    have nb : (b != 511) = true := by simp [ob]
    by_cases zb : 0 < b
    · by_cases oc : c = 511
      · have qc : rsz c = 0 := if_pos oc
        have nc : (c != 511) = false := by simp [oc]
        replace oc : Hid (c = 511) := oc
        rw [qb, qc]
        clear qb qc
        go_enter Tryz.func101, Tryz.ntmps101
        go_upto_region 13 with (first | (go_at_call 105; refine (l4Use_in n _ hn).mono ?_; rintro e y ⟨rfl, b9⟩; have hb9 := below2 b9; have hBl := (BxS.of b9).2; have hB := (BxS.of b9).1; obtain ⟨z0, z1, z2, z3, z4, z5⟩ := id hB; clear b9) | (go_at_call 104; refine (l4Has_I _ _ _ hz (by omega)).mono ?_; rintro e y2 ⟨rfl, rfl⟩))
        all_goals
          clear z0 z1 z2 z3 z4 z5
          have hk : Hid (∀ x, Below y.heap.size y x → BxS w n p.regs a b c s x) := fun x hx => BxS.later hB hBl hx
          have hwb : IntKind.i64.wrap (a + b) = a + b := by simp [IntKind.wrap, IntKind.bits, IntKind.signed]; omega
          have hF : Hid (∀ x, Below y.heap.size y x → Calls Tryz.prog 40 #[insV n a b c s] x fun e x' => e = .returned (.int .i64 (a)) ∧ Below y.heap.size y x') := fun x hx => (l4From_0 _ a b c s x (by omega) (by omega)).mono fun e x' ⟨he, hb⟩ => ⟨he, hx.trans (hb.mono hx.size)⟩
          have hd : BxS w n p.regs a b c s y.drew := hB
          refine wp_region_held_drew (S := BxS w n p.regs a b c s) (by kernel_rfl) hd (fun hH => ?_)
          refine take_dst 0 52 (.string (useS n)) rfl (by kernel_rfl) (by kernel_rfl) (by kernel_rfl) (fun _ _ _ h => h) (Or.inl ⟨by rfl, by intro wv hSv; go_simp⟩) hd rfl ?_
          try simp only [tk0, tk1, tk2, tk3, tk4]
          refine wpAnyH_ready (rs := [1]) (by kernel_rfl) (by simp) ?_
          refine AllReadyH.cons rfl (fun KK hKK => ?_) AllReadyH.nil
          go_simp
          refine (l4Has_I _ _ _ hz (by omega)).mono ?_
          rintro e y2 ⟨rfl, rfl⟩
          rw [l118]
          go_wp2_with fail
          refine hKK.out _ _ hd (fun _ => ?_)
          clear hKK KK
          try simp only [tk0, tk1, tk2, tk3, tk4]
          refine take_dst 2 54 (.bool true) rfl (by kernel_rfl) (by kernel_rfl) (by kernel_rfl) (fun _ _ _ h => h) (Or.inl ⟨by rfl, by intro wv hSv; go_simp⟩) hd rfl ?_
          try simp only [tk0, tk1, tk2, tk3, tk4]
          refine take_dst 3 55 (.pointer (some ⟨w.heap.size + 1, 2, none⟩)) rfl (by kernel_rfl) (by kernel_rfl) (by kernel_rfl) (fun _ _ _ h => h) (Or.inl ⟨by rfl, by intro wv hSv; go_simp⟩) hd rfl ?_
          try simp only [tk0, tk1, tk2, tk3, tk4]
          refine take_dst 4 56 (.int .i64 b) rfl (by kernel_rfl) (by kernel_rfl) (by kernel_rfl) (fun _ _ _ h => h) (Or.inl ⟨by rfl, by intro wv hSv; unfold BxS at hSv; obtain ⟨h0, h1, h2, h3, h4, h5⟩ := hSv; go_simp⟩) hd rfl ?_
          try simp only [tk0, tk1, tk2, tk3, tk4]
          refine take_dst 5 57 (.bool true) rfl (by kernel_rfl) (by kernel_rfl) (by kernel_rfl) (fun _ _ _ h => h) (Or.inl ⟨by rfl, by intro wv hSv; go_simp⟩) hd rfl ?_
          try simp only [tk0, tk1, tk2, tk3, tk4]
          refine take_dst 6 58 (.bool true) rfl (by kernel_rfl) (by kernel_rfl) (by kernel_rfl) (fun _ _ _ h => h) (Or.inl ⟨by rfl, by intro wv hSv; go_simp⟩) hd rfl ?_
          try simp only [tk0, tk1, tk2, tk3, tk4]
          refine take_dst 7 59 (.bool true) rfl (by kernel_rfl) (by kernel_rfl) (by kernel_rfl) (fun _ _ _ h => h) (Or.inl ⟨by rfl, by intro wv hSv; go_simp⟩) hd rfl ?_
          try simp only [tk0, tk1, tk2, tk3, tk4]
          refine take_dst 8 60 (.pointer (some ⟨w.heap.size + 1, 2, none⟩)) rfl (by kernel_rfl) (by kernel_rfl) (by kernel_rfl) (fun _ _ _ h => h) (Or.inl ⟨by rfl, by intro wv hSv; go_simp⟩) hd rfl ?_
          try simp only [tk0, tk1, tk2, tk3, tk4]
          refine take_dst 9 61 (.int .i64 b) rfl (by kernel_rfl) (by kernel_rfl) (by kernel_rfl) (fun _ _ _ h => h) (Or.inl ⟨by rfl, by intro wv hSv; unfold BxS at hSv; obtain ⟨h0, h1, h2, h3, h4, h5⟩ := hSv; go_simp⟩) hd rfl ?_
          try simp only [tk0, tk1, tk2, tk3, tk4]
          refine take_dst 10 62 (.bool true) rfl (by kernel_rfl) (by kernel_rfl) (by kernel_rfl) (fun _ _ _ h => h) (Or.inl ⟨by rfl, by intro wv hSv; go_simp⟩) hd rfl ?_
          try simp only [tk0, tk1, tk2, tk3, tk4]
          refine take_dst 11 63 (.bool true) rfl (by kernel_rfl) (by kernel_rfl) (by kernel_rfl) (fun _ _ _ h => h) (Or.inl ⟨by rfl, by intro wv hSv; go_simp⟩) hd rfl ?_
          try simp only [tk0, tk1, tk2, tk3, tk4]
          refine take_dst 12 64 (.bool true) rfl (by kernel_rfl) (by kernel_rfl) (by kernel_rfl) (fun _ _ _ h => h) (Or.inl ⟨by rfl, by intro wv hSv; go_simp⟩) hd rfl ?_
          try simp only [tk0, tk1, tk2, tk3, tk4]
          refine take_dst 13 65 (.agg #[.int .i64 (n : Int), .int .i64 a, .int .i64 b, .int .i64 c, .int .i64 s]) rfl (by kernel_rfl) (by kernel_rfl) (by kernel_rfl) (fun _ _ _ h => h) (Or.inl ⟨by rfl, by intro wv hSv; unfold BxS at hSv; obtain ⟨h0, h1, h2, h3, h4, h5⟩ := hSv; go_simp⟩) hd rfl ?_
          try simp only [tk0, tk1, tk2, tk3, tk4]
          refine take_dst 15 67 (.pointer (some ⟨w.heap.size + 1, 2, none⟩)) rfl (by kernel_rfl) (by kernel_rfl) (by kernel_rfl) (fun _ _ _ h => h) (Or.inl ⟨by rfl, by intro wv hSv; go_simp⟩) hd rfl ?_
          try simp only [tk0, tk1, tk2, tk3, tk4]
          refine take_dst 16 68 (.int .i64 b) rfl (by kernel_rfl) (by kernel_rfl) (by kernel_rfl) (fun _ _ _ h => h) (Or.inl ⟨by rfl, by intro wv hSv; unfold BxS at hSv; obtain ⟨h0, h1, h2, h3, h4, h5⟩ := hSv; go_simp⟩) hd rfl ?_
          try simp only [tk0, tk1, tk2, tk3, tk4]
          refine take_dst 18 70 (.int .i64 (a + 1)) rfl (by kernel_rfl) (by kernel_rfl) (by kernel_rfl) (fun _ _ _ h => h) (Or.inl ⟨by rfl, by intro wv hSv; go_simp⟩) hd rfl ?_
          try simp only [tk0, tk1, tk2, tk3, tk4]
          refine wpAnyH_ready (rs := [14]) (by kernel_rfl) (by simp) ?_
          refine AllReadyH.cons rfl (fun KK hKK => ?_) AllReadyH.nil
          go_simp
          refine (hF.out _ (Below.refl _ _).drew).mono ?_
          rintro e y4 ⟨rfl, b4⟩
          have h4 : BxS w n p.regs a b c s y4 := hk.out y4 b4
          go_wp2_with fail
          refine hKK.out _ _ h4 (fun _ => ?_)
          clear hKK KK
          try simp only [tk0, tk1, tk2, tk3, tk4]
          refine take_dst 17 69 (.int .i64 (a + b)) rfl (by kernel_rfl) (by kernel_rfl) (by kernel_rfl) (fun _ _ _ h => h) (Or.inl ⟨by rfl, by intro wv hSv; go_simp⟩) h4 rfl ?_
          try simp only [tk0, tk1, tk2, tk3, tk4]
          refine take_dst 19 71 (.bool (decide (a + 1 < a + b))) rfl (by kernel_rfl) (by kernel_rfl) (by kernel_rfl) (fun _ _ _ h => h) (Or.inl ⟨by rfl, by intro wv hSv; go_simp⟩) h4 rfl ?_
          try simp only [tk0, tk1, tk2, tk3, tk4]
          refine take_dst 20 72 (.bool (decide (a + 1 < a + b))) rfl (by kernel_rfl) (by kernel_rfl) (by kernel_rfl) (fun _ _ _ h => h) (Or.inl ⟨by rfl, by intro wv hSv; go_simp⟩) h4 rfl ?_
          try simp only [tk0, tk1, tk2, tk3, tk4]
          refine wpAnyH_done (by kernel_rfl) ?_ _
          by_cases hgt : a + 1 < a + b
          · have dgt : decide (a + 1 < a + b) = true := by simp; omega
            go_wp2_with fail
            have hd2 : BxS w n p.regs a b c s y4.drew := h4
            refine wp_region_held_drew (S := BxS w n p.regs a b c s) (by kernel_rfl) hd2 (fun hH => ?_)
            refine take_dst 0 73 (.agg #[.int .i64 (n : Int), .int .i64 a, .int .i64 b, .int .i64 c, .int .i64 s]) rfl (by kernel_rfl) (by kernel_rfl) (by kernel_rfl) (fun _ _ _ h => h) (Or.inl ⟨by rfl, by intro wv hSv; unfold BxS at hSv; obtain ⟨h0, h1, h2, h3, h4, h5⟩ := hSv; go_simp⟩) hd2 rfl ?_
            try simp only [tk0, tk1, tk2, tk3, tk4]
            refine take_dst 2 75 (.pointer (some ⟨w.heap.size + 1, 2, none⟩)) rfl (by kernel_rfl) (by kernel_rfl) (by kernel_rfl) (fun _ _ _ h => h) (Or.inl ⟨by rfl, by intro wv hSv; go_simp⟩) hd2 rfl ?_
            try simp only [tk0, tk1, tk2, tk3, tk4]
            refine take_dst 3 76 (.int .i64 b) rfl (by kernel_rfl) (by kernel_rfl) (by kernel_rfl) (fun _ _ _ h => h) (Or.inl ⟨by rfl, by intro wv hSv; unfold BxS at hSv; obtain ⟨h0, h1, h2, h3, h4, h5⟩ := hSv; go_simp⟩) hd2 rfl ?_
            try simp only [tk0, tk1, tk2, tk3, tk4]
            refine wpAnyH_ready (rs := [1]) (by kernel_rfl) (by simp) ?_
            refine AllReadyH.cons rfl (fun KK hKK => ?_) AllReadyH.nil
            go_simp
            refine (hF.out _ b4.drew).mono ?_
            rintro e y5 ⟨rfl, b5⟩
            have h5 : BxS w n p.regs a b c s y5 := hk.out y5 b5
            go_wp2_with fail
            refine hKK.out _ _ h5 (fun _ => ?_)
            clear hKK KK
            try simp only [tk0, tk1, tk2, tk3, tk4]
            refine take_dst 4 77 (.int .i64 (a + b)) rfl (by kernel_rfl) (by kernel_rfl) (by kernel_rfl) (fun _ _ _ h => h) (Or.inl ⟨by rfl, by intro wv hSv; go_simp⟩) h5 rfl ?_
            try simp only [tk0, tk1, tk2, tk3, tk4]
            refine take_dst 5 6 (.int .i64 (a + b)) rfl (by kernel_rfl) (by kernel_rfl) (by kernel_rfl) (fun _ _ _ h => h) (Or.inl ⟨by rfl, by intro wv hSv; go_simp⟩) h5 rfl ?_
            try simp only [tk0, tk1, tk2, tk3, tk4]
            refine wpAnyH_done (by kernel_rfl) ?_ _
            have hbF : Below w.heap.size w y5 := hb9.trans (Below.mono b5 hb9.size)
            have hBf : BxS w n p.regs a b c s y5 := h5
            obtain ⟨z0, z1, z2, z3, z4, z5⟩ := id hBf
            clear hB hBf hk hF hd
            go_wp2_with (go_at_call 104; refine (l4Has_I _ _ _ hz (by omega)).mono ?_; rintro e y2 ⟨rfl, rfl⟩)
            all_goals go_ret
            all_goals exact ⟨⟨_, rfl, by rw [decide_eq_true_iff] <;> omega⟩, by assumption⟩
          · have dgt : decide (a + 1 < a + b) = false := by simp; omega
            have hbF : Below w.heap.size w y4 := hb9.trans (Below.mono b4 hb9.size)
            have hBf : BxS w n p.regs a b c s y4 := h4
            obtain ⟨z0, z1, z2, z3, z4, z5⟩ := id hBf
            clear hB hBf hk hF hd
            go_wp2_with (go_at_call 104; refine (l4Has_I _ _ _ hz (by omega)).mono ?_; rintro e y2 ⟨rfl, rfl⟩)
            all_goals go_ret
            all_goals exact ⟨⟨_, rfl, by rw [decide_eq_true_iff] <;> omega⟩, by assumption⟩
      · have qc : rsz c = c := if_neg oc
        have nc : (c != 511) = true := by simp [oc]
        rw [qb, qc]
        clear qb qc
        go_enter Tryz.func101, Tryz.ntmps101
        go_upto_region 13 with (first | (go_at_call 105; refine (l4Use_in n _ hn).mono ?_; rintro e y ⟨rfl, b9⟩; have hb9 := below2 b9; have hBl := (BxS.of b9).2; have hB := (BxS.of b9).1; obtain ⟨z0, z1, z2, z3, z4, z5⟩ := id hB; clear b9) | (go_at_call 104; refine (l4Has_I _ _ _ hz (by omega)).mono ?_; rintro e y2 ⟨rfl, rfl⟩))
        all_goals
          clear z0 z1 z2 z3 z4 z5
          have hk : Hid (∀ x, Below y.heap.size y x → BxS w n p.regs a b c s x) := fun x hx => BxS.later hB hBl hx
          have hwb : IntKind.i64.wrap (a + b) = a + b := by simp [IntKind.wrap, IntKind.bits, IntKind.signed]; omega
          have hF : Hid (∀ x, Below y.heap.size y x → Calls Tryz.prog 40 #[insV n a b c s] x fun e x' => e = .returned (.int .i64 (a)) ∧ Below y.heap.size y x') := fun x hx => (l4From_0 _ a b c s x (by omega) (by omega)).mono fun e x' ⟨he, hb⟩ => ⟨he, hx.trans (hb.mono hx.size)⟩
          have hd : BxS w n p.regs a b c s y.drew := hB
          refine wp_region_held_drew (S := BxS w n p.regs a b c s) (by kernel_rfl) hd (fun hH => ?_)
          refine take_dst 0 52 (.string (useS n)) rfl (by kernel_rfl) (by kernel_rfl) (by kernel_rfl) (fun _ _ _ h => h) (Or.inl ⟨by rfl, by intro wv hSv; go_simp⟩) hd rfl ?_
          try simp only [tk0, tk1, tk2, tk3, tk4]
          refine wpAnyH_ready (rs := [1]) (by kernel_rfl) (by simp) ?_
          refine AllReadyH.cons rfl (fun KK hKK => ?_) AllReadyH.nil
          go_simp
          refine (l4Has_I _ _ _ hz (by omega)).mono ?_
          rintro e y2 ⟨rfl, rfl⟩
          rw [l118]
          go_wp2_with fail
          refine hKK.out _ _ hd (fun _ => ?_)
          clear hKK KK
          try simp only [tk0, tk1, tk2, tk3, tk4]
          refine take_dst 2 54 (.bool true) rfl (by kernel_rfl) (by kernel_rfl) (by kernel_rfl) (fun _ _ _ h => h) (Or.inl ⟨by rfl, by intro wv hSv; go_simp⟩) hd rfl ?_
          try simp only [tk0, tk1, tk2, tk3, tk4]
          refine take_dst 3 55 (.pointer (some ⟨w.heap.size + 1, 2, none⟩)) rfl (by kernel_rfl) (by kernel_rfl) (by kernel_rfl) (fun _ _ _ h => h) (Or.inl ⟨by rfl, by intro wv hSv; go_simp⟩) hd rfl ?_
          try simp only [tk0, tk1, tk2, tk3, tk4]
          refine take_dst 4 56 (.int .i64 b) rfl (by kernel_rfl) (by kernel_rfl) (by kernel_rfl) (fun _ _ _ h => h) (Or.inl ⟨by rfl, by intro wv hSv; unfold BxS at hSv; obtain ⟨h0, h1, h2, h3, h4, h5⟩ := hSv; go_simp⟩) hd rfl ?_
          try simp only [tk0, tk1, tk2, tk3, tk4]
          refine take_dst 5 57 (.bool true) rfl (by kernel_rfl) (by kernel_rfl) (by kernel_rfl) (fun _ _ _ h => h) (Or.inl ⟨by rfl, by intro wv hSv; go_simp⟩) hd rfl ?_
          try simp only [tk0, tk1, tk2, tk3, tk4]
          refine take_dst 6 58 (.bool true) rfl (by kernel_rfl) (by kernel_rfl) (by kernel_rfl) (fun _ _ _ h => h) (Or.inl ⟨by rfl, by intro wv hSv; go_simp⟩) hd rfl ?_
          try simp only [tk0, tk1, tk2, tk3, tk4]
          refine take_dst 7 59 (.bool true) rfl (by kernel_rfl) (by kernel_rfl) (by kernel_rfl) (fun _ _ _ h => h) (Or.inl ⟨by rfl, by intro wv hSv; go_simp⟩) hd rfl ?_
          try simp only [tk0, tk1, tk2, tk3, tk4]
          refine take_dst 8 60 (.pointer (some ⟨w.heap.size + 1, 2, none⟩)) rfl (by kernel_rfl) (by kernel_rfl) (by kernel_rfl) (fun _ _ _ h => h) (Or.inl ⟨by rfl, by intro wv hSv; go_simp⟩) hd rfl ?_
          try simp only [tk0, tk1, tk2, tk3, tk4]
          refine take_dst 9 61 (.int .i64 b) rfl (by kernel_rfl) (by kernel_rfl) (by kernel_rfl) (fun _ _ _ h => h) (Or.inl ⟨by rfl, by intro wv hSv; unfold BxS at hSv; obtain ⟨h0, h1, h2, h3, h4, h5⟩ := hSv; go_simp⟩) hd rfl ?_
          try simp only [tk0, tk1, tk2, tk3, tk4]
          refine take_dst 10 62 (.bool true) rfl (by kernel_rfl) (by kernel_rfl) (by kernel_rfl) (fun _ _ _ h => h) (Or.inl ⟨by rfl, by intro wv hSv; go_simp⟩) hd rfl ?_
          try simp only [tk0, tk1, tk2, tk3, tk4]
          refine take_dst 11 63 (.bool true) rfl (by kernel_rfl) (by kernel_rfl) (by kernel_rfl) (fun _ _ _ h => h) (Or.inl ⟨by rfl, by intro wv hSv; go_simp⟩) hd rfl ?_
          try simp only [tk0, tk1, tk2, tk3, tk4]
          refine take_dst 12 64 (.bool true) rfl (by kernel_rfl) (by kernel_rfl) (by kernel_rfl) (fun _ _ _ h => h) (Or.inl ⟨by rfl, by intro wv hSv; go_simp⟩) hd rfl ?_
          try simp only [tk0, tk1, tk2, tk3, tk4]
          refine take_dst 13 65 (.agg #[.int .i64 (n : Int), .int .i64 a, .int .i64 b, .int .i64 c, .int .i64 s]) rfl (by kernel_rfl) (by kernel_rfl) (by kernel_rfl) (fun _ _ _ h => h) (Or.inl ⟨by rfl, by intro wv hSv; unfold BxS at hSv; obtain ⟨h0, h1, h2, h3, h4, h5⟩ := hSv; go_simp⟩) hd rfl ?_
          try simp only [tk0, tk1, tk2, tk3, tk4]
          refine take_dst 15 67 (.pointer (some ⟨w.heap.size + 1, 2, none⟩)) rfl (by kernel_rfl) (by kernel_rfl) (by kernel_rfl) (fun _ _ _ h => h) (Or.inl ⟨by rfl, by intro wv hSv; go_simp⟩) hd rfl ?_
          try simp only [tk0, tk1, tk2, tk3, tk4]
          refine take_dst 16 68 (.int .i64 b) rfl (by kernel_rfl) (by kernel_rfl) (by kernel_rfl) (fun _ _ _ h => h) (Or.inl ⟨by rfl, by intro wv hSv; unfold BxS at hSv; obtain ⟨h0, h1, h2, h3, h4, h5⟩ := hSv; go_simp⟩) hd rfl ?_
          try simp only [tk0, tk1, tk2, tk3, tk4]
          refine take_dst 18 70 (.int .i64 (a + 1)) rfl (by kernel_rfl) (by kernel_rfl) (by kernel_rfl) (fun _ _ _ h => h) (Or.inl ⟨by rfl, by intro wv hSv; go_simp⟩) hd rfl ?_
          try simp only [tk0, tk1, tk2, tk3, tk4]
          refine wpAnyH_ready (rs := [14]) (by kernel_rfl) (by simp) ?_
          refine AllReadyH.cons rfl (fun KK hKK => ?_) AllReadyH.nil
          go_simp
          refine (hF.out _ (Below.refl _ _).drew).mono ?_
          rintro e y4 ⟨rfl, b4⟩
          have h4 : BxS w n p.regs a b c s y4 := hk.out y4 b4
          go_wp2_with fail
          refine hKK.out _ _ h4 (fun _ => ?_)
          clear hKK KK
          try simp only [tk0, tk1, tk2, tk3, tk4]
          refine take_dst 17 69 (.int .i64 (a + b)) rfl (by kernel_rfl) (by kernel_rfl) (by kernel_rfl) (fun _ _ _ h => h) (Or.inl ⟨by rfl, by intro wv hSv; go_simp⟩) h4 rfl ?_
          try simp only [tk0, tk1, tk2, tk3, tk4]
          refine take_dst 19 71 (.bool (decide (a + 1 < a + b))) rfl (by kernel_rfl) (by kernel_rfl) (by kernel_rfl) (fun _ _ _ h => h) (Or.inl ⟨by rfl, by intro wv hSv; go_simp⟩) h4 rfl ?_
          try simp only [tk0, tk1, tk2, tk3, tk4]
          refine take_dst 20 72 (.bool (decide (a + 1 < a + b))) rfl (by kernel_rfl) (by kernel_rfl) (by kernel_rfl) (fun _ _ _ h => h) (Or.inl ⟨by rfl, by intro wv hSv; go_simp⟩) h4 rfl ?_
          try simp only [tk0, tk1, tk2, tk3, tk4]
          refine wpAnyH_done (by kernel_rfl) ?_ _
          by_cases hgt : a + 1 < a + b
          · have dgt : decide (a + 1 < a + b) = true := by simp; omega
            go_wp2_with fail
            have hd2 : BxS w n p.regs a b c s y4.drew := h4
            refine wp_region_held_drew (S := BxS w n p.regs a b c s) (by kernel_rfl) hd2 (fun hH => ?_)
            refine take_dst 0 73 (.agg #[.int .i64 (n : Int), .int .i64 a, .int .i64 b, .int .i64 c, .int .i64 s]) rfl (by kernel_rfl) (by kernel_rfl) (by kernel_rfl) (fun _ _ _ h => h) (Or.inl ⟨by rfl, by intro wv hSv; unfold BxS at hSv; obtain ⟨h0, h1, h2, h3, h4, h5⟩ := hSv; go_simp⟩) hd2 rfl ?_
            try simp only [tk0, tk1, tk2, tk3, tk4]
            refine take_dst 2 75 (.pointer (some ⟨w.heap.size + 1, 2, none⟩)) rfl (by kernel_rfl) (by kernel_rfl) (by kernel_rfl) (fun _ _ _ h => h) (Or.inl ⟨by rfl, by intro wv hSv; go_simp⟩) hd2 rfl ?_
            try simp only [tk0, tk1, tk2, tk3, tk4]
            refine take_dst 3 76 (.int .i64 b) rfl (by kernel_rfl) (by kernel_rfl) (by kernel_rfl) (fun _ _ _ h => h) (Or.inl ⟨by rfl, by intro wv hSv; unfold BxS at hSv; obtain ⟨h0, h1, h2, h3, h4, h5⟩ := hSv; go_simp⟩) hd2 rfl ?_
            try simp only [tk0, tk1, tk2, tk3, tk4]
            refine wpAnyH_ready (rs := [1]) (by kernel_rfl) (by simp) ?_
            refine AllReadyH.cons rfl (fun KK hKK => ?_) AllReadyH.nil
            go_simp
            refine (hF.out _ b4.drew).mono ?_
            rintro e y5 ⟨rfl, b5⟩
            have h5 : BxS w n p.regs a b c s y5 := hk.out y5 b5
            go_wp2_with fail
            refine hKK.out _ _ h5 (fun _ => ?_)
            clear hKK KK
            try simp only [tk0, tk1, tk2, tk3, tk4]
            refine take_dst 4 77 (.int .i64 (a + b)) rfl (by kernel_rfl) (by kernel_rfl) (by kernel_rfl) (fun _ _ _ h => h) (Or.inl ⟨by rfl, by intro wv hSv; go_simp⟩) h5 rfl ?_
            try simp only [tk0, tk1, tk2, tk3, tk4]
            refine take_dst 5 6 (.int .i64 (a + b)) rfl (by kernel_rfl) (by kernel_rfl) (by kernel_rfl) (fun _ _ _ h => h) (Or.inl ⟨by rfl, by intro wv hSv; go_simp⟩) h5 rfl ?_
            try simp only [tk0, tk1, tk2, tk3, tk4]
            refine wpAnyH_done (by kernel_rfl) ?_ _
            have hbF : Below w.heap.size w y5 := hb9.trans (Below.mono b5 hb9.size)
            have hBf : BxS w n p.regs a b c s y5 := h5
            obtain ⟨z0, z1, z2, z3, z4, z5⟩ := id hBf
            clear hB hBf hk hF hd
            go_wp2_with (go_at_call 104; refine (l4Has_I _ _ _ hz (by omega)).mono ?_; rintro e y2 ⟨rfl, rfl⟩)
            all_goals go_ret
            all_goals exact ⟨⟨_, rfl, by rw [decide_eq_true_iff] <;> omega⟩, by assumption⟩
          · have dgt : decide (a + 1 < a + b) = false := by simp; omega
            have hbF : Below w.heap.size w y4 := hb9.trans (Below.mono b4 hb9.size)
            have hBf : BxS w n p.regs a b c s y4 := h4
            obtain ⟨z0, z1, z2, z3, z4, z5⟩ := id hBf
            clear hB hBf hk hF hd
            go_wp2_with (go_at_call 104; refine (l4Has_I _ _ _ hz (by omega)).mono ?_; rintro e y2 ⟨rfl, rfl⟩)
            all_goals go_ret
            all_goals exact ⟨⟨_, rfl, by rw [decide_eq_true_iff] <;> omega⟩, by assumption⟩
    · have db : decide (0 < b) = false := by simp; omega
      by_cases oc : c = 511
      · have qc : rsz c = 0 := if_pos oc
        have nc : (c != 511) = false := by simp [oc]
        replace oc : Hid (c = 511) := oc
        rw [qb, qc]
        clear qb qc
        go_enter Tryz.func101, Tryz.ntmps101
        go_upto_region 13 with (first | (go_at_call 105; refine (l4Use_in n _ hn).mono ?_; rintro e y ⟨rfl, b9⟩; have hb9 := below2 b9; have hBl := (BxS.of b9).2; have hB := (BxS.of b9).1; obtain ⟨z0, z1, z2, z3, z4, z5⟩ := id hB; clear b9) | (go_at_call 104; refine (l4Has_I _ _ _ hz (by omega)).mono ?_; rintro e y2 ⟨rfl, rfl⟩))
        all_goals
          clear z0 z1 z2 z3 z4 z5
          have hk : Hid (∀ x, Below y.heap.size y x → BxS w n p.regs a b c s x) := fun x hx => BxS.later hB hBl hx
          have hd : BxS w n p.regs a b c s y.drew := hB
          refine wp_region_held_drew (S := BxS w n p.regs a b c s) (by kernel_rfl) hd (fun hH => ?_)
          refine take_dst 0 52 (.string (useS n)) rfl (by kernel_rfl) (by kernel_rfl) (by kernel_rfl) (fun _ _ _ h => h) (Or.inl ⟨by rfl, by intro wv hSv; go_simp⟩) hd rfl ?_
          try simp only [tk0, tk1, tk2, tk3, tk4]
          refine wpAnyH_ready (rs := [1]) (by kernel_rfl) (by simp) ?_
          refine AllReadyH.cons rfl (fun KK hKK => ?_) AllReadyH.nil
          go_simp
          refine (l4Has_I _ _ _ hz (by omega)).mono ?_
          rintro e y2 ⟨rfl, rfl⟩
          rw [l118]
          go_wp2_with fail
          refine hKK.out _ _ hd (fun _ => ?_)
          clear hKK KK
          try simp only [tk0, tk1, tk2, tk3, tk4]
          refine take_dst 2 54 (.bool true) rfl (by kernel_rfl) (by kernel_rfl) (by kernel_rfl) (fun _ _ _ h => h) (Or.inl ⟨by rfl, by intro wv hSv; go_simp⟩) hd rfl ?_
          try simp only [tk0, tk1, tk2, tk3, tk4]
          refine take_dst 3 55 (.pointer (some ⟨w.heap.size + 1, 2, none⟩)) rfl (by kernel_rfl) (by kernel_rfl) (by kernel_rfl) (fun _ _ _ h => h) (Or.inl ⟨by rfl, by intro wv hSv; go_simp⟩) hd rfl ?_
          try simp only [tk0, tk1, tk2, tk3, tk4]
          refine take_dst 4 56 (.int .i64 b) rfl (by kernel_rfl) (by kernel_rfl) (by kernel_rfl) (fun _ _ _ h => h) (Or.inl ⟨by rfl, by intro wv hSv; unfold BxS at hSv; obtain ⟨h0, h1, h2, h3, h4, h5⟩ := hSv; go_simp⟩) hd rfl ?_
          try simp only [tk0, tk1, tk2, tk3, tk4]
          refine take_dst 5 57 (.bool true) rfl (by kernel_rfl) (by kernel_rfl) (by kernel_rfl) (fun _ _ _ h => h) (Or.inl ⟨by rfl, by intro wv hSv; go_simp⟩) hd rfl ?_
          try simp only [tk0, tk1, tk2, tk3, tk4]
          refine take_dst 6 58 (.bool true) rfl (by kernel_rfl) (by kernel_rfl) (by kernel_rfl) (fun _ _ _ h => h) (Or.inl ⟨by rfl, by intro wv hSv; go_simp⟩) hd rfl ?_
          try simp only [tk0, tk1, tk2, tk3, tk4]
          refine take_dst 7 59 (.bool true) rfl (by kernel_rfl) (by kernel_rfl) (by kernel_rfl) (fun _ _ _ h => h) (Or.inl ⟨by rfl, by intro wv hSv; go_simp⟩) hd rfl ?_
          try simp only [tk0, tk1, tk2, tk3, tk4]
          refine take_dst 8 60 (.pointer (some ⟨w.heap.size + 1, 2, none⟩)) rfl (by kernel_rfl) (by kernel_rfl) (by kernel_rfl) (fun _ _ _ h => h) (Or.inl ⟨by rfl, by intro wv hSv; go_simp⟩) hd rfl ?_
          try simp only [tk0, tk1, tk2, tk3, tk4]
          refine take_dst 9 61 (.int .i64 b) rfl (by kernel_rfl) (by kernel_rfl) (by kernel_rfl) (fun _ _ _ h => h) (Or.inl ⟨by rfl, by intro wv hSv; unfold BxS at hSv; obtain ⟨h0, h1, h2, h3, h4, h5⟩ := hSv; go_simp⟩) hd rfl ?_
          try simp only [tk0, tk1, tk2, tk3, tk4]
          refine take_dst 10 62 (.bool false) rfl (by kernel_rfl) (by kernel_rfl) (by kernel_rfl) (fun _ _ _ h => h) (Or.inl ⟨by rfl, by intro wv hSv; go_simp⟩) hd rfl ?_
          try simp only [tk0, tk1, tk2, tk3, tk4]
          refine take_dst 11 63 (.bool false) rfl (by kernel_rfl) (by kernel_rfl) (by kernel_rfl) (fun _ _ _ h => h) (Or.inl ⟨by rfl, by intro wv hSv; go_simp⟩) hd rfl ?_
          try simp only [tk0, tk1, tk2, tk3, tk4]
          refine take_dst 12 64 (.bool false) rfl (by kernel_rfl) (by kernel_rfl) (by kernel_rfl) (fun _ _ _ h => h) (Or.inl ⟨by rfl, by intro wv hSv; go_simp⟩) hd rfl ?_
          try simp only [tk0, tk1, tk2, tk3, tk4]
          refine take_dst 13 65 undef rfl (by kernel_rfl) (by kernel_rfl) (by kernel_rfl) (fun _ _ _ h => h) (Or.inr ⟨by rfl, rfl⟩) hd rfl ?_
          try simp only [tk0, tk1, tk2, tk3, tk4]
          refine take_dst 14 66 undef rfl (by kernel_rfl) (by kernel_rfl) (by kernel_rfl) (fun _ _ _ h => h) (Or.inr ⟨by rfl, rfl⟩) hd rfl ?_
          try simp only [tk0, tk1, tk2, tk3, tk4]
          refine take_dst 15 67 undef rfl (by kernel_rfl) (by kernel_rfl) (by kernel_rfl) (fun _ _ _ h => h) (Or.inr ⟨by rfl, rfl⟩) hd rfl ?_
          try simp only [tk0, tk1, tk2, tk3, tk4]
          refine take_dst 16 68 undef rfl (by kernel_rfl) (by kernel_rfl) (by kernel_rfl) (fun _ _ _ h => h) (Or.inr ⟨by rfl, rfl⟩) hd rfl ?_
          try simp only [tk0, tk1, tk2, tk3, tk4]
          refine take_dst 17 69 undef rfl (by kernel_rfl) (by kernel_rfl) (by kernel_rfl) (fun _ _ _ h => h) (Or.inr ⟨by rfl, rfl⟩) hd rfl ?_
          try simp only [tk0, tk1, tk2, tk3, tk4]
          refine take_dst 18 70 undef rfl (by kernel_rfl) (by kernel_rfl) (by kernel_rfl) (fun _ _ _ h => h) (Or.inr ⟨by rfl, rfl⟩) hd rfl ?_
          try simp only [tk0, tk1, tk2, tk3, tk4]
          refine take_dst 19 71 undef rfl (by kernel_rfl) (by kernel_rfl) (by kernel_rfl) (fun _ _ _ h => h) (Or.inr ⟨by rfl, rfl⟩) hd rfl ?_
          try simp only [tk0, tk1, tk2, tk3, tk4]
          refine take_dst 20 72 (.bool false) rfl (by kernel_rfl) (by kernel_rfl) (by kernel_rfl) (fun _ _ _ h => h) (Or.inl ⟨by rfl, by intro wv hSv; go_simp⟩) hd rfl ?_
          try simp only [tk0, tk1, tk2, tk3, tk4]
          refine wpAnyH_done (by kernel_rfl) ?_ _
          have hbF : Below w.heap.size w y.drew := hb9.trans (Below.mono (Below.refl y.heap.size y).drew hb9.size)
          have hBf : BxS w n p.regs a b c s y.drew := hB
          obtain ⟨z0, z1, z2, z3, z4, z5⟩ := id hBf
          clear hB hBf hk hd
          go_wp2_with (go_at_call 104; refine (l4Has_I _ _ _ hz (by omega)).mono ?_; rintro e y2 ⟨rfl, rfl⟩)
          all_goals go_ret
          all_goals exact ⟨⟨_, rfl, by rw [decide_eq_true_iff] <;> omega⟩, by assumption⟩
      · have qc : rsz c = c := if_neg oc
        have nc : (c != 511) = true := by simp [oc]
        rw [qb, qc]
        clear qb qc
        go_enter Tryz.func101, Tryz.ntmps101
        go_upto_region 13 with (first | (go_at_call 105; refine (l4Use_in n _ hn).mono ?_; rintro e y ⟨rfl, b9⟩; have hb9 := below2 b9; have hBl := (BxS.of b9).2; have hB := (BxS.of b9).1; obtain ⟨z0, z1, z2, z3, z4, z5⟩ := id hB; clear b9) | (go_at_call 104; refine (l4Has_I _ _ _ hz (by omega)).mono ?_; rintro e y2 ⟨rfl, rfl⟩))
        all_goals
          clear z0 z1 z2 z3 z4 z5
          have hk : Hid (∀ x, Below y.heap.size y x → BxS w n p.regs a b c s x) := fun x hx => BxS.later hB hBl hx
          have hd : BxS w n p.regs a b c s y.drew := hB
          refine wp_region_held_drew (S := BxS w n p.regs a b c s) (by kernel_rfl) hd (fun hH => ?_)
          refine take_dst 0 52 (.string (useS n)) rfl (by kernel_rfl) (by kernel_rfl) (by kernel_rfl) (fun _ _ _ h => h) (Or.inl ⟨by rfl, by intro wv hSv; go_simp⟩) hd rfl ?_
          try simp only [tk0, tk1, tk2, tk3, tk4]
          refine wpAnyH_ready (rs := [1]) (by kernel_rfl) (by simp) ?_
          refine AllReadyH.cons rfl (fun KK hKK => ?_) AllReadyH.nil
          go_simp
          refine (l4Has_I _ _ _ hz (by omega)).mono ?_
          rintro e y2 ⟨rfl, rfl⟩
          rw [l118]
          go_wp2_with fail
          refine hKK.out _ _ hd (fun _ => ?_)
          clear hKK KK
          try simp only [tk0, tk1, tk2, tk3, tk4]
          refine take_dst 2 54 (.bool true) rfl (by kernel_rfl) (by kernel_rfl) (by kernel_rfl) (fun _ _ _ h => h) (Or.inl ⟨by rfl, by intro wv hSv; go_simp⟩) hd rfl ?_
          try simp only [tk0, tk1, tk2, tk3, tk4]
          refine take_dst 3 55 (.pointer (some ⟨w.heap.size + 1, 2, none⟩)) rfl (by kernel_rfl) (by kernel_rfl) (by kernel_rfl) (fun _ _ _ h => h) (Or.inl ⟨by rfl, by intro wv hSv; go_simp⟩) hd rfl ?_
          try simp only [tk0, tk1, tk2, tk3, tk4]
          refine take_dst 4 56 (.int .i64 b) rfl (by kernel_rfl) (by kernel_rfl) (by kernel_rfl) (fun _ _ _ h => h) (Or.inl ⟨by rfl, by intro wv hSv; unfold BxS at hSv; obtain ⟨h0, h1, h2, h3, h4, h5⟩ := hSv; go_simp⟩) hd rfl ?_
          try simp only [tk0, tk1, tk2, tk3, tk4]
          refine take_dst 5 57 (.bool true) rfl (by kernel_rfl) (by kernel_rfl) (by kernel_rfl) (fun _ _ _ h => h) (Or.inl ⟨by rfl, by intro wv hSv; go_simp⟩) hd rfl ?_
          try simp only [tk0, tk1, tk2, tk3, tk4]
          refine take_dst 6 58 (.bool true) rfl (by kernel_rfl) (by kernel_rfl) (by kernel_rfl) (fun _ _ _ h => h) (Or.inl ⟨by rfl, by intro wv hSv; go_simp⟩) hd rfl ?_
          try simp only [tk0, tk1, tk2, tk3, tk4]
          refine take_dst 7 59 (.bool true) rfl (by kernel_rfl) (by kernel_rfl) (by kernel_rfl) (fun _ _ _ h => h) (Or.inl ⟨by rfl, by intro wv hSv; go_simp⟩) hd rfl ?_
          try simp only [tk0, tk1, tk2, tk3, tk4]
          refine take_dst 8 60 (.pointer (some ⟨w.heap.size + 1, 2, none⟩)) rfl (by kernel_rfl) (by kernel_rfl) (by kernel_rfl) (fun _ _ _ h => h) (Or.inl ⟨by rfl, by intro wv hSv; go_simp⟩) hd rfl ?_
          try simp only [tk0, tk1, tk2, tk3, tk4]
          refine take_dst 9 61 (.int .i64 b) rfl (by kernel_rfl) (by kernel_rfl) (by kernel_rfl) (fun _ _ _ h => h) (Or.inl ⟨by rfl, by intro wv hSv; unfold BxS at hSv; obtain ⟨h0, h1, h2, h3, h4, h5⟩ := hSv; go_simp⟩) hd rfl ?_
          try simp only [tk0, tk1, tk2, tk3, tk4]
          refine take_dst 10 62 (.bool false) rfl (by kernel_rfl) (by kernel_rfl) (by kernel_rfl) (fun _ _ _ h => h) (Or.inl ⟨by rfl, by intro wv hSv; go_simp⟩) hd rfl ?_
          try simp only [tk0, tk1, tk2, tk3, tk4]
          refine take_dst 11 63 (.bool false) rfl (by kernel_rfl) (by kernel_rfl) (by kernel_rfl) (fun _ _ _ h => h) (Or.inl ⟨by rfl, by intro wv hSv; go_simp⟩) hd rfl ?_
          try simp only [tk0, tk1, tk2, tk3, tk4]
          refine take_dst 12 64 (.bool false) rfl (by kernel_rfl) (by kernel_rfl) (by kernel_rfl) (fun _ _ _ h => h) (Or.inl ⟨by rfl, by intro wv hSv; go_simp⟩) hd rfl ?_
          try simp only [tk0, tk1, tk2, tk3, tk4]
          refine take_dst 13 65 undef rfl (by kernel_rfl) (by kernel_rfl) (by kernel_rfl) (fun _ _ _ h => h) (Or.inr ⟨by rfl, rfl⟩) hd rfl ?_
          try simp only [tk0, tk1, tk2, tk3, tk4]
          refine take_dst 14 66 undef rfl (by kernel_rfl) (by kernel_rfl) (by kernel_rfl) (fun _ _ _ h => h) (Or.inr ⟨by rfl, rfl⟩) hd rfl ?_
          try simp only [tk0, tk1, tk2, tk3, tk4]
          refine take_dst 15 67 undef rfl (by kernel_rfl) (by kernel_rfl) (by kernel_rfl) (fun _ _ _ h => h) (Or.inr ⟨by rfl, rfl⟩) hd rfl ?_
          try simp only [tk0, tk1, tk2, tk3, tk4]
          refine take_dst 16 68 undef rfl (by kernel_rfl) (by kernel_rfl) (by kernel_rfl) (fun _ _ _ h => h) (Or.inr ⟨by rfl, rfl⟩) hd rfl ?_
          try simp only [tk0, tk1, tk2, tk3, tk4]
          refine take_dst 17 69 undef rfl (by kernel_rfl) (by kernel_rfl) (by kernel_rfl) (fun _ _ _ h => h) (Or.inr ⟨by rfl, rfl⟩) hd rfl ?_
          try simp only [tk0, tk1, tk2, tk3, tk4]
          refine take_dst 18 70 undef rfl (by kernel_rfl) (by kernel_rfl) (by kernel_rfl) (fun _ _ _ h => h) (Or.inr ⟨by rfl, rfl⟩) hd rfl ?_
          try simp only [tk0, tk1, tk2, tk3, tk4]
          refine take_dst 19 71 undef rfl (by kernel_rfl) (by kernel_rfl) (by kernel_rfl) (fun _ _ _ h => h) (Or.inr ⟨by rfl, rfl⟩) hd rfl ?_
          try simp only [tk0, tk1, tk2, tk3, tk4]
          refine take_dst 20 72 (.bool false) rfl (by kernel_rfl) (by kernel_rfl) (by kernel_rfl) (fun _ _ _ h => h) (Or.inl ⟨by rfl, by intro wv hSv; go_simp⟩) hd rfl ?_
          try simp only [tk0, tk1, tk2, tk3, tk4]
          refine wpAnyH_done (by kernel_rfl) ?_ _
          have hbF : Below w.heap.size w y.drew := hb9.trans (Below.mono (Below.refl y.heap.size y).drew hb9.size)
          have hBf : BxS w n p.regs a b c s y.drew := hB
          obtain ⟨z0, z1, z2, z3, z4, z5⟩ := id hBf
          clear hB hBf hk hd
          go_wp2_with (go_at_call 104; refine (l4Has_I _ _ _ hz (by omega)).mono ?_; rintro e y2 ⟨rfl, rfl⟩)
          all_goals go_ret
          all_goals exact ⟨⟨_, rfl, by rw [decide_eq_true_iff] <;> omega⟩, by assumption⟩
theorem l4Regs_in (n : Nat) (hn : n ≤ 33) (p : PD) (ac : Option Addr) (cc : Nat) (o4 : Option Addr) (c4 : Nat) (o5 : Option Addr) (c5 : Nat) (o8 : Option Addr) (c8 : Nat) (o9 : Option Addr) (c9 : Nat) (a b c s : Int) (w : World) (a1 : 0 ≤ a) (a2 : a ≤ 255) (b1 : 0 ≤ b) (b2 : b ≤ 511) (c1 : 0 ≤ c) (c2 : c ≤ 511) :
    Calls Tryz.prog 101 #[prV p ac cc o4 c4 o5 c5 o8 c8 o9 c9, insV n a b c s] w fun e w' => Says e (topR n a b c ≤ p.regs) ∧ Below w.heap.size w w' := by
  by_cases k_rs : n = 0 ∨ n = 15 ∨ n = 16 ∨ n = 17 ∨ n = 29 ∨ n = 32
  · have hl : hasC (useS n) 114 = true ∧ hasC (useS n) 110 = false ∧ hasC (useS n) 52 = false ∧ hasC (useS n) 115 = true ∧ hasC (useS n) 116 = false ∧ hasC (useS n) 118 = false ∧ hasC (useS n) 119 = false := by
      rcases k_rs with rfl | rfl | rfl | rfl | rfl | rfl <;> decide
    refine (regs_rs n (by omega) p ac cc o4 c4 o5 c5 o8 c8 o9 c9 a b c s w a1 a2 b1 b2 c1 c2 hl.1 hl.2.1 hl.2.2.1 hl.2.2.2.1 hl.2.2.2.2.1 hl.2.2.2.2.2.1 hl.2.2.2.2.2.2).mono fun e w' ⟨he, hb⟩ => ⟨says_iff he (by unfold topR; rcases k_rs with rfl | rfl | rfl | rfl | rfl | rfl <;> simp), hb⟩
  by_cases k_rk : n = 1
  · have hl : hasC (useS n) 114 = true ∧ hasC (useS n) 110 = false ∧ hasC (useS n) 52 = false ∧ hasC (useS n) 115 = false ∧ hasC (useS n) 116 = false ∧ hasC (useS n) 118 = false ∧ hasC (useS n) 119 = false := by
      rcases k_rk with rfl <;> decide
    refine (regs_rk n (by omega) p ac cc o4 c4 o5 c5 o8 c8 o9 c9 a b c s w a1 a2 b1 b2 c1 c2 hl.1 hl.2.1 hl.2.2.1 hl.2.2.2.1 hl.2.2.2.2.1 hl.2.2.2.2.2.1 hl.2.2.2.2.2.2).mono fun e w' ⟨he, hb⟩ => ⟨says_iff he (by unfold topR; rcases k_rk with rfl <;> simp), hb⟩
  by_cases k_n : n = 2
  · have hl : hasC (useS n) 114 = false ∧ hasC (useS n) 110 = true ∧ hasC (useS n) 52 = false ∧ hasC (useS n) 115 = false ∧ hasC (useS n) 116 = false ∧ hasC (useS n) 118 = false ∧ hasC (useS n) 119 = false := by
      rcases k_n with rfl <;> decide
    refine (regs_n n (by omega) p ac cc o4 c4 o5 c5 o8 c8 o9 c9 a b c s w a1 a2 b1 b2 c1 c2 hl.1 hl.2.1 hl.2.2.1 hl.2.2.2.1 hl.2.2.2.2.1 hl.2.2.2.2.2.1 hl.2.2.2.2.2.2).mono fun e w' ⟨he, hb⟩ => ⟨says_iff he (by unfold topR; rcases k_n with rfl <;> simp), hb⟩
  by_cases k_rz : n = 3
  · have hl : hasC (useS n) 114 = true ∧ hasC (useS n) 110 = false ∧ hasC (useS n) 52 = false ∧ hasC (useS n) 115 = false ∧ hasC (useS n) 116 = false ∧ hasC (useS n) 118 = false ∧ hasC (useS n) 119 = false := by
      rcases k_rz with rfl <;> decide
    refine (regs_rz n (by omega) p ac cc o4 c4 o5 c5 o8 c8 o9 c9 a b c s w a1 a2 b1 b2 c1 c2 hl.1 hl.2.1 hl.2.2.1 hl.2.2.2.1 hl.2.2.2.2.1 hl.2.2.2.2.2.1 hl.2.2.2.2.2.2).mono fun e w' ⟨he, hb⟩ => ⟨says_iff he (by unfold topR; rcases k_rz with rfl <;> simp), hb⟩
  by_cases k_ru : n = 4 ∨ n = 5
  · have hl : hasC (useS n) 114 = true ∧ hasC (useS n) 110 = false ∧ hasC (useS n) 52 = false ∧ hasC (useS n) 115 = false ∧ hasC (useS n) 116 = false ∧ hasC (useS n) 118 = false ∧ hasC (useS n) 119 = false := by
      rcases k_ru with rfl | rfl <;> decide
    refine (regs_ru n (by omega) p ac cc o4 c4 o5 c5 o8 c8 o9 c9 a b c s w a1 a2 b1 b2 c1 c2 hl.1 hl.2.1 hl.2.2.1 hl.2.2.2.1 hl.2.2.2.2.1 hl.2.2.2.2.2.1 hl.2.2.2.2.2.2).mono fun e w' ⟨he, hb⟩ => ⟨says_iff he (by unfold topR; rcases k_ru with rfl | rfl <;> simp), hb⟩
  by_cases k_r : n = 6 ∨ n = 26 ∨ n = 33
  · have hl : hasC (useS n) 114 = true ∧ hasC (useS n) 110 = false ∧ hasC (useS n) 52 = false ∧ hasC (useS n) 115 = false ∧ hasC (useS n) 116 = false ∧ hasC (useS n) 118 = false ∧ hasC (useS n) 119 = false := by
      rcases k_r with rfl | rfl | rfl <;> decide
    refine (regs_r n (by omega) p ac cc o4 c4 o5 c5 o8 c8 o9 c9 a b c s w a1 a2 b1 b2 c1 c2 hl.1 hl.2.1 hl.2.2.1 hl.2.2.2.1 hl.2.2.2.2.1 hl.2.2.2.2.2.1 hl.2.2.2.2.2.2).mono fun e w' ⟨he, hb⟩ => ⟨says_iff he (by unfold topR; rcases k_r with rfl | rfl | rfl <;> simp), hb⟩
  by_cases k_rst : n = 7 ∨ n = 8 ∨ n = 9 ∨ n = 10 ∨ n = 11 ∨ n = 12 ∨ n = 13 ∨ n = 14
  · have hl : hasC (useS n) 114 = true ∧ hasC (useS n) 110 = false ∧ hasC (useS n) 52 = false ∧ hasC (useS n) 115 = true ∧ hasC (useS n) 116 = true ∧ hasC (useS n) 118 = false ∧ hasC (useS n) 119 = false := by
      rcases k_rst with rfl | rfl | rfl | rfl | rfl | rfl | rfl | rfl <;> decide
    refine (regs_rst n (by omega) p ac cc o4 c4 o5 c5 o8 c8 o9 c9 a b c s w a1 a2 b1 b2 c1 c2 hl.1 hl.2.1 hl.2.2.1 hl.2.2.2.1 hl.2.2.2.2.1 hl.2.2.2.2.2.1 hl.2.2.2.2.2.2).mono fun e w' ⟨he, hb⟩ => ⟨says_iff he (by unfold topR; rcases k_rst with rfl | rfl | rfl | rfl | rfl | rfl | rfl | rfl <;> simp), hb⟩
  by_cases k_j : n = 18
  · have hl : hasC (useS n) 114 = false ∧ hasC (useS n) 110 = false ∧ hasC (useS n) 52 = false ∧ hasC (useS n) 115 = false ∧ hasC (useS n) 116 = false ∧ hasC (useS n) 118 = false ∧ hasC (useS n) 119 = false := by
      rcases k_j with rfl <;> decide
    refine (regs_j n (by omega) p ac cc o4 c4 o5 c5 o8 c8 o9 c9 a b c s w a1 a2 b1 b2 c1 c2 hl.1 hl.2.1 hl.2.2.1 hl.2.2.2.1 hl.2.2.2.2.1 hl.2.2.2.2.2.1 hl.2.2.2.2.2.2).mono fun e w' ⟨he, hb⟩ => ⟨says_iff he (by unfold topR; rcases k_j with rfl <;> simp), hb⟩
  by_cases k_ostp : n = 19 ∨ n = 20
  · have hl : hasC (useS n) 114 = false ∧ hasC (useS n) 110 = false ∧ hasC (useS n) 52 = false ∧ hasC (useS n) 115 = true ∧ hasC (useS n) 116 = true ∧ hasC (useS n) 118 = false ∧ hasC (useS n) 119 = false := by
      rcases k_ostp with rfl | rfl <;> decide
    refine (regs_ostp n (by omega) p ac cc o4 c4 o5 c5 o8 c8 o9 c9 a b c s w a1 a2 b1 b2 c1 c2 hl.1 hl.2.1 hl.2.2.1 hl.2.2.2.1 hl.2.2.2.2.1 hl.2.2.2.2.2.1 hl.2.2.2.2.2.2).mono fun e w' ⟨he, hb⟩ => ⟨says_iff he (by unfold topR; rcases k_ostp with rfl | rfl <;> simp), hb⟩
  by_cases k_rdp : n = 21
  · have hl : hasC (useS n) 114 = true ∧ hasC (useS n) 110 = false ∧ hasC (useS n) 52 = false ∧ hasC (useS n) 115 = false ∧ hasC (useS n) 116 = false ∧ hasC (useS n) 118 = false ∧ hasC (useS n) 119 = false := by
      rcases k_rdp with rfl <;> decide
    refine (regs_rdp n (by omega) p ac cc o4 c4 o5 c5 o8 c8 o9 c9 a b c s w a1 a2 b1 b2 c1 c2 hl.1 hl.2.1 hl.2.2.1 hl.2.2.2.1 hl.2.2.2.2.1 hl.2.2.2.2.2.1 hl.2.2.2.2.2.2).mono fun e w' ⟨he, hb⟩ => ⟨says_iff he (by unfold topR; rcases k_rdp with rfl <;> simp), hb⟩
  by_cases k_rv : n = 23
  · have hl : hasC (useS n) 114 = true ∧ hasC (useS n) 110 = false ∧ hasC (useS n) 52 = false ∧ hasC (useS n) 115 = false ∧ hasC (useS n) 116 = false ∧ hasC (useS n) 118 = true ∧ hasC (useS n) 119 = false := by
      rcases k_rv with rfl <;> decide
    refine (regs_rv n (by omega) p ac cc o4 c4 o5 c5 o8 c8 o9 c9 a b c s w a1 a2 b1 b2 c1 c2 hl.1 hl.2.1 hl.2.2.1 hl.2.2.2.1 hl.2.2.2.2.1 hl.2.2.2.2.2.1 hl.2.2.2.2.2.2 (by omega)).mono fun e w' ⟨he, hb⟩ => ⟨says_iff he (by unfold topR; rcases k_rv with rfl <;> simp), hb⟩
  by_cases k_rvVV : n = 24
  · have hl : hasC (useS n) 114 = true ∧ hasC (useS n) 110 = false ∧ hasC (useS n) 52 = false ∧ hasC (useS n) 115 = false ∧ hasC (useS n) 116 = false ∧ hasC (useS n) 118 = true ∧ hasC (useS n) 119 = false := by
      rcases k_rvVV with rfl <;> decide
    refine (regs_rvVV n (by omega) p ac cc o4 c4 o5 c5 o8 c8 o9 c9 a b c s w a1 a2 b1 b2 c1 c2 hl.1 hl.2.1 hl.2.2.1 hl.2.2.2.1 hl.2.2.2.2.1 hl.2.2.2.2.2.1 hl.2.2.2.2.2.2 (by omega)).mono fun e w' ⟨he, hb⟩ => ⟨says_iff he (by unfold topR; rcases k_rvVV with rfl <;> simp), hb⟩
  by_cases k_rc : n = 25
  · have hl : hasC (useS n) 114 = true ∧ hasC (useS n) 110 = false ∧ hasC (useS n) 52 = false ∧ hasC (useS n) 115 = false ∧ hasC (useS n) 116 = false ∧ hasC (useS n) 118 = false ∧ hasC (useS n) 119 = false := by
      rcases k_rc with rfl <;> decide
    refine (regs_rc n (by omega) p ac cc o4 c4 o5 c5 o8 c8 o9 c9 a b c s w a1 a2 b1 b2 c1 c2 hl.1 hl.2.1 hl.2.2.1 hl.2.2.2.1 hl.2.2.2.2.1 hl.2.2.2.2.2.1 hl.2.2.2.2.2.2).mono fun e w' ⟨he, hb⟩ => ⟨says_iff he (by unfold topR; rcases k_rc with rfl <;> simp), hb⟩
  by_cases k_qjh : n = 27
  · have hl : hasC (useS n) 114 = false ∧ hasC (useS n) 110 = false ∧ hasC (useS n) 52 = true ∧ hasC (useS n) 115 = false ∧ hasC (useS n) 116 = false ∧ hasC (useS n) 118 = false ∧ hasC (useS n) 119 = false := by
      rcases k_qjh with rfl <;> decide
    refine (regs_qjh n (by omega) p ac cc o4 c4 o5 c5 o8 c8 o9 c9 a b c s w a1 a2 b1 b2 c1 c2 hl.1 hl.2.1 hl.2.2.1 hl.2.2.2.1 hl.2.2.2.2.1 hl.2.2.2.2.2.1 hl.2.2.2.2.2.2).mono fun e w' ⟨he, hb⟩ => ⟨says_iff he (by unfold topR; rcases k_qjh with rfl <;> simp), hb⟩
  by_cases k_qj : n = 28
  · have hl : hasC (useS n) 114 = false ∧ hasC (useS n) 110 = false ∧ hasC (useS n) 52 = true ∧ hasC (useS n) 115 = false ∧ hasC (useS n) 116 = false ∧ hasC (useS n) 118 = false ∧ hasC (useS n) 119 = false := by
      rcases k_qj with rfl <;> decide
    refine (regs_qj n (by omega) p ac cc o4 c4 o5 c5 o8 c8 o9 c9 a b c s w a1 a2 b1 b2 c1 c2 hl.1 hl.2.1 hl.2.2.1 hl.2.2.2.1 hl.2.2.2.2.1 hl.2.2.2.2.2.1 hl.2.2.2.2.2.2).mono fun e w' ⟨he, hb⟩ => ⟨says_iff he (by unfold topR; rcases k_qj with rfl <;> simp), hb⟩
  by_cases k_rvwc : n = 22 ∨ n = 30
  · have hl : hasC (useS n) 114 = true ∧ hasC (useS n) 110 = false ∧ hasC (useS n) 52 = false ∧ hasC (useS n) 115 = false ∧ hasC (useS n) 116 = false ∧ hasC (useS n) 118 = true ∧ hasC (useS n) 119 = true := by
      rcases k_rvwc with rfl | rfl <;> decide
    refine (regs_rvwc n (by omega) p ac cc o4 c4 o5 c5 o8 c8 o9 c9 a b c s w a1 a2 b1 b2 c1 c2 hl.1 hl.2.1 hl.2.2.1 hl.2.2.2.1 hl.2.2.2.2.1 hl.2.2.2.2.2.1 hl.2.2.2.2.2.2 (by omega)).mono fun e w' ⟨he, hb⟩ => ⟨says_iff he (by unfold topR; rcases k_rvwc with rfl | rfl <;> simp), hb⟩
  by_cases k_rvwy : n = 31
  · have hl : hasC (useS n) 114 = true ∧ hasC (useS n) 110 = false ∧ hasC (useS n) 52 = false ∧ hasC (useS n) 115 = false ∧ hasC (useS n) 116 = false ∧ hasC (useS n) 118 = true ∧ hasC (useS n) 119 = true := by
      rcases k_rvwy with rfl <;> decide
    refine (regs_rvwy n (by omega) p ac cc o4 c4 o5 c5 o8 c8 o9 c9 a b c s w a1 a2 b1 b2 c1 c2 hl.1 hl.2.1 hl.2.2.1 hl.2.2.2.1 hl.2.2.2.2.1 hl.2.2.2.2.2.1 hl.2.2.2.2.2.2 (by omega)).mono fun e w' ⟨he, hb⟩ => ⟨says_iff he (by unfold topR; rcases k_rvwy with rfl <;> simp), hb⟩
  omega
end Go.Proofs.YtckapapejfnojaaGreatDoor

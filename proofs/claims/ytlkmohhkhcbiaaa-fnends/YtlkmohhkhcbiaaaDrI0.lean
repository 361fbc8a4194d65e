import Derived.Test.YtlkmohhkhcbiaaaDrI
namespace Go.Proofs.Ytlkmohhkhcbiaaa
open Go.RowKit Go.Shelf
set_option linter.unusedVariables false
set_option linter.unusedSimpArgs false
attribute [local go_sem] Oper.semAt_some
attribute [local irreducible] pI pW
set_option maxRecDepth 100000 in
set_option maxHeartbeats 12000000 in
theorem l4Tree_0 (c : Sl Int) (p : Nat) (ups : Int) (hp : p ≤ 40000) (hu1 : 0 ≤ ups) (hu2 : ups ≤ 2) (w : World) (ao : Option Addr) (cap : Nat) (hC : IsCode w (.slice ao c.n cap) c) (M : Nat → List Int) (hM : ∀ k, k ≤ 7 → (M k).length ≤ 60 ∧ U32 (M k) ∧ ∀ w v, IsCode w v c → Calls Try.prog 26 #[v, .int .i64 (p + 3 + 4 * k : Nat), .int .i64 (tk c p 3 + 1), .int .i64 ups, .bool (decide (tk c (p + 2) 6 < 3)), .bool false] w fun e w' => ∃ u q, e = .returned (.tuple #[u, .int .i64 q]) ∧ q = ((p + 3 + 4 * k : Nat) : Int) + 4 ∧ WS w w' u (M k)) (R : Value → Int → World → Prop)
    (hK : ∀ y vc vu, QSt w w.heap.size (w.heap.size + 1) (tk c (p + 1) 12 % 4) (decide (tk c (p + 2) 6 < 3)) (tk c p 3 + 1) (kcL c p) y vc (codeL c p M) vu (upL c p ups.toNat) → Calls Try.prog 27 #[.slice ao c.n cap, .int .i64 (p + 4 + 4 * cnt c + ups.toNat : Nat), .int .i64 0, .agg #[.int .i64 (tk c (p + 1) 12 % 4), .bool (decide (tk c (p + 2) 6 < 3)), .int .i64 12, vc, .slice (some ⟨w.heap.size + 1, 0, none⟩) 6 6, vu, .int .i64 (tk c p 3 + 1), .string ⟨#[]⟩, .slice none 0 0, .slice none 0 0]] y fun e w' => ∃ u q, e = .returned (.tuple #[u, .int .i64 q]) ∧ R u q w') :
    Calls Try.prog 14 #[.slice ao c.n cap, .int .i64 p, .int .i64 0, .int .i64 ups] w fun e w' => ∃ u q, e = .returned (.tuple #[u, .int .i64 q]) ∧ R u q w' := by
  obtain ⟨nu, hnu⟩ : ∃ nu : Nat, ups = (nu : Int) := Int.eq_ofNat_of_zero_le hu1
  subst hnu
  obtain ⟨t, ht⟩ : ∃ t, tk c p 3 = t := ⟨_, rfl⟩
  obtain ⟨a, ha⟩ : ∃ t, tk c (p + 1) 12 = t := ⟨_, rfl⟩
  obtain ⟨b, hb⟩ : ∃ t, tk c (p + 2) 6 = t := ⟨_, rfl⟩
  have bt := tk_bd c p 3
  have ba := tk_bd c (p + 1) 12
  have bb := tk_bd c (p + 2) 6
  rw [ht] at bt
  rw [ha] at ba
  rw [hb] at bb
  have t1 := bt.1
  have t2 := bt.2 (by omega)
  have a1 := ba.1
  have a2 := ba.2 (by omega)
  have b1 := bb.1
  have b2 := bb.2 (by omega)
  clear bt ba bb
  rw [ha, hb, ht] at hK
  have haK : Hid (tk c (p + 1) 12 = a) := ha
  have hbK : Hid (tk c (p + 2) 6 = b) := hb
  replace ht : Hid _ := ht
  replace hK : Hid _ := hK
  replace ha : Hid _ := ha
  rw [hb, ht] at hM
  have hwt : IntKind.i64.wrap (t + 1) = t + 1 := by simp [IntKind.wrap, IntKind.bits, IntKind.signed]; omega
  replace hM : Hid (∀ k, k ≤ 7 → (M k).length ≤ 60 ∧ U32 (M k) ∧ ∀ w v, IsCode w v c → Calls Try.prog 26 #[v, .int .i64 (p + 3 + 4 * k : Nat), .int .i64 (t + 1), .int .i64 (nu : Int), .bool (decide (b < 3)), .bool false] w fun e w' => ∃ u q, e = .returned (.tuple #[u, .int .i64 q]) ∧ q = ((p + 3 + 4 * k : Nat) : Int) + 4 ∧ WS w w' u (M k)) := hM
  replace hb : Hid _ := hb
  have hsm := hC.small
  replace hC : Hid (IsCode w (.slice ao c.n cap) c) := hC
  go_enter Try.func14, Try.ntmps14
  go_wp2_with fail
  refine (l1Take_to c _ p p 3 w rfl hC.out (by omega) (by omega) ht.out).mono ?_
  rintro e w' ⟨rfl, rfl⟩
  go_wp2_with fail
  refine (l1Count_in c ao cap _ hsm).mono ?_
  rintro e w' ⟨rfl, rfl⟩
  go_wp2_with fail
  refine (l1Take_to c _ (p + 1) (p + 1) 12 _ (by omega) hC.out (by omega) (by omega) ha.out).mono ?_
  rintro e w' ⟨rfl, rfl⟩
  go_wp2_with fail
  refine (l1Take_to c _ (p + 2) (p + 1 + 1) 6 _ (by omega) hC.out (by omega) (by omega) hb.out).mono ?_
  rintro e w' ⟨rfl, rfl⟩
  clear ht ha hb
  obtain ⟨P0, hP0⟩ : ∃ P0 : Nat, a % 4 = (P0 : Int) := Int.eq_ofNat_of_zero_le (by omega)
  have hP3 : P0 ≤ 3 := by omega
  go_wp2_with fail
  rw [hP0]
  obtain ⟨vb, hvb⟩ : ∃ vb, vb = decide (b < 3) := ⟨_, rfl⟩
  rw [← hvb] at hM hK ⊢
  replace hvb : Hid (vb = decide (b < 3)) := hvb
  obtain ⟨kv, hkv⟩ : ∃ kv : Int, kv = (t + 1) := ⟨_, rfl⟩
  obtain ⟨KC, hKC⟩ : ∃ KC : List Value, KC = [.int .i64 2, .int .i64 a, .string ⟨#[]⟩, .int .i64 2, .int .i64 (b - 2), .string ⟨#[]⟩, .int .i64 2, .int .i64 (b + 1), .string ⟨#[]⟩, .int .i64 2, .int .i64 1, .string ⟨#[]⟩, .int .i64 3, .int .i64 0, .string ⟨#[115]⟩, .int .i64 1, .int .i64 1, .string ⟨#[]⟩] := ⟨_, rfl⟩
  have Q0 : Hid (QSt w w.heap.size (w.heap.size + 1) (P0 : Int) vb kv KC ((w.alloc (.cells #[.int .i64 (P0 : Int), .bool vb, .int .i64 12, .slice none 0 0, .slice (some ⟨w.heap.size + 1, 0, none⟩) 6 6, .slice none 0 0, .int .i64 (t + 1), .string ⟨#[]⟩, .slice none 0 0, .slice none 0 0] 35)).alloc (.cells #[.int .i64 2, .int .i64 a, .string ⟨#[]⟩, .int .i64 2, .int .i64 (b - 2), .string ⟨#[]⟩, .int .i64 2, .int .i64 (b + 1), .string ⟨#[]⟩, .int .i64 2, .int .i64 1, .string ⟨#[]⟩, .int .i64 3, .int .i64 0, .string ⟨#[115]⟩, .int .i64 1, .int .i64 1, .string ⟨#[]⟩] 57)) (.slice none 0 0) ([]) (.slice none 0 0) []) := by
    have R1 := (RowL.new w [.int .i64 (P0 : Int), .bool vb, .int .i64 12, .slice none 0 0, .slice (some ⟨w.heap.size + 1, 0, none⟩) 6 6, .slice none 0 0, .int .i64 (t + 1), .string ⟨#[]⟩, .slice none 0 0, .slice none 0 0] 35).alloc (.cells #[.int .i64 2, .int .i64 a, .string ⟨#[]⟩, .int .i64 2, .int .i64 (b - 2), .string ⟨#[]⟩, .int .i64 2, .int .i64 (b + 1), .string ⟨#[]⟩, .int .i64 2, .int .i64 1, .string ⟨#[]⟩, .int .i64 3, .int .i64 0, .string ⟨#[115]⟩, .int .i64 1, .int .i64 1, .string ⟨#[]⟩] 57)
    have R2 := RowL.new (w.alloc (.cells #[.int .i64 (P0 : Int), .bool vb, .int .i64 12, .slice none 0 0, .slice (some ⟨w.heap.size + 1, 0, none⟩) 6 6, .slice none 0 0, .int .i64 (t + 1), .string ⟨#[]⟩, .slice none 0 0, .slice none 0 0] 35)) [.int .i64 2, .int .i64 a, .string ⟨#[]⟩, .int .i64 2, .int .i64 (b - 2), .string ⟨#[]⟩, .int .i64 2, .int .i64 (b + 1), .string ⟨#[]⟩, .int .i64 2, .int .i64 1, .string ⟨#[]⟩, .int .i64 3, .int .i64 0, .string ⟨#[115]⟩, .int .i64 1, .int .i64 1, .string ⟨#[]⟩] 57
    rw [World.size_alloc] at R2
    subst hkv hKC
    exact ⟨R1, R2, World.ownsRow_nil _ _ _ _, World.ownsRow_nil _ _ _ _, by go_grown, Nat.le_refl _, by omega⟩
  generalize (w.alloc (.cells #[.int .i64 (P0 : Int), .bool vb, .int .i64 12, .slice none 0 0, .slice (some ⟨w.heap.size + 1, 0, none⟩) 6 6, .slice none 0 0, .int .i64 (t + 1), .string ⟨#[]⟩, .slice none 0 0, .slice none 0 0] 35)).alloc (.cells #[.int .i64 2, .int .i64 a, .string ⟨#[]⟩, .int .i64 2, .int .i64 (b - 2), .string ⟨#[]⟩, .int .i64 2, .int .i64 (b + 1), .string ⟨#[]⟩, .int .i64 2, .int .i64 1, .string ⟨#[]⟩, .int .i64 3, .int .i64 0, .string ⟨#[115]⟩, .int .i64 1, .int .i64 1, .string ⟨#[]⟩] 57) = wq at Q0 ⊢
  go_loopw [15] (fun i wr => ∃ k : Nat, i = .int .i64 ((P0 + k : Nat) : Int) ∧ P0 + k ≤ 4 ∧ Hid (∃ vc, QSt w w.heap.size (w.heap.size + 1) (P0 : Int) vb kv KC wr vc (ldL a P0 k) (.slice none 0 0) []))
    (fun i _ => 4 - (intOf i).toNat)
  case atStart => exact ⟨0, by simp, by omega, ⟨_, Q0.out⟩⟩
  case round =>
    obtain ⟨k, rfl, hk, hT⟩ := hrel
    obtain ⟨wz, hwz⟩ : ∃ x, x = wr := ⟨_, rfl⟩
    subst hwz
    by_cases hlt : P0 + k < 4
    · have hii : ((P0 + k : Nat) : Int) < 4 := by omega
      have hlen := ldL_len a P0 k
      obtain ⟨vc, hQ⟩ := hT.out
      replace hQ : Hid (QSt w w.heap.size (w.heap.size + 1) (P0 : Int) vb kv KC wz vc (ldL a P0 k) (.slice none 0 0) []) := hQ
      clear hT Q0
      obtain ⟨ii, hi0⟩ : ∃ ii : Nat, ii = P0 + k := ⟨_, rfl⟩
      rw [← hi0] at hii ⊢
      replace hi0 : Hid (ii = P0 + k) := hi0
      have hi3 : ii < 4 := by omega
      have hw1 : IntKind.i64.wrap (a + ii) = a + ii := by simp [IntKind.wrap, IntKind.bits, IntKind.signed]; omega
      have hw2 : (a + ii : Int).tmod 4 = (a + ii) % 4 := Int.tmod_eq_emod_of_nonneg (by omega)
      go_wp2_with fail
      have hd := hQ.out.drew
      refine wp_region_held_drew (S := fun _ => True) (by kernel_rfl) trivial (fun hH => ?_)
      refine take_dst 0 71 (.pointer (some ⟨w.heap.size, 3, none⟩)) rfl (by kernel_rfl) (by kernel_rfl) (by kernel_rfl) (fun _ _ _ h => h) (Or.inl ⟨by rfl, by intro wv hSv; (try dsimp only at hSv); go_simp⟩) trivial rfl ?_
      try simp only [Act.put, List.setIfInBounds_toArray, List.set_cons_zero, List.set_cons_succ]
      refine take_dst 2 73 (.int .i64 ii) rfl (by kernel_rfl) (by kernel_rfl) (by kernel_rfl) (fun _ _ _ h => h) (Or.inl ⟨by rfl, by intro wv hSv; (try dsimp only at hSv); go_simp⟩) trivial rfl ?_
      try simp only [Act.put, List.setIfInBounds_toArray, List.set_cons_zero, List.set_cons_succ]
      refine take_dst 3 74 (.int .i64 a) rfl (by kernel_rfl) (by kernel_rfl) (by kernel_rfl) (fun _ _ _ h => h) (Or.inl ⟨by rfl, by intro wv hSv; (try dsimp only at hSv); go_simp⟩) trivial rfl ?_
      try simp only [Act.put, List.setIfInBounds_toArray, List.set_cons_zero, List.set_cons_succ]
      refine take_dst 4 75 (.int .i64 ii) rfl (by kernel_rfl) (by kernel_rfl) (by kernel_rfl) (fun _ _ _ h => h) (Or.inl ⟨by rfl, by intro wv hSv; (try dsimp only at hSv); go_simp⟩) trivial rfl ?_
      try simp only [Act.put, List.setIfInBounds_toArray, List.set_cons_zero, List.set_cons_succ]
      refine take_dst 5 76 (.int .i64 (a + ii)) rfl (by kernel_rfl) (by kernel_rfl) (by kernel_rfl) (fun _ _ _ h => h) (Or.inl ⟨by rfl, by intro wv hSv; (try dsimp only at hSv); go_simp⟩) trivial rfl ?_
      try simp only [Act.put, List.setIfInBounds_toArray, List.set_cons_zero, List.set_cons_succ]
      refine take_dst 6 77 (.int .i64 ((a + ii) % 4)) rfl (by kernel_rfl) (by kernel_rfl) (by kernel_rfl) (fun _ _ _ h => h) (Or.inl ⟨by rfl, by intro wv hSv; (try dsimp only at hSv); go_simp⟩) trivial rfl ?_
      try simp only [Act.put, List.setIfInBounds_toArray, List.set_cons_zero, List.set_cons_succ]
      refine wpAnyH_ready (rs := [1, 7]) (by kernel_rfl) (by simp) ?_
      refine AllReadyH.cons rfl (fun K hK => ?_) (AllReadyH.cons rfl (fun K hK => ?_) AllReadyH.nil)
      · have q := hd.box.cell 3 rfl
        go_simp
        clear q
        refine hK.out _ _ trivial (fun _ => ?_)
        clear hK K
        try simp only [Act.put, List.setIfInBounds_toArray, List.set_cons_zero, List.set_cons_succ]
        refine wpAnyH_ready (rs := [7]) (by kernel_rfl) (by simp) ?_
        refine AllReadyH.cons rfl (fun K hK => ?_) AllReadyH.nil
        go_simp
        refine (l4W_in (1) (ii) ((a + ii) % 4) _ (by omega) (by omega) (by omega) (by omega) (by omega) (by omega)).mono ?_
        rintro e yk0 ⟨rfl, bk0⟩
        have hd0 := hd.later bk0
        go_wp2_with fail
        refine hK.out _ _ trivial (fun _ => ?_)
        clear hK K
        try simp only [Act.put, List.setIfInBounds_toArray, List.set_cons_zero, List.set_cons_succ]
        refine wpAnyH_ready (rs := [8]) (by kernel_rfl) (by simp) ?_
        refine AllReadyH.cons rfl (fun K hK => ?_) AllReadyH.nil
        have hdb := hd0.later (show Below (yk0).heap.size (yk0) ((yk0).alloc (.cells #[.int .u32 (pW 1 ii ((a + ii) % 4))] 51)) by exact (Below.refl _ _).alloc (Nat.le_refl _) _)
        go_simp
        refine hK.out _ _ trivial (fun _ => ?_)
        clear hK K
        try simp only [Act.put, List.setIfInBounds_toArray, List.set_cons_zero, List.set_cons_succ]
        refine wpAnyH_ready (rs := [9]) (by kernel_rfl) (by simp) ?_
        refine AllReadyH.cons rfl (fun K hK => ?_) AllReadyH.nil
        obtain ⟨i0, hi, hz0, hz1, hz2⟩ := info_parts info32
        refine step_append_lies _ rfl (.tmp 72) (.tmp 79) 29 rfl w.heap.size 51 i0 (.int .u32 0) 1 4 Try.underlying29 hi hz0 hz1 hz2 rfl (by decide) vc (ldL a P0 k).length ((ldL a P0 k).map (Value.int .u32)) rfl hdb.code ⟨(yk0).heap.size, 0, none⟩ 1 1 ([pW 1 ii ((a + ii) % 4)].map (Value.int .u32)) rfl rfl (World.news_of_block (heap_alloc_new _ _)) (by intro u hu; obtain ⟨z, -, rfl⟩ := List.mem_map.1 hu; rfl) (by omega) (by simp only [maxLen]; omega) (by omega) hdb.bel.size _ rfl ?_
        intro g cp w' hrow hg hat hlt
        obtain ⟨hQ1, bx⟩ := hdb.app (N := [pW 1 ii ((a + ii) % 4)]) (v' := .slice (some ⟨g, 0, none⟩) ((ldL a P0 k).length + 1) cp) (by simpa using hrow) hg
        have q2 := bx.cell 3 rfl
        have f2 := bx.frozen 3
        replace hQ1 : Hid _ := hQ1
        clear hrow hg hat hi hz0 hz1 hz2 bx
        refine hK.out _ _ trivial (fun _ => ?_)
        clear hK K
        try simp only [Act.put, List.setIfInBounds_toArray, List.set_cons_zero, List.set_cons_succ]
        refine take_dst 10 81 (.pointer (some ⟨w.heap.size, 3, none⟩)) rfl (by kernel_rfl) (by kernel_rfl) (by kernel_rfl) (fun _ _ _ h => h) (Or.inl ⟨by rfl, by intro wv hSv; (try dsimp only at hSv); go_simp⟩) trivial rfl ?_
        try simp only [Act.put, List.setIfInBounds_toArray, List.set_cons_zero, List.set_cons_succ]
        refine wpAnyH_ready (rs := [11]) (by kernel_rfl) (by simp) ?_
        refine AllReadyH.cons rfl (fun K hK => ?_) AllReadyH.nil
        go_simp
        clear q2 f2
        refine hK.out _ _ trivial (fun _ => ?_)
        clear hK K
        try simp only [Act.put, List.setIfInBounds_toArray, List.set_cons_zero, List.set_cons_succ]
        refine wpAnyH_done (by kernel_rfl) ?_ _
        have hT1 : Hid (∃ vc, QSt w w.heap.size (w.heap.size + 1) (P0 : Int) vb kv KC (w'.setCell ⟨w.heap.size, 3, none⟩ (.slice (some ⟨g, 0, none⟩) (k + 1) cp)) vc (ldL a P0 (k + 1)) (.slice none 0 0) []) := ⟨_, (by have hq := hQ1.out; rw [hlen] at hq; rw [ldL, ← hi0.out]; exact hq)⟩
        clear hQ1 hQ hd hd0 hdb
        go_wp2_with fail
        go_roundw
        case rel => exact ⟨k + 1, by have := hi0.out; simp; omega, by omega, hT1.out⟩
        case measure => simp [intOf]; omega
      · go_simp
        refine (l4W_in (1) (ii) ((a + ii) % 4) _ (by omega) (by omega) (by omega) (by omega) (by omega) (by omega)).mono ?_
        rintro e yk0 ⟨rfl, bk0⟩
        have hd0 := hd.later bk0
        go_wp2_with fail
        refine hK.out _ _ trivial (fun _ => ?_)
        clear hK K
        try simp only [Act.put, List.setIfInBounds_toArray, List.set_cons_zero, List.set_cons_succ]
        refine wpAnyH_ready (rs := [1, 8]) (by kernel_rfl) (by simp) ?_
        refine AllReadyH.cons rfl (fun K hK => ?_) (AllReadyH.cons rfl (fun K hK => ?_) AllReadyH.nil)
        · have q := hd0.box.cell 3 rfl
          go_simp
          clear q
          refine hK.out _ _ trivial (fun _ => ?_)
          clear hK K
          try simp only [Act.put, List.setIfInBounds_toArray, List.set_cons_zero, List.set_cons_succ]
          refine wpAnyH_ready (rs := [8]) (by kernel_rfl) (by simp) ?_
          refine AllReadyH.cons rfl (fun K hK => ?_) AllReadyH.nil
          have hdb := hd0.later (show Below (yk0).heap.size (yk0) ((yk0).alloc (.cells #[.int .u32 (pW 1 ii ((a + ii) % 4))] 51)) by exact (Below.refl _ _).alloc (Nat.le_refl _) _)
          go_simp
          refine hK.out _ _ trivial (fun _ => ?_)
          clear hK K
          try simp only [Act.put, List.setIfInBounds_toArray, List.set_cons_zero, List.set_cons_succ]
          refine wpAnyH_ready (rs := [9]) (by kernel_rfl) (by simp) ?_
          refine AllReadyH.cons rfl (fun K hK => ?_) AllReadyH.nil
          obtain ⟨i0, hi, hz0, hz1, hz2⟩ := info_parts info32
          refine step_append_lies _ rfl (.tmp 72) (.tmp 79) 29 rfl w.heap.size 51 i0 (.int .u32 0) 1 4 Try.underlying29 hi hz0 hz1 hz2 rfl (by decide) vc (ldL a P0 k).length ((ldL a P0 k).map (Value.int .u32)) rfl hdb.code ⟨(yk0).heap.size, 0, none⟩ 1 1 ([pW 1 ii ((a + ii) % 4)].map (Value.int .u32)) rfl rfl (World.news_of_block (heap_alloc_new _ _)) (by intro u hu; obtain ⟨z, -, rfl⟩ := List.mem_map.1 hu; rfl) (by omega) (by simp only [maxLen]; omega) (by omega) hdb.bel.size _ rfl ?_
          intro g cp w' hrow hg hat hlt
          obtain ⟨hQ1, bx⟩ := hdb.app (N := [pW 1 ii ((a + ii) % 4)]) (v' := .slice (some ⟨g, 0, none⟩) ((ldL a P0 k).length + 1) cp) (by simpa using hrow) hg
          have q2 := bx.cell 3 rfl
          have f2 := bx.frozen 3
          replace hQ1 : Hid _ := hQ1
          clear hrow hg hat hi hz0 hz1 hz2 bx
          refine hK.out _ _ trivial (fun _ => ?_)
          clear hK K
          try simp only [Act.put, List.setIfInBounds_toArray, List.set_cons_zero, List.set_cons_succ]
          refine take_dst 10 81 (.pointer (some ⟨w.heap.size, 3, none⟩)) rfl (by kernel_rfl) (by kernel_rfl) (by kernel_rfl) (fun _ _ _ h => h) (Or.inl ⟨by rfl, by intro wv hSv; (try dsimp only at hSv); go_simp⟩) trivial rfl ?_
          try simp only [Act.put, List.setIfInBounds_toArray, List.set_cons_zero, List.set_cons_succ]
          refine wpAnyH_ready (rs := [11]) (by kernel_rfl) (by simp) ?_
          refine AllReadyH.cons rfl (fun K hK => ?_) AllReadyH.nil
          go_simp
          clear q2 f2
          refine hK.out _ _ trivial (fun _ => ?_)
          clear hK K
          try simp only [Act.put, List.setIfInBounds_toArray, List.set_cons_zero, List.set_cons_succ]
          refine wpAnyH_done (by kernel_rfl) ?_ _
          have hT1 : Hid (∃ vc, QSt w w.heap.size (w.heap.size + 1) (P0 : Int) vb kv KC (w'.setCell ⟨w.heap.size, 3, none⟩ (.slice (some ⟨g, 0, none⟩) (k + 1) cp)) vc (ldL a P0 (k + 1)) (.slice none 0 0) []) := ⟨_, (by have hq := hQ1.out; rw [hlen] at hq; rw [ldL, ← hi0.out]; exact hq)⟩
          clear hQ1 hQ hd hd0 hdb
          go_wp2_with fail
          go_roundw
          case rel => exact ⟨k + 1, by have := hi0.out; simp; omega, by omega, hT1.out⟩
          case measure => simp [intOf]; omega
        · have hdb := hd0.later (show Below (yk0).heap.size (yk0) ((yk0).alloc (.cells #[.int .u32 (pW 1 ii ((a + ii) % 4))] 51)) by exact (Below.refl _ _).alloc (Nat.le_refl _) _)
          go_simp
          refine hK.out _ _ trivial (fun _ => ?_)
          clear hK K
          try simp only [Act.put, List.setIfInBounds_toArray, List.set_cons_zero, List.set_cons_succ]
          refine wpAnyH_ready (rs := [1]) (by kernel_rfl) (by simp) ?_
          refine AllReadyH.cons rfl (fun K hK => ?_) AllReadyH.nil
          have q := hdb.box.cell 3 rfl
          go_simp
          clear q
          refine hK.out _ _ trivial (fun _ => ?_)
          clear hK K
          try simp only [Act.put, List.setIfInBounds_toArray, List.set_cons_zero, List.set_cons_succ]
          refine wpAnyH_ready (rs := [9]) (by kernel_rfl) (by simp) ?_
          refine AllReadyH.cons rfl (fun K hK => ?_) AllReadyH.nil
          obtain ⟨i0, hi, hz0, hz1, hz2⟩ := info_parts info32
          refine step_append_lies _ rfl (.tmp 72) (.tmp 79) 29 rfl w.heap.size 51 i0 (.int .u32 0) 1 4 Try.underlying29 hi hz0 hz1 hz2 rfl (by decide) vc (ldL a P0 k).length ((ldL a P0 k).map (Value.int .u32)) rfl hdb.code ⟨(yk0).heap.size, 0, none⟩ 1 1 ([pW 1 ii ((a + ii) % 4)].map (Value.int .u32)) rfl rfl (World.news_of_block (heap_alloc_new _ _)) (by intro u hu; obtain ⟨z, -, rfl⟩ := List.mem_map.1 hu; rfl) (by omega) (by simp only [maxLen]; omega) (by omega) hdb.bel.size _ rfl ?_
          intro g cp w' hrow hg hat hlt
          obtain ⟨hQ1, bx⟩ := hdb.app (N := [pW 1 ii ((a + ii) % 4)]) (v' := .slice (some ⟨g, 0, none⟩) ((ldL a P0 k).length + 1) cp) (by simpa using hrow) hg
          have q2 := bx.cell 3 rfl
          have f2 := bx.frozen 3
          replace hQ1 : Hid _ := hQ1
          clear hrow hg hat hi hz0 hz1 hz2 bx
          refine hK.out _ _ trivial (fun _ => ?_)
          clear hK K
          try simp only [Act.put, List.setIfInBounds_toArray, List.set_cons_zero, List.set_cons_succ]
          refine take_dst 10 81 (.pointer (some ⟨w.heap.size, 3, none⟩)) rfl (by kernel_rfl) (by kernel_rfl) (by kernel_rfl) (fun _ _ _ h => h) (Or.inl ⟨by rfl, by intro wv hSv; (try dsimp only at hSv); go_simp⟩) trivial rfl ?_
          try simp only [Act.put, List.setIfInBounds_toArray, List.set_cons_zero, List.set_cons_succ]
          refine wpAnyH_ready (rs := [11]) (by kernel_rfl) (by simp) ?_
          refine AllReadyH.cons rfl (fun K hK => ?_) AllReadyH.nil
          go_simp
          clear q2 f2
          refine hK.out _ _ trivial (fun _ => ?_)
          clear hK K
          try simp only [Act.put, List.setIfInBounds_toArray, List.set_cons_zero, List.set_cons_succ]
          refine wpAnyH_done (by kernel_rfl) ?_ _
          have hT1 : Hid (∃ vc, QSt w w.heap.size (w.heap.size + 1) (P0 : Int) vb kv KC (w'.setCell ⟨w.heap.size, 3, none⟩ (.slice (some ⟨g, 0, none⟩) (k + 1) cp)) vc (ldL a P0 (k + 1)) (.slice none 0 0) []) := ⟨_, (by have hq := hQ1.out; rw [hlen] at hq; rw [ldL, ← hi0.out]; exact hq)⟩
          clear hQ1 hQ hd hd0 hdb
          go_wp2_with fail
          go_roundw
          case rel => exact ⟨k + 1, by have := hi0.out; simp; omega, by omega, hT1.out⟩
          case measure => simp [intOf]; omega
    · obtain rfl : k = 4 - P0 := by omega
      have hlen := ldL_len a P0 (4 - P0)
      obtain ⟨vc, hQ⟩ := hT.out
      replace hQ : Hid (QSt w w.heap.size (w.heap.size + 1) (P0 : Int) vb kv KC wz vc (ldL a P0 (4 - P0)) (.slice none 0 0) []) := hQ
      clear hT Q0
      have hnn : ¬ (((P0 + (4 - P0) : Nat) : Int) < 4) := by omega
      go_wp2_with fail
      refine wp_cut [82, 83, 84, 85, 86, 87, 88] (fun w1 => ∃ v1, QSt w w.heap.size (w.heap.size + 1) (P0 : Int) vb kv KC w1 v1 (ldL a P0 (4 - P0) ++ [pI 6 4 0 0, pW 1 5 4]) (.slice none 0 0) []) ?hr ?hk
      case hr =>
        have hd := hQ.out.drew
        refine wp_region_held_drew (S := fun _ => True) (by kernel_rfl) trivial (fun hH => ?_)
        refine take_dst 0 82 (.pointer (some ⟨w.heap.size, 3, none⟩)) rfl (by kernel_rfl) (by kernel_rfl) (by kernel_rfl) (fun _ _ _ h => nomatch h.1) (Or.inl ⟨by rfl, by intro wv hSv; (try dsimp only at hSv); go_simp⟩) trivial rfl ?_
        try simp only [Act.put, List.setIfInBounds_toArray, List.set_cons_zero, List.set_cons_succ]
        refine wpAnyH_ready (rs := [1, 2]) (by kernel_rfl) (by simp) ?_
        refine AllReadyH.cons rfl (fun K hK => ?_) (AllReadyH.cons rfl (fun K hK => ?_) AllReadyH.nil)
        · have q := hd.box.cell 3 rfl
          go_simp
          clear q
          refine hK.out _ _ trivial (fun _ => ?_)
          clear hK K
          try simp only [Act.put, List.setIfInBounds_toArray, List.set_cons_zero, List.set_cons_succ]
          refine wpAnyH_ready (rs := [2]) (by kernel_rfl) (by simp) ?_
          refine AllReadyH.cons rfl (fun K hK => ?_) AllReadyH.nil
          go_simp
          refine (l4I_in (6) (4) (0) (0) _ (by omega) (by omega) (by omega) (by omega) (by omega) (by omega) (by omega) (by omega)).mono ?_
          rintro e yk0 ⟨rfl, bk0⟩
          have hd0 := hd.later bk0
          go_wp2_with fail
          refine hK.out _ _ trivial (fun _ => ?_)
          clear hK K
          try simp only [Act.put, List.setIfInBounds_toArray, List.set_cons_zero, List.set_cons_succ]
          refine wpAnyH_ready (rs := [3]) (by kernel_rfl) (by simp) ?_
          refine AllReadyH.cons rfl (fun K hK => ?_) AllReadyH.nil
          go_simp
          refine (l4W_in (1) (5) (4) _ (by omega) (by omega) (by omega) (by omega) (by omega) (by omega)).mono ?_
          rintro e yk1 ⟨rfl, bk1⟩
          have hd1 := hd0.later bk1
          go_wp2_with fail
          refine hK.out _ _ trivial (fun _ => ?_)
          clear hK K
          try simp only [Act.put, List.setIfInBounds_toArray, List.set_cons_zero, List.set_cons_succ]
          refine wpAnyH_ready (rs := [4]) (by kernel_rfl) (by simp) ?_
          refine AllReadyH.cons rfl (fun K hK => ?_) AllReadyH.nil
          have hdb := hd1.later (show Below (yk1).heap.size (yk1) ((yk1).alloc (.cells #[.int .u32 (pI 6 4 0 0), .int .u32 (pW 1 5 4)] 51)) by exact (Below.refl _ _).alloc (Nat.le_refl _) _)
          go_simp
          refine hK.out _ _ trivial (fun _ => ?_)
          clear hK K
          try simp only [Act.put, List.setIfInBounds_toArray, List.set_cons_zero, List.set_cons_succ]
          refine wpAnyH_ready (rs := [5]) (by kernel_rfl) (by simp) ?_
          refine AllReadyH.cons rfl (fun K hK => ?_) AllReadyH.nil
          obtain ⟨i0, hi, hz0, hz1, hz2⟩ := info_parts info32
          refine step_append_lies _ rfl (.tmp 83) (.tmp 86) 29 rfl w.heap.size 51 i0 (.int .u32 0) 1 4 Try.underlying29 hi hz0 hz1 hz2 rfl (by decide) vc (ldL a P0 (4 - P0)).length ((ldL a P0 (4 - P0)).map (Value.int .u32)) rfl hdb.code ⟨(yk1).heap.size, 0, none⟩ 2 2 ([pI 6 4 0 0, pW 1 5 4].map (Value.int .u32)) rfl rfl (World.news_of_block (heap_alloc_new _ _)) (by intro u hu; obtain ⟨z, -, rfl⟩ := List.mem_map.1 hu; rfl) (by omega) (by simp only [maxLen]; omega) (by omega) hdb.bel.size _ rfl ?_
          intro g cp w' hrow hg hat hlt
          obtain ⟨hQ1, bx⟩ := hdb.app (N := [pI 6 4 0 0, pW 1 5 4]) (v' := .slice (some ⟨g, 0, none⟩) ((ldL a P0 (4 - P0)).length + 2) cp) (by simpa using hrow) hg
          have q2 := bx.cell 3 rfl
          have f2 := bx.frozen 3
          replace hQ1 : Hid _ := hQ1
          clear hrow hg hat hi hz0 hz1 hz2 bx
          refine hK.out _ _ trivial (fun _ => ?_)
          clear hK K
          try simp only [Act.put, List.setIfInBounds_toArray, List.set_cons_zero, List.set_cons_succ]
          refine take_dst 6 88 (.pointer (some ⟨w.heap.size, 3, none⟩)) rfl (by kernel_rfl) (by kernel_rfl) (by kernel_rfl) (fun _ _ _ h => nomatch h.1) (Or.inl ⟨by rfl, by intro wv hSv; (try dsimp only at hSv); go_simp⟩) trivial rfl ?_
          try simp only [Act.put, List.setIfInBounds_toArray, List.set_cons_zero, List.set_cons_succ]
          refine wpAnyH_ready (rs := [7]) (by kernel_rfl) (by simp) ?_
          refine AllReadyH.cons rfl (fun K hK => ?_) AllReadyH.nil
          go_simp
          clear q2 f2
          refine hK.out _ _ trivial (fun _ => ?_)
          clear hK K
          try simp only [Act.put, List.setIfInBounds_toArray, List.set_cons_zero, List.set_cons_succ]
          refine wpAnyH_done (by kernel_rfl) ?_ _
          have hq := hQ1.out
          rw [hlen] at hq
          refine ⟨rfl, ⟨[.pointer (some ⟨w.heap.size, 3, none⟩), vc, .int .u32 (pI 6 4 0 0), .int .u32 (pW 1 5 4), .slice (some ⟨yk1.heap.size, 0, none⟩) 2 2, .slice (some ⟨g, 0, none⟩) (4 - P0 + 2) cp, .pointer (some ⟨w.heap.size, 3, none⟩)], rfl, ?_⟩, ⟨_, hq⟩⟩
          simp only [List.zip_cons_cons, List.zip_nil_right, List.zip_nil_left, List.foldl_cons, List.foldl_nil, List.setIfInBounds_toArray, List.set_cons_zero, List.set_cons_succ, hlen]
        · go_simp
          refine (l4I_in (6) (4) (0) (0) _ (by omega) (by omega) (by omega) (by omega) (by omega) (by omega) (by omega) (by omega)).mono ?_
          rintro e yk0 ⟨rfl, bk0⟩
          have hd0 := hd.later bk0
          go_wp2_with fail
          refine hK.out _ _ trivial (fun _ => ?_)
          clear hK K
          try simp only [Act.put, List.setIfInBounds_toArray, List.set_cons_zero, List.set_cons_succ]
          refine wpAnyH_ready (rs := [1, 3]) (by kernel_rfl) (by simp) ?_
          refine AllReadyH.cons rfl (fun K hK => ?_) (AllReadyH.cons rfl (fun K hK => ?_) AllReadyH.nil)
          · have q := hd0.box.cell 3 rfl
            go_simp
            clear q
            refine hK.out _ _ trivial (fun _ => ?_)
            clear hK K
            try simp only [Act.put, List.setIfInBounds_toArray, List.set_cons_zero, List.set_cons_succ]
            refine wpAnyH_ready (rs := [3]) (by kernel_rfl) (by simp) ?_
            refine AllReadyH.cons rfl (fun K hK => ?_) AllReadyH.nil
            go_simp
            refine (l4W_in (1) (5) (4) _ (by omega) (by omega) (by omega) (by omega) (by omega) (by omega)).mono ?_
            rintro e yk1 ⟨rfl, bk1⟩
            have hd1 := hd0.later bk1
            go_wp2_with fail
            refine hK.out _ _ trivial (fun _ => ?_)
            clear hK K
            try simp only [Act.put, List.setIfInBounds_toArray, List.set_cons_zero, List.set_cons_succ]
            refine wpAnyH_ready (rs := [4]) (by kernel_rfl) (by simp) ?_
            refine AllReadyH.cons rfl (fun K hK => ?_) AllReadyH.nil
            have hdb := hd1.later (show Below (yk1).heap.size (yk1) ((yk1).alloc (.cells #[.int .u32 (pI 6 4 0 0), .int .u32 (pW 1 5 4)] 51)) by exact (Below.refl _ _).alloc (Nat.le_refl _) _)
            go_simp
            refine hK.out _ _ trivial (fun _ => ?_)
            clear hK K
            try simp only [Act.put, List.setIfInBounds_toArray, List.set_cons_zero, List.set_cons_succ]
            refine wpAnyH_ready (rs := [5]) (by kernel_rfl) (by simp) ?_
            refine AllReadyH.cons rfl (fun K hK => ?_) AllReadyH.nil
            obtain ⟨i0, hi, hz0, hz1, hz2⟩ := info_parts info32
            refine step_append_lies _ rfl (.tmp 83) (.tmp 86) 29 rfl w.heap.size 51 i0 (.int .u32 0) 1 4 Try.underlying29 hi hz0 hz1 hz2 rfl (by decide) vc (ldL a P0 (4 - P0)).length ((ldL a P0 (4 - P0)).map (Value.int .u32)) rfl hdb.code ⟨(yk1).heap.size, 0, none⟩ 2 2 ([pI 6 4 0 0, pW 1 5 4].map (Value.int .u32)) rfl rfl (World.news_of_block (heap_alloc_new _ _)) (by intro u hu; obtain ⟨z, -, rfl⟩ := List.mem_map.1 hu; rfl) (by omega) (by simp only [maxLen]; omega) (by omega) hdb.bel.size _ rfl ?_
            intro g cp w' hrow hg hat hlt
            obtain ⟨hQ1, bx⟩ := hdb.app (N := [pI 6 4 0 0, pW 1 5 4]) (v' := .slice (some ⟨g, 0, none⟩) ((ldL a P0 (4 - P0)).length + 2) cp) (by simpa using hrow) hg
            have q2 := bx.cell 3 rfl
            have f2 := bx.frozen 3
            replace hQ1 : Hid _ := hQ1
            clear hrow hg hat hi hz0 hz1 hz2 bx
            refine hK.out _ _ trivial (fun _ => ?_)
            clear hK K
            try simp only [Act.put, List.setIfInBounds_toArray, List.set_cons_zero, List.set_cons_succ]
            refine take_dst 6 88 (.pointer (some ⟨w.heap.size, 3, none⟩)) rfl (by kernel_rfl) (by kernel_rfl) (by kernel_rfl) (fun _ _ _ h => nomatch h.1) (Or.inl ⟨by rfl, by intro wv hSv; (try dsimp only at hSv); go_simp⟩) trivial rfl ?_
            try simp only [Act.put, List.setIfInBounds_toArray, List.set_cons_zero, List.set_cons_succ]
            refine wpAnyH_ready (rs := [7]) (by kernel_rfl) (by simp) ?_
            refine AllReadyH.cons rfl (fun K hK => ?_) AllReadyH.nil
            go_simp
            clear q2 f2
            refine hK.out _ _ trivial (fun _ => ?_)
            clear hK K
            try simp only [Act.put, List.setIfInBounds_toArray, List.set_cons_zero, List.set_cons_succ]
            refine wpAnyH_done (by kernel_rfl) ?_ _
            have hq := hQ1.out
            rw [hlen] at hq
            refine ⟨rfl, ⟨[.pointer (some ⟨w.heap.size, 3, none⟩), vc, .int .u32 (pI 6 4 0 0), .int .u32 (pW 1 5 4), .slice (some ⟨yk1.heap.size, 0, none⟩) 2 2, .slice (some ⟨g, 0, none⟩) (4 - P0 + 2) cp, .pointer (some ⟨w.heap.size, 3, none⟩)], rfl, ?_⟩, ⟨_, hq⟩⟩
            simp only [List.zip_cons_cons, List.zip_nil_right, List.zip_nil_left, List.foldl_cons, List.foldl_nil, List.setIfInBounds_toArray, List.set_cons_zero, List.set_cons_succ, hlen]
          · go_simp
            refine (l4W_in (1) (5) (4) _ (by omega) (by omega) (by omega) (by omega) (by omega) (by omega)).mono ?_
            rintro e yk1 ⟨rfl, bk1⟩
            have hd1 := hd0.later bk1
            go_wp2_with fail
            refine hK.out _ _ trivial (fun _ => ?_)
            clear hK K
            try simp only [Act.put, List.setIfInBounds_toArray, List.set_cons_zero, List.set_cons_succ]
            refine wpAnyH_ready (rs := [1, 4]) (by kernel_rfl) (by simp) ?_
            refine AllReadyH.cons rfl (fun K hK => ?_) (AllReadyH.cons rfl (fun K hK => ?_) AllReadyH.nil)
            · have q := hd1.box.cell 3 rfl
              go_simp
              clear q
              refine hK.out _ _ trivial (fun _ => ?_)
              clear hK K
              try simp only [Act.put, List.setIfInBounds_toArray, List.set_cons_zero, List.set_cons_succ]
              refine wpAnyH_ready (rs := [4]) (by kernel_rfl) (by simp) ?_
              refine AllReadyH.cons rfl (fun K hK => ?_) AllReadyH.nil
              have hdb := hd1.later (show Below (yk1).heap.size (yk1) ((yk1).alloc (.cells #[.int .u32 (pI 6 4 0 0), .int .u32 (pW 1 5 4)] 51)) by exact (Below.refl _ _).alloc (Nat.le_refl _) _)
              go_simp
              refine hK.out _ _ trivial (fun _ => ?_)
              clear hK K
              try simp only [Act.put, List.setIfInBounds_toArray, List.set_cons_zero, List.set_cons_succ]
              refine wpAnyH_ready (rs := [5]) (by kernel_rfl) (by simp) ?_
              refine AllReadyH.cons rfl (fun K hK => ?_) AllReadyH.nil
              obtain ⟨i0, hi, hz0, hz1, hz2⟩ := info_parts info32
              refine step_append_lies _ rfl (.tmp 83) (.tmp 86) 29 rfl w.heap.size 51 i0 (.int .u32 0) 1 4 Try.underlying29 hi hz0 hz1 hz2 rfl (by decide) vc (ldL a P0 (4 - P0)).length ((ldL a P0 (4 - P0)).map (Value.int .u32)) rfl hdb.code ⟨(yk1).heap.size, 0, none⟩ 2 2 ([pI 6 4 0 0, pW 1 5 4].map (Value.int .u32)) rfl rfl (World.news_of_block (heap_alloc_new _ _)) (by intro u hu; obtain ⟨z, -, rfl⟩ := List.mem_map.1 hu; rfl) (by omega) (by simp only [maxLen]; omega) (by omega) hdb.bel.size _ rfl ?_
              intro g cp w' hrow hg hat hlt
              obtain ⟨hQ1, bx⟩ := hdb.app (N := [pI 6 4 0 0, pW 1 5 4]) (v' := .slice (some ⟨g, 0, none⟩) ((ldL a P0 (4 - P0)).length + 2) cp) (by simpa using hrow) hg
              have q2 := bx.cell 3 rfl
              have f2 := bx.frozen 3
              replace hQ1 : Hid _ := hQ1
              clear hrow hg hat hi hz0 hz1 hz2 bx
              refine hK.out _ _ trivial (fun _ => ?_)
              clear hK K
              try simp only [Act.put, List.setIfInBounds_toArray, List.set_cons_zero, List.set_cons_succ]
              refine take_dst 6 88 (.pointer (some ⟨w.heap.size, 3, none⟩)) rfl (by kernel_rfl) (by kernel_rfl) (by kernel_rfl) (fun _ _ _ h => nomatch h.1) (Or.inl ⟨by rfl, by intro wv hSv; (try dsimp only at hSv); go_simp⟩) trivial rfl ?_
              try simp only [Act.put, List.setIfInBounds_toArray, List.set_cons_zero, List.set_cons_succ]
              refine wpAnyH_ready (rs := [7]) (by kernel_rfl) (by simp) ?_
              refine AllReadyH.cons rfl (fun K hK => ?_) AllReadyH.nil
              go_simp
              clear q2 f2
              refine hK.out _ _ trivial (fun _ => ?_)
              clear hK K
              try simp only [Act.put, List.setIfInBounds_toArray, List.set_cons_zero, List.set_cons_succ]
              refine wpAnyH_done (by kernel_rfl) ?_ _
              have hq := hQ1.out
              rw [hlen] at hq
              refine ⟨rfl, ⟨[.pointer (some ⟨w.heap.size, 3, none⟩), vc, .int .u32 (pI 6 4 0 0), .int .u32 (pW 1 5 4), .slice (some ⟨yk1.heap.size, 0, none⟩) 2 2, .slice (some ⟨g, 0, none⟩) (4 - P0 + 2) cp, .pointer (some ⟨w.heap.size, 3, none⟩)], rfl, ?_⟩, ⟨_, hq⟩⟩
              simp only [List.zip_cons_cons, List.zip_nil_right, List.zip_nil_left, List.foldl_cons, List.foldl_nil, List.setIfInBounds_toArray, List.set_cons_zero, List.set_cons_succ, hlen]
            · have hdb := hd1.later (show Below (yk1).heap.size (yk1) ((yk1).alloc (.cells #[.int .u32 (pI 6 4 0 0), .int .u32 (pW 1 5 4)] 51)) by exact (Below.refl _ _).alloc (Nat.le_refl _) _)
              go_simp
              refine hK.out _ _ trivial (fun _ => ?_)
              clear hK K
              try simp only [Act.put, List.setIfInBounds_toArray, List.set_cons_zero, List.set_cons_succ]
              refine wpAnyH_ready (rs := [1]) (by kernel_rfl) (by simp) ?_
              refine AllReadyH.cons rfl (fun K hK => ?_) AllReadyH.nil
              have q := hdb.box.cell 3 rfl
              go_simp
              clear q
              refine hK.out _ _ trivial (fun _ => ?_)
              clear hK K
              try simp only [Act.put, List.setIfInBounds_toArray, List.set_cons_zero, List.set_cons_succ]
              refine wpAnyH_ready (rs := [5]) (by kernel_rfl) (by simp) ?_
              refine AllReadyH.cons rfl (fun K hK => ?_) AllReadyH.nil
              obtain ⟨i0, hi, hz0, hz1, hz2⟩ := info_parts info32
              refine step_append_lies _ rfl (.tmp 83) (.tmp 86) 29 rfl w.heap.size 51 i0 (.int .u32 0) 1 4 Try.underlying29 hi hz0 hz1 hz2 rfl (by decide) vc (ldL a P0 (4 - P0)).length ((ldL a P0 (4 - P0)).map (Value.int .u32)) rfl hdb.code ⟨(yk1).heap.size, 0, none⟩ 2 2 ([pI 6 4 0 0, pW 1 5 4].map (Value.int .u32)) rfl rfl (World.news_of_block (heap_alloc_new _ _)) (by intro u hu; obtain ⟨z, -, rfl⟩ := List.mem_map.1 hu; rfl) (by omega) (by simp only [maxLen]; omega) (by omega) hdb.bel.size _ rfl ?_
              intro g cp w' hrow hg hat hlt
              obtain ⟨hQ1, bx⟩ := hdb.app (N := [pI 6 4 0 0, pW 1 5 4]) (v' := .slice (some ⟨g, 0, none⟩) ((ldL a P0 (4 - P0)).length + 2) cp) (by simpa using hrow) hg
              have q2 := bx.cell 3 rfl
              have f2 := bx.frozen 3
              replace hQ1 : Hid _ := hQ1
              clear hrow hg hat hi hz0 hz1 hz2 bx
              refine hK.out _ _ trivial (fun _ => ?_)
              clear hK K
              try simp only [Act.put, List.setIfInBounds_toArray, List.set_cons_zero, List.set_cons_succ]
              refine take_dst 6 88 (.pointer (some ⟨w.heap.size, 3, none⟩)) rfl (by kernel_rfl) (by kernel_rfl) (by kernel_rfl) (fun _ _ _ h => nomatch h.1) (Or.inl ⟨by rfl, by intro wv hSv; (try dsimp only at hSv); go_simp⟩) trivial rfl ?_
              try simp only [Act.put, List.setIfInBounds_toArray, List.set_cons_zero, List.set_cons_succ]
              refine wpAnyH_ready (rs := [7]) (by kernel_rfl) (by simp) ?_
              refine AllReadyH.cons rfl (fun K hK => ?_) AllReadyH.nil
              go_simp
              clear q2 f2
              refine hK.out _ _ trivial (fun _ => ?_)
              clear hK K
              try simp only [Act.put, List.setIfInBounds_toArray, List.set_cons_zero, List.set_cons_succ]
              refine wpAnyH_done (by kernel_rfl) ?_ _
              have hq := hQ1.out
              rw [hlen] at hq
              refine ⟨rfl, ⟨[.pointer (some ⟨w.heap.size, 3, none⟩), vc, .int .u32 (pI 6 4 0 0), .int .u32 (pW 1 5 4), .slice (some ⟨yk1.heap.size, 0, none⟩) 2 2, .slice (some ⟨g, 0, none⟩) (4 - P0 + 2) cp, .pointer (some ⟨w.heap.size, 3, none⟩)], rfl, ?_⟩, ⟨_, hq⟩⟩
              simp only [List.zip_cons_cons, List.zip_nil_right, List.zip_nil_left, List.foldl_cons, List.foldl_nil, List.setIfInBounds_toArray, List.set_cons_zero, List.set_cons_succ, hlen]
      case hk =>
        rintro zs w1 hzs ⟨v1, hQ1⟩
        obtain ⟨z1, z2, z3, z4, z5, z6, z7, rfl⟩ : ∃ z1 z2 z3 z4 z5 z6 z7, zs = [z1, z2, z3, z4, z5, z6, z7] := by
          match zs, hzs with
          | [z1, z2, z3, z4, z5, z6, z7], _ => exact ⟨z1, z2, z3, z4, z5, z6, z7, rfl⟩
        clear hQ hzs
        simp only [List.zip_cons_cons, List.zip_nil_right, List.zip_nil_left, List.foldl_cons, List.foldl_nil, List.setIfInBounds_toArray, List.set_cons_zero, List.set_cons_succ]
        replace hQ1 : Hid (QSt w w.heap.size (w.heap.size + 1) (P0 : Int) vb kv KC w1 v1 (ldL a P0 (4 - P0) ++ [pI 6 4 0 0, pW 1 5 4]) (.slice none 0 0) []) := hQ1
        obtain ⟨L2, hL2⟩ : ∃ L2 : List Int, L2 = ldL a P0 (4 - P0) ++ [pI 6 4 0 0, pW 1 5 4] := ⟨_, rfl⟩
        rw [← hL2] at hQ1
        have hl2 : L2.length ≤ 6 := by rw [hL2]; simp [ldL_len]
        replace hL2 : Hid _ := hL2
        have hcn := cnt_le c
        go_wp2_with fail
        go_loopw [1, 16, 17] (fun pv i mo wr => ∃ i' : Nat, i = .int .i64 (i' : Int) ∧ i' ≤ cnt c ∧ pv = .int .i64 ((p + 3 + 4 * i' : Nat) : Int) ∧ Hid ((blkCat M i').length ≤ 60 * i' ∧ ∃ vc, QSt w w.heap.size (w.heap.size + 1) (P0 : Int) vb kv KC wr vc (L2 ++ blkCat M i') (.slice none 0 0) []))
          (fun _ i _ _ => cnt c - (intOf i).toNat)
        case atStart => exact ⟨0, rfl, by omega, by simp; omega, by simp [blkCat], v1, (by rw [show L2 ++ blkCat M 0 = L2 from List.append_nil _]; exact hQ1.out)⟩
        case round =>
          obtain ⟨i', rfl, hin, rfl, hT⟩ := hrel
          obtain ⟨wy, hwy⟩ : ∃ x, x = wr := ⟨_, rfl⟩
          subst hwy
          by_cases hlt : i' < cnt c
          · have hii : (i' : Int) < (cnt c : Int) := by omega
            obtain ⟨hbl, vc, hQ⟩ := hT.out
            obtain ⟨hm1, hm2, hm3⟩ := hM.out i' (by omega)
            have hblk := hm3 wy _ (hC.out.later hQ.bel)
            have q1 := hQ.box.cell 1 rfl
            replace hblk : Hid _ := hblk
            replace hQ : Hid (QSt w w.heap.size (w.heap.size + 1) (P0 : Int) vb kv KC wy vc (L2 ++ blkCat M i') (.slice none 0 0) []) := hQ
            clear hT hm3
            go_wp2_with fail
            refine Calls.mono hblk.out ?_
            rintro e y1 ⟨u, q, rfl, rfl, S⟩
            obtain ⟨am, cm, rfl⟩ : ∃ am cm, u = .slice am (M i').length cm := by
              rcases S.row.2 with ⟨h1, h2⟩ | ⟨g, cm, cur, h1, -⟩
              · exact ⟨none, 0, by rw [h1, h2]⟩
              · exact ⟨_, cm, h1⟩
            have T0 : Hid (∃ vc, QSt w w.heap.size (w.heap.size + 1) (P0 : Int) vb kv KC y1 vc (L2 ++ blkCat M i' ++ (M i').take 0) (.slice none 0 0) [] ∧ y1.ownsRow wy.heap.size 51 1 (.slice am (M i').length cm) (M i').length ((M i').map (Value.int .u32)) ∧ ∀ k, Value.ownBlock (.slice am (M i').length cm) = some k → vc.ownBlock ≠ some k) := by
              refine ⟨vc, ?_, S.row, fun k hk e => ?_⟩
              · rw [List.take_zero, List.append_nil]
                exact hQ.out.later S.bel
              · have h1 := (S.row.lt k hk).1
                have h2 := (hQ.out.code.lt k e).2
                omega
            clear S hQ q1 hblk
            go_wp2_with fail
            go_loopw [18] (fun j wr => ∃ j' : Nat, j = .int .i64 (j' : Int) ∧ j' ≤ (M i').length ∧ Hid (∃ vc, QSt w w.heap.size (w.heap.size + 1) (P0 : Int) vb kv KC wr vc (L2 ++ blkCat M i' ++ (M i').take j') (.slice none 0 0) [] ∧ wr.ownsRow wy.heap.size 51 1 (.slice am (M i').length cm) (M i').length ((M i').map (Value.int .u32)) ∧ ∀ k, Value.ownBlock (.slice am (M i').length cm) = some k → vc.ownBlock ≠ some k))
              (fun j _ => (M i').length - (intOf j).toNat)
            case atStart => exact ⟨0, rfl, by omega, T0.out⟩
            case round =>
              obtain ⟨j', rfl, hjn, hU⟩ := hrel
              obtain ⟨wz, hwz⟩ : ∃ x, x = wr := ⟨_, rfl⟩
              subst hwz
              obtain ⟨vc, hQ, hmore, hne⟩ := hU.out
              replace hQ : Hid (QSt w w.heap.size (w.heap.size + 1) (P0 : Int) vb kv KC wz vc (L2 ++ blkCat M i' ++ (M i').take j') (.slice none 0 0) []) := hQ
              replace hne : Hid (∀ k, Value.ownBlock (.slice am (M i').length cm) = some k → vc.ownBlock ≠ some k) := hne
              clear hU T0
              by_cases hj : j' < (M i').length
              · have hjj : (j' : Int) < ((M i').length : Int) := by omega
                obtain ⟨gm, cm', hu, -, -⟩ := hmore.form (by omega)
                simp only [Value.slice.injEq, true_and] at hu
                obtain ⟨rfl, rfl⟩ := hu
                have hcell := hmore.cells (g := gm) rfl j' (.int .u32 ((M i')[j']'hj)) (by simp [hj])
                rw [show (⟨gm, 0, none⟩ : Addr).add j' = ⟨gm, j', none⟩ by unfold Addr.add; split <;> simp_all] at hcell
                have htk : (M i').take (j' + 1) = (M i').take j' ++ [(M i')[j']'hj] := by rw [List.take_add_one]; simp [hj]
                generalize (M i')[j']'hj = e0 at hcell htk
                replace htk : Hid _ := htk
                have hcd : wz.drew.cell? ⟨gm, j', none⟩ = some (.int .u32 e0) := hcell
                have hlen : (L2 ++ blkCat M i' ++ (M i').take j').length ≤ 600 := by simp only [List.length_append, List.length_take]; omega
                obtain ⟨LL, hLL⟩ : ∃ LL : List Int, LL = L2 ++ blkCat M i' ++ (M i').take j' := ⟨_, rfl⟩
                rw [← hLL] at hQ hlen
                replace hLL : Hid _ := hLL
                replace hmore : Hid (wz.ownsRow wy.heap.size 51 1 (.slice (some ⟨gm, 0, none⟩) (M i').length cm) (M i').length ((M i').map (Value.int .u32))) := hmore
                go_wp2_with fail
                have hd := hQ.out.drew
                obtain ⟨wd, hwd⟩ : ∃ x, x = wz.drew := ⟨_, rfl⟩
                refine wp_region_held_drew (S := fun _ => True) (by kernel_rfl) trivial (fun hH => ?_)
                have hmd : Hid (wd.ownsRow wy.heap.size 51 1 (.slice (some ⟨gm, 0, none⟩) (M i').length cm) (M i').length ((M i').map (Value.int .u32))) := by
                  rw [hwd]
                  exact own_below hmore.out (Below.refl _ _).drew
                rw [← hwd] at hd hcd ⊢
                clear hwd
                refine take_dst 0 112 (.pointer (some ⟨w.heap.size, 3, none⟩)) rfl (by kernel_rfl) (by kernel_rfl) (by kernel_rfl) (fun _ _ _ h => h) (Or.inl ⟨by rfl, by intro wv hSv; (try dsimp only at hSv); go_simp⟩) trivial rfl ?_
                try simp only [Act.put, List.setIfInBounds_toArray, List.set_cons_zero, List.set_cons_succ]
                refine take_dst 2 114 (.slice (some ⟨gm, 0, none⟩) (M i').length cm) rfl (by kernel_rfl) (by kernel_rfl) (by kernel_rfl) (fun _ _ _ h => h) (Or.inl ⟨by rfl, by intro wv hSv; (try dsimp only at hSv); go_simp⟩) trivial rfl ?_
                try simp only [Act.put, List.setIfInBounds_toArray, List.set_cons_zero, List.set_cons_succ]
                refine take_dst 3 115 (.int .i64 (j' : Int)) rfl (by kernel_rfl) (by kernel_rfl) (by kernel_rfl) (fun _ _ _ h => h) (Or.inl ⟨by rfl, by intro wv hSv; (try dsimp only at hSv); go_simp⟩) trivial rfl ?_
                try simp only [Act.put, List.setIfInBounds_toArray, List.set_cons_zero, List.set_cons_succ]
                refine take_dst 4 116 (.pointer (some ⟨gm, j', none⟩)) rfl (by kernel_rfl) (by kernel_rfl) (by kernel_rfl) (fun _ _ _ h => h) (Or.inl ⟨by rfl, by intro wv hSv; (try dsimp only at hSv); go_simp⟩) trivial rfl ?_
                try simp only [Act.put, List.setIfInBounds_toArray, List.set_cons_zero, List.set_cons_succ]
                refine wpAnyH_ready (rs := [1, 5]) (by kernel_rfl) (by simp) ?_
                refine AllReadyH.cons rfl (fun K hK => ?_) (AllReadyH.cons rfl (fun K hK => ?_) AllReadyH.nil)
                · have q := hd.box.cell 3 rfl
                  go_simp
                  clear q
                  refine hK.out _ _ trivial (fun _ => ?_)
                  clear hK K
                  try simp only [Act.put, List.setIfInBounds_toArray, List.set_cons_zero, List.set_cons_succ]
                  refine wpAnyH_ready (rs := [5]) (by kernel_rfl) (by simp) ?_
                  refine AllReadyH.cons rfl (fun K hK => ?_) AllReadyH.nil
                  go_simp
                  refine hK.out _ _ trivial (fun _ => ?_)
                  clear hK K
                  try simp only [Act.put, List.setIfInBounds_toArray, List.set_cons_zero, List.set_cons_succ]
                  refine wpAnyH_ready (rs := [6]) (by kernel_rfl) (by simp) ?_
                  refine AllReadyH.cons rfl (fun K hK => ?_) AllReadyH.nil
                  have hdb := hd.later (show Below (wd).heap.size (wd) ((wd).alloc (.cells #[.int .u32 (e0)] 51)) by exact (Below.refl _ _).alloc (Nat.le_refl _) _)
                  go_simp
                  refine hK.out _ _ trivial (fun _ => ?_)
                  clear hK K
                  try simp only [Act.put, List.setIfInBounds_toArray, List.set_cons_zero, List.set_cons_succ]
                  refine wpAnyH_ready (rs := [7]) (by kernel_rfl) (by simp) ?_
                  refine AllReadyH.cons rfl (fun K hK => ?_) AllReadyH.nil
                  obtain ⟨i0, hi, hz0, hz1, hz2⟩ := info_parts info32
                  refine step_append_lies _ rfl (.tmp 113) (.tmp 118) 29 rfl w.heap.size 51 i0 (.int .u32 0) 1 4 Try.underlying29 hi hz0 hz1 hz2 rfl (by decide) vc (LL).length ((LL).map (Value.int .u32)) rfl hdb.code ⟨(wd).heap.size, 0, none⟩ 1 1 ([e0].map (Value.int .u32)) rfl rfl (World.news_of_block (heap_alloc_new _ _)) (by intro u hu; obtain ⟨z, -, rfl⟩ := List.mem_map.1 hu; rfl) (by omega) (by simp only [maxLen]; omega) (by omega) hdb.bel.size _ rfl ?_
                  intro g cp w' hrow hg hat hlt
                  obtain ⟨hQ1, bx⟩ := hdb.app (N := [e0]) (v' := .slice (some ⟨g, 0, none⟩) ((LL).length + 1) cp) (by simpa using hrow) hg
                  have q2 := bx.cell 3 rfl
                  have f2 := bx.frozen 3
                  replace hQ1 : Hid _ := hQ1
                  have hmk := World.ownsRow.kept (own_below hmd.out ((Below.refl _ _).alloc (Nat.le_refl _) (.cells #[.int .u32 (e0)] 51))) hg (.inr fun e2 => hne.out gm rfl e2.symm)
                  have hmk2 : Hid ((w'.setCell ⟨w.heap.size, 3, none⟩ (.slice (some ⟨g, 0, none⟩) (LL.length + 1) cp)).ownsRow wy.heap.size 51 1 (.slice (some ⟨gm, 0, none⟩) (M i').length cm) (M i').length ((M i').map (Value.int .u32))) := own_keep hmk fun k hk => Below.heap_setCell _ _ _ _ (by rintro rfl; exact own_ne_row hmk bx (by decide) hk)
                  have hne2 : Hid (∀ k, Value.ownBlock (.slice (some ⟨gm, 0, none⟩) (M i').length cm) = some k → Value.ownBlock (.slice (some ⟨g, 0, none⟩) (LL.length + 1) cp) ≠ some k) := fun k hk e => by
                    simp only [Value.ownBlock, Option.some.injEq] at hk e
                    subst hk
                    rcases hat with e1 | e1
                    · exact hne.out gm rfl (by rw [e1, e])
                    · have := (hmd.out.lt gm rfl).2
                      simp only [World.size_alloc] at e1
                      omega
                  clear hmk
                  clear hrow hg hat hi hz0 hz1 hz2 bx
                  refine hK.out _ _ trivial (fun _ => ?_)
                  clear hK K
                  try simp only [Act.put, List.setIfInBounds_toArray, List.set_cons_zero, List.set_cons_succ]
                  refine take_dst 8 120 (.pointer (some ⟨w.heap.size, 3, none⟩)) rfl (by kernel_rfl) (by kernel_rfl) (by kernel_rfl) (fun _ _ _ h => h) (Or.inl ⟨by rfl, by intro wv hSv; (try dsimp only at hSv); go_simp⟩) trivial rfl ?_
                  try simp only [Act.put, List.setIfInBounds_toArray, List.set_cons_zero, List.set_cons_succ]
                  refine wpAnyH_ready (rs := [9]) (by kernel_rfl) (by simp) ?_
                  refine AllReadyH.cons rfl (fun K hK => ?_) AllReadyH.nil
                  go_simp
                  clear q2 f2
                  refine hK.out _ _ trivial (fun _ => ?_)
                  clear hK K
                  try simp only [Act.put, List.setIfInBounds_toArray, List.set_cons_zero, List.set_cons_succ]
                  refine wpAnyH_done (by kernel_rfl) ?_ _
                  have hU1 : Hid (∃ vc, QSt w w.heap.size (w.heap.size + 1) (P0 : Int) vb kv KC (w'.setCell ⟨w.heap.size, 3, none⟩ (.slice (some ⟨g, 0, none⟩) (LL.length + 1) cp)) vc (L2 ++ blkCat M i' ++ (M i').take (j' + 1)) (.slice none 0 0) [] ∧ (w'.setCell ⟨w.heap.size, 3, none⟩ (.slice (some ⟨g, 0, none⟩) (LL.length + 1) cp)).ownsRow wy.heap.size 51 1 (.slice (some ⟨gm, 0, none⟩) (M i').length cm) (M i').length ((M i').map (Value.int .u32)) ∧ ∀ k, Value.ownBlock (.slice (some ⟨gm, 0, none⟩) (M i').length cm) = some k → vc.ownBlock ≠ some k) := ⟨_, (by rw [htk.out, ← List.append_assoc, ← hLL.out]; exact hQ1.out), hmk2.out, hne2.out⟩
                  clear hQ1 hQ hd hdb hmk2 hne2 hmore hne hmd hcd
                  go_wp2_with fail
                  go_roundw
                  case rel => exact ⟨j' + 1, by go_num, by omega, hU1.out⟩
                  case measure => simp [intOf]; omega
                · go_simp
                  refine hK.out _ _ trivial (fun _ => ?_)
                  clear hK K
                  try simp only [Act.put, List.setIfInBounds_toArray, List.set_cons_zero, List.set_cons_succ]
                  refine wpAnyH_ready (rs := [1, 6]) (by kernel_rfl) (by simp) ?_
                  refine AllReadyH.cons rfl (fun K hK => ?_) (AllReadyH.cons rfl (fun K hK => ?_) AllReadyH.nil)
                  · have q := hd.box.cell 3 rfl
                    go_simp
                    clear q
                    refine hK.out _ _ trivial (fun _ => ?_)
                    clear hK K
                    try simp only [Act.put, List.setIfInBounds_toArray, List.set_cons_zero, List.set_cons_succ]
                    refine wpAnyH_ready (rs := [6]) (by kernel_rfl) (by simp) ?_
                    refine AllReadyH.cons rfl (fun K hK => ?_) AllReadyH.nil
                    have hdb := hd.later (show Below (wd).heap.size (wd) ((wd).alloc (.cells #[.int .u32 (e0)] 51)) by exact (Below.refl _ _).alloc (Nat.le_refl _) _)
                    go_simp
                    refine hK.out _ _ trivial (fun _ => ?_)
                    clear hK K
                    try simp only [Act.put, List.setIfInBounds_toArray, List.set_cons_zero, List.set_cons_succ]
                    refine wpAnyH_ready (rs := [7]) (by kernel_rfl) (by simp) ?_
                    refine AllReadyH.cons rfl (fun K hK => ?_) AllReadyH.nil
                    obtain ⟨i0, hi, hz0, hz1, hz2⟩ := info_parts info32
                    refine step_append_lies _ rfl (.tmp 113) (.tmp 118) 29 rfl w.heap.size 51 i0 (.int .u32 0) 1 4 Try.underlying29 hi hz0 hz1 hz2 rfl (by decide) vc (LL).length ((LL).map (Value.int .u32)) rfl hdb.code ⟨(wd).heap.size, 0, none⟩ 1 1 ([e0].map (Value.int .u32)) rfl rfl (World.news_of_block (heap_alloc_new _ _)) (by intro u hu; obtain ⟨z, -, rfl⟩ := List.mem_map.1 hu; rfl) (by omega) (by simp only [maxLen]; omega) (by omega) hdb.bel.size _ rfl ?_
                    intro g cp w' hrow hg hat hlt
                    obtain ⟨hQ1, bx⟩ := hdb.app (N := [e0]) (v' := .slice (some ⟨g, 0, none⟩) ((LL).length + 1) cp) (by simpa using hrow) hg
                    have q2 := bx.cell 3 rfl
                    have f2 := bx.frozen 3
                    replace hQ1 : Hid _ := hQ1
                    have hmk := World.ownsRow.kept (own_below hmd.out ((Below.refl _ _).alloc (Nat.le_refl _) (.cells #[.int .u32 (e0)] 51))) hg (.inr fun e2 => hne.out gm rfl e2.symm)
                    have hmk2 : Hid ((w'.setCell ⟨w.heap.size, 3, none⟩ (.slice (some ⟨g, 0, none⟩) (LL.length + 1) cp)).ownsRow wy.heap.size 51 1 (.slice (some ⟨gm, 0, none⟩) (M i').length cm) (M i').length ((M i').map (Value.int .u32))) := own_keep hmk fun k hk => Below.heap_setCell _ _ _ _ (by rintro rfl; exact own_ne_row hmk bx (by decide) hk)
                    have hne2 : Hid (∀ k, Value.ownBlock (.slice (some ⟨gm, 0, none⟩) (M i').length cm) = some k → Value.ownBlock (.slice (some ⟨g, 0, none⟩) (LL.length + 1) cp) ≠ some k) := fun k hk e => by
                      simp only [Value.ownBlock, Option.some.injEq] at hk e
                      subst hk
                      rcases hat with e1 | e1
                      · exact hne.out gm rfl (by rw [e1, e])
                      · have := (hmd.out.lt gm rfl).2
                        simp only [World.size_alloc] at e1
                        omega
                    clear hmk
                    clear hrow hg hat hi hz0 hz1 hz2 bx
                    refine hK.out _ _ trivial (fun _ => ?_)
                    clear hK K
                    try simp only [Act.put, List.setIfInBounds_toArray, List.set_cons_zero, List.set_cons_succ]
                    refine take_dst 8 120 (.pointer (some ⟨w.heap.size, 3, none⟩)) rfl (by kernel_rfl) (by kernel_rfl) (by kernel_rfl) (fun _ _ _ h => h) (Or.inl ⟨by rfl, by intro wv hSv; (try dsimp only at hSv); go_simp⟩) trivial rfl ?_
                    try simp only [Act.put, List.setIfInBounds_toArray, List.set_cons_zero, List.set_cons_succ]
                    refine wpAnyH_ready (rs := [9]) (by kernel_rfl) (by simp) ?_
                    refine AllReadyH.cons rfl (fun K hK => ?_) AllReadyH.nil
                    go_simp
                    clear q2 f2
                    refine hK.out _ _ trivial (fun _ => ?_)
                    clear hK K
                    try simp only [Act.put, List.setIfInBounds_toArray, List.set_cons_zero, List.set_cons_succ]
                    refine wpAnyH_done (by kernel_rfl) ?_ _
                    have hU1 : Hid (∃ vc, QSt w w.heap.size (w.heap.size + 1) (P0 : Int) vb kv KC (w'.setCell ⟨w.heap.size, 3, none⟩ (.slice (some ⟨g, 0, none⟩) (LL.length + 1) cp)) vc (L2 ++ blkCat M i' ++ (M i').take (j' + 1)) (.slice none 0 0) [] ∧ (w'.setCell ⟨w.heap.size, 3, none⟩ (.slice (some ⟨g, 0, none⟩) (LL.length + 1) cp)).ownsRow wy.heap.size 51 1 (.slice (some ⟨gm, 0, none⟩) (M i').length cm) (M i').length ((M i').map (Value.int .u32)) ∧ ∀ k, Value.ownBlock (.slice (some ⟨gm, 0, none⟩) (M i').length cm) = some k → vc.ownBlock ≠ some k) := ⟨_, (by rw [htk.out, ← List.append_assoc, ← hLL.out]; exact hQ1.out), hmk2.out, hne2.out⟩
                    clear hQ1 hQ hd hdb hmk2 hne2 hmore hne hmd hcd
                    go_wp2_with fail
                    go_roundw
                    case rel => exact ⟨j' + 1, by go_num, by omega, hU1.out⟩
                    case measure => simp [intOf]; omega
                  · have hdb := hd.later (show Below (wd).heap.size (wd) ((wd).alloc (.cells #[.int .u32 (e0)] 51)) by exact (Below.refl _ _).alloc (Nat.le_refl _) _)
                    go_simp
                    refine hK.out _ _ trivial (fun _ => ?_)
                    clear hK K
                    try simp only [Act.put, List.setIfInBounds_toArray, List.set_cons_zero, List.set_cons_succ]
                    refine wpAnyH_ready (rs := [1]) (by kernel_rfl) (by simp) ?_
                    refine AllReadyH.cons rfl (fun K hK => ?_) AllReadyH.nil
                    have q := hdb.box.cell 3 rfl
                    go_simp
                    clear q
                    refine hK.out _ _ trivial (fun _ => ?_)
                    clear hK K
                    try simp only [Act.put, List.setIfInBounds_toArray, List.set_cons_zero, List.set_cons_succ]
                    refine wpAnyH_ready (rs := [7]) (by kernel_rfl) (by simp) ?_
                    refine AllReadyH.cons rfl (fun K hK => ?_) AllReadyH.nil
                    obtain ⟨i0, hi, hz0, hz1, hz2⟩ := info_parts info32
                    refine step_append_lies _ rfl (.tmp 113) (.tmp 118) 29 rfl w.heap.size 51 i0 (.int .u32 0) 1 4 Try.underlying29 hi hz0 hz1 hz2 rfl (by decide) vc (LL).length ((LL).map (Value.int .u32)) rfl hdb.code ⟨(wd).heap.size, 0, none⟩ 1 1 ([e0].map (Value.int .u32)) rfl rfl (World.news_of_block (heap_alloc_new _ _)) (by intro u hu; obtain ⟨z, -, rfl⟩ := List.mem_map.1 hu; rfl) (by omega) (by simp only [maxLen]; omega) (by omega) hdb.bel.size _ rfl ?_
                    intro g cp w' hrow hg hat hlt
                    obtain ⟨hQ1, bx⟩ := hdb.app (N := [e0]) (v' := .slice (some ⟨g, 0, none⟩) ((LL).length + 1) cp) (by simpa using hrow) hg
                    have q2 := bx.cell 3 rfl
                    have f2 := bx.frozen 3
                    replace hQ1 : Hid _ := hQ1
                    have hmk := World.ownsRow.kept (own_below hmd.out ((Below.refl _ _).alloc (Nat.le_refl _) (.cells #[.int .u32 (e0)] 51))) hg (.inr fun e2 => hne.out gm rfl e2.symm)
                    have hmk2 : Hid ((w'.setCell ⟨w.heap.size, 3, none⟩ (.slice (some ⟨g, 0, none⟩) (LL.length + 1) cp)).ownsRow wy.heap.size 51 1 (.slice (some ⟨gm, 0, none⟩) (M i').length cm) (M i').length ((M i').map (Value.int .u32))) := own_keep hmk fun k hk => Below.heap_setCell _ _ _ _ (by rintro rfl; exact own_ne_row hmk bx (by decide) hk)
                    have hne2 : Hid (∀ k, Value.ownBlock (.slice (some ⟨gm, 0, none⟩) (M i').length cm) = some k → Value.ownBlock (.slice (some ⟨g, 0, none⟩) (LL.length + 1) cp) ≠ some k) := fun k hk e => by
                      simp only [Value.ownBlock, Option.some.injEq] at hk e
                      subst hk
                      rcases hat with e1 | e1
                      · exact hne.out gm rfl (by rw [e1, e])
                      · have := (hmd.out.lt gm rfl).2
                        simp only [World.size_alloc] at e1
                        omega
                    clear hmk
                    clear hrow hg hat hi hz0 hz1 hz2 bx
                    refine hK.out _ _ trivial (fun _ => ?_)
                    clear hK K
                    try simp only [Act.put, List.setIfInBounds_toArray, List.set_cons_zero, List.set_cons_succ]
                    refine take_dst 8 120 (.pointer (some ⟨w.heap.size, 3, none⟩)) rfl (by kernel_rfl) (by kernel_rfl) (by kernel_rfl) (fun _ _ _ h => h) (Or.inl ⟨by rfl, by intro wv hSv; (try dsimp only at hSv); go_simp⟩) trivial rfl ?_
                    try simp only [Act.put, List.setIfInBounds_toArray, List.set_cons_zero, List.set_cons_succ]
                    refine wpAnyH_ready (rs := [9]) (by kernel_rfl) (by simp) ?_
                    refine AllReadyH.cons rfl (fun K hK => ?_) AllReadyH.nil
                    go_simp
                    clear q2 f2
                    refine hK.out _ _ trivial (fun _ => ?_)
                    clear hK K
                    try simp only [Act.put, List.setIfInBounds_toArray, List.set_cons_zero, List.set_cons_succ]
                    refine wpAnyH_done (by kernel_rfl) ?_ _
                    have hU1 : Hid (∃ vc, QSt w w.heap.size (w.heap.size + 1) (P0 : Int) vb kv KC (w'.setCell ⟨w.heap.size, 3, none⟩ (.slice (some ⟨g, 0, none⟩) (LL.length + 1) cp)) vc (L2 ++ blkCat M i' ++ (M i').take (j' + 1)) (.slice none 0 0) [] ∧ (w'.setCell ⟨w.heap.size, 3, none⟩ (.slice (some ⟨g, 0, none⟩) (LL.length + 1) cp)).ownsRow wy.heap.size 51 1 (.slice (some ⟨gm, 0, none⟩) (M i').length cm) (M i').length ((M i').map (Value.int .u32)) ∧ ∀ k, Value.ownBlock (.slice (some ⟨gm, 0, none⟩) (M i').length cm) = some k → vc.ownBlock ≠ some k) := ⟨_, (by rw [htk.out, ← List.append_assoc, ← hLL.out]; exact hQ1.out), hmk2.out, hne2.out⟩
                    clear hQ1 hQ hd hdb hmk2 hne2 hmore hne hmd hcd
                    go_wp2_with fail
                    go_roundw
                    case rel => exact ⟨j' + 1, by go_num, by omega, hU1.out⟩
                    case measure => simp [intOf]; omega
              · obtain rfl : j' = (M i').length := by omega
                have hT1 : Hid ((blkCat M (i' + 1)).length ≤ 60 * (i' + 1) ∧ ∃ vc, QSt w w.heap.size (w.heap.size + 1) (P0 : Int) vb kv KC wz vc (L2 ++ blkCat M (i' + 1)) (.slice none 0 0) []) := by
                  refine ⟨by rw [blkCat, List.length_append]; omega, vc, ?_⟩
                  have := hQ.out
                  rw [List.take_length] at this
                  rw [blkCat, ← List.append_assoc]
                  exact this
                clear hQ hmore hne
                go_wp2_with fail
                go_roundw
                case rel => exact ⟨i' + 1, by go_num, by omega, by simp; omega, hT1.out⟩
                case measure => simp [intOf]; omega
          · obtain rfl : i' = cnt c := by omega
            obtain ⟨hbl, vc, hQ⟩ := hT.out
            obtain ⟨a2, ha2⟩ : ∃ t, tk c (p + 3 + 4 * cnt c) 6 = t := ⟨_, rfl⟩
            have ba := tk_bd c (p + 3 + 4 * cnt c) 6
            rw [ha2] at ba
            have a21 := ba.1
            have a22 := ba.2 (by omega)
            have hnn : ¬ ((cnt c : Int) < (cnt c : Int)) := by omega
            obtain ⟨L3, hL3⟩ : ∃ L3 : List Int, L3 = L2 ++ blkCat M (cnt c) := ⟨_, rfl⟩
            have hl3 : L3.length ≤ 500 := by rw [hL3, List.length_append]; omega
            rw [← hL3] at hQ
            have hCy := hC.out.later hQ.bel
            replace hCy : Hid _ := hCy
            replace hL3 : Hid _ := hL3
            replace ha2 : Hid (tk c (p + 3 + 4 * cnt c) 6 = a2) := ha2
            have q1 := hQ.box.cell 1 rfl
            replace hQ : Hid (QSt w w.heap.size (w.heap.size + 1) (P0 : Int) vb kv KC wy vc (L3) (.slice none 0 0) []) := hQ
            clear hT ba hbl
            go_wp2_with fail
            refine (l1Take_to c _ (p + 3 + 4 * cnt c) ((p + 3 + 4 * cnt c : Nat) : Int) 6 _ rfl hCy.out (by omega) (by omega) ha2.out).mono ?_
            rintro e w' ⟨rfl, rfl⟩
            by_cases c0 : a2 = 0
            · subst c0
              cases vb with
              | true =>
                have hen : Hid (endL 0 b = [pI 24 2 511 0, pI 23 0 511 0]) := if_pos ⟨rfl, of_decide_eq_true hvb.out.symm⟩
                go_wp2_with fail
                refine wp_cut [133, 134, 135, 136, 137, 138, 139] (fun w1 => ∃ v1, QSt w w.heap.size (w.heap.size + 1) (P0 : Int) true kv KC w1 v1 (L3 ++ [pI 24 2 511 0, pI 23 0 511 0]) (.slice none 0 0) []) ?hr ?hk
                case hr =>
                  have hd := hQ.out.drew
                  refine wp_region_held_drew (S := fun _ => True) (by kernel_rfl) trivial (fun hH => ?_)
                  refine take_dst 0 133 (.pointer (some ⟨w.heap.size, 3, none⟩)) rfl (by kernel_rfl) (by kernel_rfl) (by kernel_rfl) (fun _ _ _ h => nomatch h.1) (Or.inl ⟨by rfl, by intro wv hSv; (try dsimp only at hSv); go_simp⟩) trivial rfl ?_
                  try simp only [Act.put, List.setIfInBounds_toArray, List.set_cons_zero, List.set_cons_succ]
                  refine wpAnyH_ready (rs := [1, 2]) (by kernel_rfl) (by simp) ?_
                  refine AllReadyH.cons rfl (fun K hK => ?_) (AllReadyH.cons rfl (fun K hK => ?_) AllReadyH.nil)
                  · have q := hd.box.cell 3 rfl
                    go_simp
                    clear q
                    refine hK.out _ _ trivial (fun _ => ?_)
                    clear hK K
                    try simp only [Act.put, List.setIfInBounds_toArray, List.set_cons_zero, List.set_cons_succ]
                    refine wpAnyH_ready (rs := [2]) (by kernel_rfl) (by simp) ?_
                    refine AllReadyH.cons rfl (fun K hK => ?_) AllReadyH.nil
                    go_simp
                    refine (l4I_in (24) (2) (511) (0) _ (by omega) (by omega) (by omega) (by omega) (by omega) (by omega) (by omega) (by omega)).mono ?_
                    rintro e yk0 ⟨rfl, bk0⟩
                    have hd0 := hd.later bk0
                    go_wp2_with fail
                    refine hK.out _ _ trivial (fun _ => ?_)
                    clear hK K
                    try simp only [Act.put, List.setIfInBounds_toArray, List.set_cons_zero, List.set_cons_succ]
                    refine wpAnyH_ready (rs := [3]) (by kernel_rfl) (by simp) ?_
                    refine AllReadyH.cons rfl (fun K hK => ?_) AllReadyH.nil
                    go_simp
                    refine (l4I_in (23) (0) (511) (0) _ (by omega) (by omega) (by omega) (by omega) (by omega) (by omega) (by omega) (by omega)).mono ?_
                    rintro e yk1 ⟨rfl, bk1⟩
                    have hd1 := hd0.later bk1
                    go_wp2_with fail
                    refine hK.out _ _ trivial (fun _ => ?_)
                    clear hK K
                    try simp only [Act.put, List.setIfInBounds_toArray, List.set_cons_zero, List.set_cons_succ]
                    refine wpAnyH_ready (rs := [4]) (by kernel_rfl) (by simp) ?_
                    refine AllReadyH.cons rfl (fun K hK => ?_) AllReadyH.nil
                    have hdb := hd1.later (show Below (yk1).heap.size (yk1) ((yk1).alloc (.cells #[.int .u32 (pI 24 2 511 0), .int .u32 (pI 23 0 511 0)] 51)) by exact (Below.refl _ _).alloc (Nat.le_refl _) _)
                    go_simp
                    refine hK.out _ _ trivial (fun _ => ?_)
                    clear hK K
                    try simp only [Act.put, List.setIfInBounds_toArray, List.set_cons_zero, List.set_cons_succ]
                    refine wpAnyH_ready (rs := [5]) (by kernel_rfl) (by simp) ?_
                    refine AllReadyH.cons rfl (fun K hK => ?_) AllReadyH.nil
                    obtain ⟨i0, hi, hz0, hz1, hz2⟩ := info_parts info32
                    refine step_append_lies _ rfl (.tmp 134) (.tmp 137) 29 rfl w.heap.size 51 i0 (.int .u32 0) 1 4 Try.underlying29 hi hz0 hz1 hz2 rfl (by decide) vc (L3).length ((L3).map (Value.int .u32)) rfl hdb.code ⟨(yk1).heap.size, 0, none⟩ 2 2 ([pI 24 2 511 0, pI 23 0 511 0].map (Value.int .u32)) rfl rfl (World.news_of_block (heap_alloc_new _ _)) (by intro u hu; obtain ⟨z, -, rfl⟩ := List.mem_map.1 hu; rfl) (by omega) (by simp only [maxLen]; omega) (by omega) hdb.bel.size _ rfl ?_
                    intro g cp w' hrow hg hat hlt
                    obtain ⟨hQ1, bx⟩ := hdb.app (N := [pI 24 2 511 0, pI 23 0 511 0]) (v' := .slice (some ⟨g, 0, none⟩) ((L3).length + 2) cp) (by simpa using hrow) hg
                    have q2 := bx.cell 3 rfl
                    have f2 := bx.frozen 3
                    replace hQ1 : Hid _ := hQ1
                    clear hrow hg hat hi hz0 hz1 hz2 bx
                    refine hK.out _ _ trivial (fun _ => ?_)
                    clear hK K
                    try simp only [Act.put, List.setIfInBounds_toArray, List.set_cons_zero, List.set_cons_succ]
                    refine take_dst 6 139 (.pointer (some ⟨w.heap.size, 3, none⟩)) rfl (by kernel_rfl) (by kernel_rfl) (by kernel_rfl) (fun _ _ _ h => nomatch h.1) (Or.inl ⟨by rfl, by intro wv hSv; (try dsimp only at hSv); go_simp⟩) trivial rfl ?_
                    try simp only [Act.put, List.setIfInBounds_toArray, List.set_cons_zero, List.set_cons_succ]
                    refine wpAnyH_ready (rs := [7]) (by kernel_rfl) (by simp) ?_
                    refine AllReadyH.cons rfl (fun K hK => ?_) AllReadyH.nil
                    go_simp
                    clear q2 f2
                    refine hK.out _ _ trivial (fun _ => ?_)
                    clear hK K
                    try simp only [Act.put, List.setIfInBounds_toArray, List.set_cons_zero, List.set_cons_succ]
                    refine wpAnyH_done (by kernel_rfl) ?_ _
                    refine ⟨rfl, ⟨[.pointer (some ⟨w.heap.size, 3, none⟩), vc, .int .u32 (pI 24 2 511 0), .int .u32 (pI 23 0 511 0), .slice (some ⟨yk1.heap.size, 0, none⟩) 2 2, .slice (some ⟨g, 0, none⟩) (L3.length + 2) cp, .pointer (some ⟨w.heap.size, 3, none⟩)], rfl, ?_⟩, ⟨_, hQ1.out⟩⟩
                    simp only [List.zip_cons_cons, List.zip_nil_right, List.zip_nil_left, List.foldl_cons, List.foldl_nil, List.setIfInBounds_toArray, List.set_cons_zero, List.set_cons_succ]
                  · go_simp
                    refine (l4I_in (24) (2) (511) (0) _ (by omega) (by omega) (by omega) (by omega) (by omega) (by omega) (by omega) (by omega)).mono ?_
                    rintro e yk0 ⟨rfl, bk0⟩
                    have hd0 := hd.later bk0
                    go_wp2_with fail
                    refine hK.out _ _ trivial (fun _ => ?_)
                    clear hK K
                    try simp only [Act.put, List.setIfInBounds_toArray, List.set_cons_zero, List.set_cons_succ]
                    refine wpAnyH_ready (rs := [1, 3]) (by kernel_rfl) (by simp) ?_
                    refine AllReadyH.cons rfl (fun K hK => ?_) (AllReadyH.cons rfl (fun K hK => ?_) AllReadyH.nil)
                    · have q := hd0.box.cell 3 rfl
                      go_simp
                      clear q
                      refine hK.out _ _ trivial (fun _ => ?_)
                      clear hK K
                      try simp only [Act.put, List.setIfInBounds_toArray, List.set_cons_zero, List.set_cons_succ]
                      refine wpAnyH_ready (rs := [3]) (by kernel_rfl) (by simp) ?_
                      refine AllReadyH.cons rfl (fun K hK => ?_) AllReadyH.nil
                      go_simp
                      refine (l4I_in (23) (0) (511) (0) _ (by omega) (by omega) (by omega) (by omega) (by omega) (by omega) (by omega) (by omega)).mono ?_
                      rintro e yk1 ⟨rfl, bk1⟩
                      have hd1 := hd0.later bk1
                      go_wp2_with fail
                      refine hK.out _ _ trivial (fun _ => ?_)
                      clear hK K
                      try simp only [Act.put, List.setIfInBounds_toArray, List.set_cons_zero, List.set_cons_succ]
                      refine wpAnyH_ready (rs := [4]) (by kernel_rfl) (by simp) ?_
                      refine AllReadyH.cons rfl (fun K hK => ?_) AllReadyH.nil
                      have hdb := hd1.later (show Below (yk1).heap.size (yk1) ((yk1).alloc (.cells #[.int .u32 (pI 24 2 511 0), .int .u32 (pI 23 0 511 0)] 51)) by exact (Below.refl _ _).alloc (Nat.le_refl _) _)
                      go_simp
                      refine hK.out _ _ trivial (fun _ => ?_)
                      clear hK K
                      try simp only [Act.put, List.setIfInBounds_toArray, List.set_cons_zero, List.set_cons_succ]
                      refine wpAnyH_ready (rs := [5]) (by kernel_rfl) (by simp) ?_
                      refine AllReadyH.cons rfl (fun K hK => ?_) AllReadyH.nil
                      obtain ⟨i0, hi, hz0, hz1, hz2⟩ := info_parts info32
                      refine step_append_lies _ rfl (.tmp 134) (.tmp 137) 29 rfl w.heap.size 51 i0 (.int .u32 0) 1 4 Try.underlying29 hi hz0 hz1 hz2 rfl (by decide) vc (L3).length ((L3).map (Value.int .u32)) rfl hdb.code ⟨(yk1).heap.size, 0, none⟩ 2 2 ([pI 24 2 511 0, pI 23 0 511 0].map (Value.int .u32)) rfl rfl (World.news_of_block (heap_alloc_new _ _)) (by intro u hu; obtain ⟨z, -, rfl⟩ := List.mem_map.1 hu; rfl) (by omega) (by simp only [maxLen]; omega) (by omega) hdb.bel.size _ rfl ?_
                      intro g cp w' hrow hg hat hlt
                      obtain ⟨hQ1, bx⟩ := hdb.app (N := [pI 24 2 511 0, pI 23 0 511 0]) (v' := .slice (some ⟨g, 0, none⟩) ((L3).length + 2) cp) (by simpa using hrow) hg
                      have q2 := bx.cell 3 rfl
                      have f2 := bx.frozen 3
                      replace hQ1 : Hid _ := hQ1
                      clear hrow hg hat hi hz0 hz1 hz2 bx
                      refine hK.out _ _ trivial (fun _ => ?_)
                      clear hK K
                      try simp only [Act.put, List.setIfInBounds_toArray, List.set_cons_zero, List.set_cons_succ]
                      refine take_dst 6 139 (.pointer (some ⟨w.heap.size, 3, none⟩)) rfl (by kernel_rfl) (by kernel_rfl) (by kernel_rfl) (fun _ _ _ h => nomatch h.1) (Or.inl ⟨by rfl, by intro wv hSv; (try dsimp only at hSv); go_simp⟩) trivial rfl ?_
                      try simp only [Act.put, List.setIfInBounds_toArray, List.set_cons_zero, List.set_cons_succ]
                      refine wpAnyH_ready (rs := [7]) (by kernel_rfl) (by simp) ?_
                      refine AllReadyH.cons rfl (fun K hK => ?_) AllReadyH.nil
                      go_simp
                      clear q2 f2
                      refine hK.out _ _ trivial (fun _ => ?_)
                      clear hK K
                      try simp only [Act.put, List.setIfInBounds_toArray, List.set_cons_zero, List.set_cons_succ]
                      refine wpAnyH_done (by kernel_rfl) ?_ _
                      refine ⟨rfl, ⟨[.pointer (some ⟨w.heap.size, 3, none⟩), vc, .int .u32 (pI 24 2 511 0), .int .u32 (pI 23 0 511 0), .slice (some ⟨yk1.heap.size, 0, none⟩) 2 2, .slice (some ⟨g, 0, none⟩) (L3.length + 2) cp, .pointer (some ⟨w.heap.size, 3, none⟩)], rfl, ?_⟩, ⟨_, hQ1.out⟩⟩
                      simp only [List.zip_cons_cons, List.zip_nil_right, List.zip_nil_left, List.foldl_cons, List.foldl_nil, List.setIfInBounds_toArray, List.set_cons_zero, List.set_cons_succ]
                    · go_simp
                      refine (l4I_in (23) (0) (511) (0) _ (by omega) (by omega) (by omega) (by omega) (by omega) (by omega) (by omega) (by omega)).mono ?_
                      rintro e yk1 ⟨rfl, bk1⟩
                      have hd1 := hd0.later bk1
                      go_wp2_with fail
                      refine hK.out _ _ trivial (fun _ => ?_)
                      clear hK K
                      try simp only [Act.put, List.setIfInBounds_toArray, List.set_cons_zero, List.set_cons_succ]
                      refine wpAnyH_ready (rs := [1, 4]) (by kernel_rfl) (by simp) ?_
                      refine AllReadyH.cons rfl (fun K hK => ?_) (AllReadyH.cons rfl (fun K hK => ?_) AllReadyH.nil)
                      · have q := hd1.box.cell 3 rfl
                        go_simp
                        clear q
                        refine hK.out _ _ trivial (fun _ => ?_)
                        clear hK K
                        try simp only [Act.put, List.setIfInBounds_toArray, List.set_cons_zero, List.set_cons_succ]
                        refine wpAnyH_ready (rs := [4]) (by kernel_rfl) (by simp) ?_
                        refine AllReadyH.cons rfl (fun K hK => ?_) AllReadyH.nil
                        have hdb := hd1.later (show Below (yk1).heap.size (yk1) ((yk1).alloc (.cells #[.int .u32 (pI 24 2 511 0), .int .u32 (pI 23 0 511 0)] 51)) by exact (Below.refl _ _).alloc (Nat.le_refl _) _)
                        go_simp
                        refine hK.out _ _ trivial (fun _ => ?_)
                        clear hK K
                        try simp only [Act.put, List.setIfInBounds_toArray, List.set_cons_zero, List.set_cons_succ]
                        refine wpAnyH_ready (rs := [5]) (by kernel_rfl) (by simp) ?_
                        refine AllReadyH.cons rfl (fun K hK => ?_) AllReadyH.nil
                        obtain ⟨i0, hi, hz0, hz1, hz2⟩ := info_parts info32
                        refine step_append_lies _ rfl (.tmp 134) (.tmp 137) 29 rfl w.heap.size 51 i0 (.int .u32 0) 1 4 Try.underlying29 hi hz0 hz1 hz2 rfl (by decide) vc (L3).length ((L3).map (Value.int .u32)) rfl hdb.code ⟨(yk1).heap.size, 0, none⟩ 2 2 ([pI 24 2 511 0, pI 23 0 511 0].map (Value.int .u32)) rfl rfl (World.news_of_block (heap_alloc_new _ _)) (by intro u hu; obtain ⟨z, -, rfl⟩ := List.mem_map.1 hu; rfl) (by omega) (by simp only [maxLen]; omega) (by omega) hdb.bel.size _ rfl ?_
                        intro g cp w' hrow hg hat hlt
                        obtain ⟨hQ1, bx⟩ := hdb.app (N := [pI 24 2 511 0, pI 23 0 511 0]) (v' := .slice (some ⟨g, 0, none⟩) ((L3).length + 2) cp) (by simpa using hrow) hg
                        have q2 := bx.cell 3 rfl
                        have f2 := bx.frozen 3
                        replace hQ1 : Hid _ := hQ1
                        clear hrow hg hat hi hz0 hz1 hz2 bx
                        refine hK.out _ _ trivial (fun _ => ?_)
                        clear hK K
                        try simp only [Act.put, List.setIfInBounds_toArray, List.set_cons_zero, List.set_cons_succ]
                        refine take_dst 6 139 (.pointer (some ⟨w.heap.size, 3, none⟩)) rfl (by kernel_rfl) (by kernel_rfl) (by kernel_rfl) (fun _ _ _ h => nomatch h.1) (Or.inl ⟨by rfl, by intro wv hSv; (try dsimp only at hSv); go_simp⟩) trivial rfl ?_
                        try simp only [Act.put, List.setIfInBounds_toArray, List.set_cons_zero, List.set_cons_succ]
                        refine wpAnyH_ready (rs := [7]) (by kernel_rfl) (by simp) ?_
                        refine AllReadyH.cons rfl (fun K hK => ?_) AllReadyH.nil
                        go_simp
                        clear q2 f2
                        refine hK.out _ _ trivial (fun _ => ?_)
                        clear hK K
                        try simp only [Act.put, List.setIfInBounds_toArray, List.set_cons_zero, List.set_cons_succ]
                        refine wpAnyH_done (by kernel_rfl) ?_ _
                        refine ⟨rfl, ⟨[.pointer (some ⟨w.heap.size, 3, none⟩), vc, .int .u32 (pI 24 2 511 0), .int .u32 (pI 23 0 511 0), .slice (some ⟨yk1.heap.size, 0, none⟩) 2 2, .slice (some ⟨g, 0, none⟩) (L3.length + 2) cp, .pointer (some ⟨w.heap.size, 3, none⟩)], rfl, ?_⟩, ⟨_, hQ1.out⟩⟩
                        simp only [List.zip_cons_cons, List.zip_nil_right, List.zip_nil_left, List.foldl_cons, List.foldl_nil, List.setIfInBounds_toArray, List.set_cons_zero, List.set_cons_succ]
                      · have hdb := hd1.later (show Below (yk1).heap.size (yk1) ((yk1).alloc (.cells #[.int .u32 (pI 24 2 511 0), .int .u32 (pI 23 0 511 0)] 51)) by exact (Below.refl _ _).alloc (Nat.le_refl _) _)
                        go_simp
                        refine hK.out _ _ trivial (fun _ => ?_)
                        clear hK K
                        try simp only [Act.put, List.setIfInBounds_toArray, List.set_cons_zero, List.set_cons_succ]
                        refine wpAnyH_ready (rs := [1]) (by kernel_rfl) (by simp) ?_
                        refine AllReadyH.cons rfl (fun K hK => ?_) AllReadyH.nil
                        have q := hdb.box.cell 3 rfl
                        go_simp
                        clear q
                        refine hK.out _ _ trivial (fun _ => ?_)
                        clear hK K
                        try simp only [Act.put, List.setIfInBounds_toArray, List.set_cons_zero, List.set_cons_succ]
                        refine wpAnyH_ready (rs := [5]) (by kernel_rfl) (by simp) ?_
                        refine AllReadyH.cons rfl (fun K hK => ?_) AllReadyH.nil
                        obtain ⟨i0, hi, hz0, hz1, hz2⟩ := info_parts info32
                        refine step_append_lies _ rfl (.tmp 134) (.tmp 137) 29 rfl w.heap.size 51 i0 (.int .u32 0) 1 4 Try.underlying29 hi hz0 hz1 hz2 rfl (by decide) vc (L3).length ((L3).map (Value.int .u32)) rfl hdb.code ⟨(yk1).heap.size, 0, none⟩ 2 2 ([pI 24 2 511 0, pI 23 0 511 0].map (Value.int .u32)) rfl rfl (World.news_of_block (heap_alloc_new _ _)) (by intro u hu; obtain ⟨z, -, rfl⟩ := List.mem_map.1 hu; rfl) (by omega) (by simp only [maxLen]; omega) (by omega) hdb.bel.size _ rfl ?_
                        intro g cp w' hrow hg hat hlt
                        obtain ⟨hQ1, bx⟩ := hdb.app (N := [pI 24 2 511 0, pI 23 0 511 0]) (v' := .slice (some ⟨g, 0, none⟩) ((L3).length + 2) cp) (by simpa using hrow) hg
                        have q2 := bx.cell 3 rfl
                        have f2 := bx.frozen 3
                        replace hQ1 : Hid _ := hQ1
                        clear hrow hg hat hi hz0 hz1 hz2 bx
                        refine hK.out _ _ trivial (fun _ => ?_)
                        clear hK K
                        try simp only [Act.put, List.setIfInBounds_toArray, List.set_cons_zero, List.set_cons_succ]
                        refine take_dst 6 139 (.pointer (some ⟨w.heap.size, 3, none⟩)) rfl (by kernel_rfl) (by kernel_rfl) (by kernel_rfl) (fun _ _ _ h => nomatch h.1) (Or.inl ⟨by rfl, by intro wv hSv; (try dsimp only at hSv); go_simp⟩) trivial rfl ?_
                        try simp only [Act.put, List.setIfInBounds_toArray, List.set_cons_zero, List.set_cons_succ]
                        refine wpAnyH_ready (rs := [7]) (by kernel_rfl) (by simp) ?_
                        refine AllReadyH.cons rfl (fun K hK => ?_) AllReadyH.nil
                        go_simp
                        clear q2 f2
                        refine hK.out _ _ trivial (fun _ => ?_)
                        clear hK K
                        try simp only [Act.put, List.setIfInBounds_toArray, List.set_cons_zero, List.set_cons_succ]
                        refine wpAnyH_done (by kernel_rfl) ?_ _
                        refine ⟨rfl, ⟨[.pointer (some ⟨w.heap.size, 3, none⟩), vc, .int .u32 (pI 24 2 511 0), .int .u32 (pI 23 0 511 0), .slice (some ⟨yk1.heap.size, 0, none⟩) 2 2, .slice (some ⟨g, 0, none⟩) (L3.length + 2) cp, .pointer (some ⟨w.heap.size, 3, none⟩)], rfl, ?_⟩, ⟨_, hQ1.out⟩⟩
                        simp only [List.zip_cons_cons, List.zip_nil_right, List.zip_nil_left, List.foldl_cons, List.foldl_nil, List.setIfInBounds_toArray, List.set_cons_zero, List.set_cons_succ]
                case hk =>
                  rintro zs w1 hzs ⟨v1, hQ4⟩
                  obtain ⟨z1, z2, z3, z4, z5, z6, z7, rfl⟩ : ∃ z1 z2 z3 z4 z5 z6 z7, zs = [z1, z2, z3, z4, z5, z6, z7] := by
                    match zs, hzs with
                    | [z1, z2, z3, z4, z5, z6, z7], _ => exact ⟨z1, z2, z3, z4, z5, z6, z7, rfl⟩
                  clear hQ hzs q1
                  simp only [List.zip_cons_cons, List.zip_nil_right, List.zip_nil_left, List.foldl_cons, List.foldl_nil, List.setIfInBounds_toArray, List.set_cons_zero, List.set_cons_succ]
                  have hcode : Hid (codeL c p M = L3 ++ [pI 24 2 511 0, pI 23 0 511 0]) := by
                    show codeL c p M = _
                    unfold codeL
                    rw [haK.out, hbK.out, ha2.out, hP0, hL3.out, hL2.out]
                    simp only [Int.toNat_natCast, hen.out]
                  replace hQ4 : Hid (QSt w w.heap.size (w.heap.size + 1) (P0 : Int) true kv KC w1 v1 (L3 ++ [pI 24 2 511 0, pI 23 0 511 0]) (.slice none 0 0) []) := hQ4
                  go_wp2_with fail
                  go_loopw [1, 12, 19] (fun pv av i wr => ∃ i' : Nat, i = .int .i64 (i' : Int) ∧ i' ≤ nu ∧ pv = .int .i64 ((p + 4 + 4 * cnt c + i' : Nat) : Int) ∧ Hid (∃ vu, QSt w w.heap.size (w.heap.size + 1) (P0 : Int) true kv KC wr v1 (L3 ++ [pI 24 2 511 0, pI 23 0 511 0]) vu (upL c p i')))
                    (fun _ _ i _ => nu - (intOf i).toNat)
                  case atStart => exact ⟨0, rfl, by omega, by simp; omega, ⟨_, hQ4.out⟩⟩
                  case round =>
                    obtain ⟨i', rfl, hin, rfl, hT⟩ := hrel
                    obtain ⟨wu, hwu⟩ : ∃ x, x = wr := ⟨_, rfl⟩
                    subst hwu
                    obtain ⟨vu, hQ⟩ := hT.out
                    have hCy := hC.out.later hQ.bel
                    replace hCy : Hid _ := hCy
                    by_cases hlt : i' < nu
                    · have hii : (i' : Int) < (nu : Int) := by omega
                      replace hQ : Hid (QSt w w.heap.size (w.heap.size + 1) (P0 : Int) true kv KC wu v1 (L3 ++ [pI 24 2 511 0, pI 23 0 511 0]) vu (upL c p i')) := hQ
                      obtain ⟨x, hx⟩ : ∃ t, tk c (p + 4 + 4 * cnt c + i') 4 = t := ⟨_, rfl⟩
                      replace hx : Hid (tk c (p + 4 + 4 * cnt c + i') 4 = x) := hx
                      clear hT
                      go_wp2_with fail
                      refine (l1Take_to c _ (p + 4 + 4 * cnt c + i') ((p + 4 + 4 * cnt c + i' : Nat) : Int) 4 _ rfl hCy.out (by omega) (by omega) hx.out).mono ?_
                      rintro e w' ⟨rfl, rfl⟩
                      have q5 := (hQ.out.box.alloc (.cells #[.bool true, .int .i64 x] 59)).cell 5 rfl
                      have q5' := hQ.out.box.cell 5 rfl
                      obtain ⟨i0, hi, hz0, hz1, hz2⟩ := info_parts infoUp
                      have hul := upL_len c p i'
                      go_wp2_with (at_builtin; refine wpList_append_own_at _ rfl (.tmp 160) (.tmp 163) 31 rfl w.heap.size 59 i0 (.agg #[.bool false, .int .i64 0]) 2 16 Try.underlying31 hi hz0 hz1 hz2 rfl (by decide) vu (upL c p i').length _ rfl (hQ.out.ups.alloc _) ⟨wu.heap.size, 0, none⟩ 1 1 [.bool true, .int .i64 x] rfl rfl ?c1 ?c2 ?c3 ?c4 ?c5 ?_)
                      case c1 => exact World.news_of_block (heap_alloc_new _ _)
                      case c2 => intro u hu; simp only [List.mem_cons, List.not_mem_nil, or_false] at hu; rcases hu with rfl | rfl <;> rfl
                      case c3 => simp only [maxLen]; omega
                      case c4 => omega
                      case c5 => have := hQ.out.bel.size; simp only [World.size_alloc]; omega
                      intro v' w' hown hg _ hat
                      obtain ⟨g5, cp5, rfl, -, -⟩ := hown.form (by omega)
                      obtain ⟨hQ5, bx⟩ := (hQ.out.later (show Below wu.heap.size wu (wu.alloc (.cells #[.bool true, .int .i64 x] 59)) from (Below.refl _ _).alloc (Nat.le_refl _) _)).appUp (N := [⟨true, x⟩]) (v' := .slice (some ⟨g5, 0, none⟩) (i' + 1) cp5) (by rw [List.length_append, upCells_append, hul]; exact hown) hg
                      have q2 := bx.cell 5 rfl
                      have f2 := bx.frozen 5
                      have hT1 : Hid (∃ vu, QSt w w.heap.size (w.heap.size + 1) (P0 : Int) true kv KC (w'.setCell ⟨w.heap.size, 5, none⟩ (.slice (some ⟨g5, 0, none⟩) (i' + 1) cp5)) v1 (L3 ++ [pI 24 2 511 0, pI 23 0 511 0]) vu (upL c p (i' + 1))) := by
                        refine ⟨.slice (some ⟨g5, 0, none⟩) (i' + 1) cp5, ?_⟩
                        rw [upL, hx.out]
                        exact hQ5
                      clear hown hg hat hi hz0 hz1 hz2 hQ5 bx q5 q5' hQ
                      go_wp2_with fail
                      go_roundw
                      case rel => exact ⟨i' + 1, by go_num, by omega, by simp; omega, hT1.out⟩
                      case measure => simp [intOf]; omega
                    · obtain rfl : i' = nu := by omega
                      obtain ⟨e0, e1, e2, e3, e4, e5, e6, e7, e8, e9⟩ := (show _ ∧ _ ∧ _ ∧ _ ∧ _ ∧ _ ∧ _ ∧ _ ∧ _ ∧ _ from ⟨hQ.box.cell 0 rfl, hQ.box.cell 1 rfl, hQ.box.cell 2 rfl, hQ.box.cell 3 rfl, hQ.box.cell 4 rfl, hQ.box.cell 5 rfl, hQ.box.cell 6 rfl, hQ.box.cell 7 rfl, hQ.box.cell 8 rfl, hQ.box.cell 9 rfl⟩)
                      clear hT
                      have hkc : kcL c p = KC := by rw [hKC]; unfold kcL; rw [haK.out, hbK.out]
                      have hKK := hK.out wu v1 vu (by rw [hP0, hcode.out, Int.toNat_natCast, hkc]; rw [hkv] at hQ; exact hQ)
                      rw [hP0, Int.toNat_natCast, show ((p + 4 + 4 * cnt c + i' : Nat) : Int) = (p : Int) + 4 + 4 * (cnt c : Int) + (i' : Int) by simp] at hKK
                      rw [hkv] at e6
                      go_wp2_with fail
                      refine Calls.mono hKK ?_
                      rintro e w' ⟨u, q, rfl, hR⟩
                      clear e0 e1 e2 e3 e4 e5 e6 e7 e8 e9 hKK
                      go_wp2_with fail
                      go_ret2
                      exact ⟨u, q, rfl, hR⟩
              | false =>
                have hen : Hid (endL 0 b = [pI 23 0 1 0]) := if_neg fun h => of_decide_eq_false hvb.out.symm h.2
                have hw3 : IntKind.i64.wrap 1 = 1 := by decide
                go_wp2_with fail
                refine wp_cut [140, 141, 142, 143, 144, 145, 146, 147] (fun w1 => ∃ v1, QSt w w.heap.size (w.heap.size + 1) (P0 : Int) false kv KC w1 v1 (L3 ++ [pI 23 0 (1) 0]) (.slice none 0 0) []) ?hr ?hk
                case hr =>
                  have hd := hQ.out.drew
                  refine wp_region_held_drew (S := fun _ => True) (by kernel_rfl) trivial (fun hH => ?_)
                  refine take_dst 0 140 (.pointer (some ⟨w.heap.size, 3, none⟩)) rfl (by kernel_rfl) (by kernel_rfl) (by kernel_rfl) (fun _ _ _ h => nomatch h.1) (Or.inl ⟨by rfl, by intro wv hSv; (try dsimp only at hSv); go_simp⟩) trivial rfl ?_
                  try simp only [Act.put, List.setIfInBounds_toArray, List.set_cons_zero, List.set_cons_succ]
                  refine take_dst 2 142 (.int .i64 0) rfl (by kernel_rfl) (by kernel_rfl) (by kernel_rfl) (fun _ _ _ h => nomatch h.1) (Or.inl ⟨by rfl, by intro wv hSv; (try dsimp only at hSv); go_simp⟩) trivial rfl ?_
                  try simp only [Act.put, List.setIfInBounds_toArray, List.set_cons_zero, List.set_cons_succ]
                  refine take_dst 3 143 (.int .i64 (1)) rfl (by kernel_rfl) (by kernel_rfl) (by kernel_rfl) (fun _ _ _ h => nomatch h.1) (Or.inl ⟨by rfl, by intro wv hSv; (try dsimp only at hSv); go_simp⟩) trivial rfl ?_
                  try simp only [Act.put, List.setIfInBounds_toArray, List.set_cons_zero, List.set_cons_succ]
                  refine wpAnyH_ready (rs := [1, 4]) (by kernel_rfl) (by simp) ?_
                  refine AllReadyH.cons rfl (fun K hK => ?_) (AllReadyH.cons rfl (fun K hK => ?_) AllReadyH.nil)
                  · have q := hd.box.cell 3 rfl
                    go_simp
                    clear q
                    refine hK.out _ _ trivial (fun _ => ?_)
                    clear hK K
                    try simp only [Act.put, List.setIfInBounds_toArray, List.set_cons_zero, List.set_cons_succ]
                    refine wpAnyH_ready (rs := [4]) (by kernel_rfl) (by simp) ?_
                    refine AllReadyH.cons rfl (fun K hK => ?_) AllReadyH.nil
                    go_simp
                    refine (l4I_in (23) (0) (1) (0) _ (by omega) (by omega) (by omega) (by omega) (by omega) (by omega) (by omega) (by omega)).mono ?_
                    rintro e yk0 ⟨rfl, bk0⟩
                    have hd0 := hd.later bk0
                    go_wp2_with fail
                    refine hK.out _ _ trivial (fun _ => ?_)
                    clear hK K
                    try simp only [Act.put, List.setIfInBounds_toArray, List.set_cons_zero, List.set_cons_succ]
                    refine wpAnyH_ready (rs := [5]) (by kernel_rfl) (by simp) ?_
                    refine AllReadyH.cons rfl (fun K hK => ?_) AllReadyH.nil
                    have hdb := hd0.later (show Below (yk0).heap.size (yk0) ((yk0).alloc (.cells #[.int .u32 (pI 23 0 (1) 0)] 51)) by exact (Below.refl _ _).alloc (Nat.le_refl _) _)
                    go_simp
                    refine hK.out _ _ trivial (fun _ => ?_)
                    clear hK K
                    try simp only [Act.put, List.setIfInBounds_toArray, List.set_cons_zero, List.set_cons_succ]
                    refine wpAnyH_ready (rs := [6]) (by kernel_rfl) (by simp) ?_
                    refine AllReadyH.cons rfl (fun K hK => ?_) AllReadyH.nil
                    obtain ⟨i0, hi, hz0, hz1, hz2⟩ := info_parts info32
                    refine step_append_lies _ rfl (.tmp 141) (.tmp 145) 29 rfl w.heap.size 51 i0 (.int .u32 0) 1 4 Try.underlying29 hi hz0 hz1 hz2 rfl (by decide) vc (L3).length ((L3).map (Value.int .u32)) rfl hdb.code ⟨(yk0).heap.size, 0, none⟩ 1 1 ([pI 23 0 (1) 0].map (Value.int .u32)) rfl rfl (World.news_of_block (heap_alloc_new _ _)) (by intro u hu; obtain ⟨z, -, rfl⟩ := List.mem_map.1 hu; rfl) (by omega) (by simp only [maxLen]; omega) (by omega) hdb.bel.size _ rfl ?_
                    intro g cp w' hrow hg hat hlt
                    obtain ⟨hQ1, bx⟩ := hdb.app (N := [pI 23 0 (1) 0]) (v' := .slice (some ⟨g, 0, none⟩) ((L3).length + 1) cp) (by simpa using hrow) hg
                    have q2 := bx.cell 3 rfl
                    have f2 := bx.frozen 3
                    replace hQ1 : Hid _ := hQ1
                    clear hrow hg hat hi hz0 hz1 hz2 bx
                    refine hK.out _ _ trivial (fun _ => ?_)
                    clear hK K
                    try simp only [Act.put, List.setIfInBounds_toArray, List.set_cons_zero, List.set_cons_succ]
                    refine take_dst 7 147 (.pointer (some ⟨w.heap.size, 3, none⟩)) rfl (by kernel_rfl) (by kernel_rfl) (by kernel_rfl) (fun _ _ _ h => nomatch h.1) (Or.inl ⟨by rfl, by intro wv hSv; (try dsimp only at hSv); go_simp⟩) trivial rfl ?_
                    try simp only [Act.put, List.setIfInBounds_toArray, List.set_cons_zero, List.set_cons_succ]
                    refine wpAnyH_ready (rs := [8]) (by kernel_rfl) (by simp) ?_
                    refine AllReadyH.cons rfl (fun K hK => ?_) AllReadyH.nil
                    go_simp
                    clear q2 f2
                    refine hK.out _ _ trivial (fun _ => ?_)
                    clear hK K
                    try simp only [Act.put, List.setIfInBounds_toArray, List.set_cons_zero, List.set_cons_succ]
                    refine wpAnyH_done (by kernel_rfl) ?_ _
                    refine ⟨rfl, ⟨[.pointer (some ⟨w.heap.size, 3, none⟩), vc, .int .i64 0, .int .i64 (1), .int .u32 (pI 23 0 (1) 0), .slice (some ⟨yk0.heap.size, 0, none⟩) 1 1, .slice (some ⟨g, 0, none⟩) (L3.length + 1) cp, .pointer (some ⟨w.heap.size, 3, none⟩)], rfl, ?_⟩, ⟨_, hQ1.out⟩⟩
                    simp only [List.zip_cons_cons, List.zip_nil_right, List.zip_nil_left, List.foldl_cons, List.foldl_nil, List.setIfInBounds_toArray, List.set_cons_zero, List.set_cons_succ]
                  · go_simp
                    refine (l4I_in (23) (0) (1) (0) _ (by omega) (by omega) (by omega) (by omega) (by omega) (by omega) (by omega) (by omega)).mono ?_
                    rintro e yk0 ⟨rfl, bk0⟩
                    have hd0 := hd.later bk0
                    go_wp2_with fail
                    refine hK.out _ _ trivial (fun _ => ?_)
                    clear hK K
                    try simp only [Act.put, List.setIfInBounds_toArray, List.set_cons_zero, List.set_cons_succ]
                    refine wpAnyH_ready (rs := [1, 5]) (by kernel_rfl) (by simp) ?_
                    refine AllReadyH.cons rfl (fun K hK => ?_) (AllReadyH.cons rfl (fun K hK => ?_) AllReadyH.nil)
                    · have q := hd0.box.cell 3 rfl
                      go_simp
                      clear q
                      refine hK.out _ _ trivial (fun _ => ?_)
                      clear hK K
                      try simp only [Act.put, List.setIfInBounds_toArray, List.set_cons_zero, List.set_cons_succ]
                      refine wpAnyH_ready (rs := [5]) (by kernel_rfl) (by simp) ?_
                      refine AllReadyH.cons rfl (fun K hK => ?_) AllReadyH.nil
                      have hdb := hd0.later (show Below (yk0).heap.size (yk0) ((yk0).alloc (.cells #[.int .u32 (pI 23 0 (1) 0)] 51)) by exact (Below.refl _ _).alloc (Nat.le_refl _) _)
                      go_simp
                      refine hK.out _ _ trivial (fun _ => ?_)
                      clear hK K
                      try simp only [Act.put, List.setIfInBounds_toArray, List.set_cons_zero, List.set_cons_succ]
                      refine wpAnyH_ready (rs := [6]) (by kernel_rfl) (by simp) ?_
                      refine AllReadyH.cons rfl (fun K hK => ?_) AllReadyH.nil
                      obtain ⟨i0, hi, hz0, hz1, hz2⟩ := info_parts info32
                      refine step_append_lies _ rfl (.tmp 141) (.tmp 145) 29 rfl w.heap.size 51 i0 (.int .u32 0) 1 4 Try.underlying29 hi hz0 hz1 hz2 rfl (by decide) vc (L3).length ((L3).map (Value.int .u32)) rfl hdb.code ⟨(yk0).heap.size, 0, none⟩ 1 1 ([pI 23 0 (1) 0].map (Value.int .u32)) rfl rfl (World.news_of_block (heap_alloc_new _ _)) (by intro u hu; obtain ⟨z, -, rfl⟩ := List.mem_map.1 hu; rfl) (by omega) (by simp only [maxLen]; omega) (by omega) hdb.bel.size _ rfl ?_
                      intro g cp w' hrow hg hat hlt
                      obtain ⟨hQ1, bx⟩ := hdb.app (N := [pI 23 0 (1) 0]) (v' := .slice (some ⟨g, 0, none⟩) ((L3).length + 1) cp) (by simpa using hrow) hg
                      have q2 := bx.cell 3 rfl
                      have f2 := bx.frozen 3
                      replace hQ1 : Hid _ := hQ1
                      clear hrow hg hat hi hz0 hz1 hz2 bx
                      refine hK.out _ _ trivial (fun _ => ?_)
                      clear hK K
                      try simp only [Act.put, List.setIfInBounds_toArray, List.set_cons_zero, List.set_cons_succ]
                      refine take_dst 7 147 (.pointer (some ⟨w.heap.size, 3, none⟩)) rfl (by kernel_rfl) (by kernel_rfl) (by kernel_rfl) (fun _ _ _ h => nomatch h.1) (Or.inl ⟨by rfl, by intro wv hSv; (try dsimp only at hSv); go_simp⟩) trivial rfl ?_
                      try simp only [Act.put, List.setIfInBounds_toArray, List.set_cons_zero, List.set_cons_succ]
                      refine wpAnyH_ready (rs := [8]) (by kernel_rfl) (by simp) ?_
                      refine AllReadyH.cons rfl (fun K hK => ?_) AllReadyH.nil
                      go_simp
                      clear q2 f2
                      refine hK.out _ _ trivial (fun _ => ?_)
                      clear hK K
                      try simp only [Act.put, List.setIfInBounds_toArray, List.set_cons_zero, List.set_cons_succ]
                      refine wpAnyH_done (by kernel_rfl) ?_ _
                      refine ⟨rfl, ⟨[.pointer (some ⟨w.heap.size, 3, none⟩), vc, .int .i64 0, .int .i64 (1), .int .u32 (pI 23 0 (1) 0), .slice (some ⟨yk0.heap.size, 0, none⟩) 1 1, .slice (some ⟨g, 0, none⟩) (L3.length + 1) cp, .pointer (some ⟨w.heap.size, 3, none⟩)], rfl, ?_⟩, ⟨_, hQ1.out⟩⟩
                      simp only [List.zip_cons_cons, List.zip_nil_right, List.zip_nil_left, List.foldl_cons, List.foldl_nil, List.setIfInBounds_toArray, List.set_cons_zero, List.set_cons_succ]
                    · have hdb := hd0.later (show Below (yk0).heap.size (yk0) ((yk0).alloc (.cells #[.int .u32 (pI 23 0 (1) 0)] 51)) by exact (Below.refl _ _).alloc (Nat.le_refl _) _)
                      go_simp
                      refine hK.out _ _ trivial (fun _ => ?_)
                      clear hK K
                      try simp only [Act.put, List.setIfInBounds_toArray, List.set_cons_zero, List.set_cons_succ]
                      refine wpAnyH_ready (rs := [1]) (by kernel_rfl) (by simp) ?_
                      refine AllReadyH.cons rfl (fun K hK => ?_) AllReadyH.nil
                      have q := hdb.box.cell 3 rfl
                      go_simp
                      clear q
                      refine hK.out _ _ trivial (fun _ => ?_)
                      clear hK K
                      try simp only [Act.put, List.setIfInBounds_toArray, List.set_cons_zero, List.set_cons_succ]
                      refine wpAnyH_ready (rs := [6]) (by kernel_rfl) (by simp) ?_
                      refine AllReadyH.cons rfl (fun K hK => ?_) AllReadyH.nil
                      obtain ⟨i0, hi, hz0, hz1, hz2⟩ := info_parts info32
                      refine step_append_lies _ rfl (.tmp 141) (.tmp 145) 29 rfl w.heap.size 51 i0 (.int .u32 0) 1 4 Try.underlying29 hi hz0 hz1 hz2 rfl (by decide) vc (L3).length ((L3).map (Value.int .u32)) rfl hdb.code ⟨(yk0).heap.size, 0, none⟩ 1 1 ([pI 23 0 (1) 0].map (Value.int .u32)) rfl rfl (World.news_of_block (heap_alloc_new _ _)) (by intro u hu; obtain ⟨z, -, rfl⟩ := List.mem_map.1 hu; rfl) (by omega) (by simp only [maxLen]; omega) (by omega) hdb.bel.size _ rfl ?_
                      intro g cp w' hrow hg hat hlt
                      obtain ⟨hQ1, bx⟩ := hdb.app (N := [pI 23 0 (1) 0]) (v' := .slice (some ⟨g, 0, none⟩) ((L3).length + 1) cp) (by simpa using hrow) hg
                      have q2 := bx.cell 3 rfl
                      have f2 := bx.frozen 3
                      replace hQ1 : Hid _ := hQ1
                      clear hrow hg hat hi hz0 hz1 hz2 bx
                      refine hK.out _ _ trivial (fun _ => ?_)
                      clear hK K
                      try simp only [Act.put, List.setIfInBounds_toArray, List.set_cons_zero, List.set_cons_succ]
                      refine take_dst 7 147 (.pointer (some ⟨w.heap.size, 3, none⟩)) rfl (by kernel_rfl) (by kernel_rfl) (by kernel_rfl) (fun _ _ _ h => nomatch h.1) (Or.inl ⟨by rfl, by intro wv hSv; (try dsimp only at hSv); go_simp⟩) trivial rfl ?_
                      try simp only [Act.put, List.setIfInBounds_toArray, List.set_cons_zero, List.set_cons_succ]
                      refine wpAnyH_ready (rs := [8]) (by kernel_rfl) (by simp) ?_
                      refine AllReadyH.cons rfl (fun K hK => ?_) AllReadyH.nil
                      go_simp
                      clear q2 f2
                      refine hK.out _ _ trivial (fun _ => ?_)
                      clear hK K
                      try simp only [Act.put, List.setIfInBounds_toArray, List.set_cons_zero, List.set_cons_succ]
                      refine wpAnyH_done (by kernel_rfl) ?_ _
                      refine ⟨rfl, ⟨[.pointer (some ⟨w.heap.size, 3, none⟩), vc, .int .i64 0, .int .i64 (1), .int .u32 (pI 23 0 (1) 0), .slice (some ⟨yk0.heap.size, 0, none⟩) 1 1, .slice (some ⟨g, 0, none⟩) (L3.length + 1) cp, .pointer (some ⟨w.heap.size, 3, none⟩)], rfl, ?_⟩, ⟨_, hQ1.out⟩⟩
                      simp only [List.zip_cons_cons, List.zip_nil_right, List.zip_nil_left, List.foldl_cons, List.foldl_nil, List.setIfInBounds_toArray, List.set_cons_zero, List.set_cons_succ]
                case hk =>
                  rintro zs w1 hzs ⟨v1, hQ4⟩
                  obtain ⟨z1, z2, z3, z4, z5, z6, z7, z8, rfl⟩ : ∃ z1 z2 z3 z4 z5 z6 z7 z8, zs = [z1, z2, z3, z4, z5, z6, z7, z8] := by
                    match zs, hzs with
                    | [z1, z2, z3, z4, z5, z6, z7, z8], _ => exact ⟨z1, z2, z3, z4, z5, z6, z7, z8, rfl⟩
                  clear hQ hzs q1
                  simp only [List.zip_cons_cons, List.zip_nil_right, List.zip_nil_left, List.foldl_cons, List.foldl_nil, List.setIfInBounds_toArray, List.set_cons_zero, List.set_cons_succ]
                  have hcode : Hid (codeL c p M = L3 ++ [pI 23 0 (1) 0]) := by
                    show codeL c p M = _
                    unfold codeL
                    rw [haK.out, hbK.out, ha2.out, hP0, hL3.out, hL2.out]
                    simp only [Int.toNat_natCast, hen.out]
                  replace hQ4 : Hid (QSt w w.heap.size (w.heap.size + 1) (P0 : Int) false kv KC w1 v1 (L3 ++ [pI 23 0 (1) 0]) (.slice none 0 0) []) := hQ4
                  go_wp2_with fail
                  go_loopw [1, 12, 19] (fun pv av i wr => ∃ i' : Nat, i = .int .i64 (i' : Int) ∧ i' ≤ nu ∧ pv = .int .i64 ((p + 4 + 4 * cnt c + i' : Nat) : Int) ∧ Hid (∃ vu, QSt w w.heap.size (w.heap.size + 1) (P0 : Int) false kv KC wr v1 (L3 ++ [pI 23 0 (1) 0]) vu (upL c p i')))
                    (fun _ _ i _ => nu - (intOf i).toNat)
                  case atStart => exact ⟨0, rfl, by omega, by simp; omega, ⟨_, hQ4.out⟩⟩
                  case round =>
                    obtain ⟨i', rfl, hin, rfl, hT⟩ := hrel
                    obtain ⟨wu, hwu⟩ : ∃ x, x = wr := ⟨_, rfl⟩
                    subst hwu
                    obtain ⟨vu, hQ⟩ := hT.out
                    have hCy := hC.out.later hQ.bel
                    replace hCy : Hid _ := hCy
                    by_cases hlt : i' < nu
                    · have hii : (i' : Int) < (nu : Int) := by omega
                      replace hQ : Hid (QSt w w.heap.size (w.heap.size + 1) (P0 : Int) false kv KC wu v1 (L3 ++ [pI 23 0 (1) 0]) vu (upL c p i')) := hQ
                      obtain ⟨x, hx⟩ : ∃ t, tk c (p + 4 + 4 * cnt c + i') 4 = t := ⟨_, rfl⟩
                      replace hx : Hid (tk c (p + 4 + 4 * cnt c + i') 4 = x) := hx
                      clear hT
                      go_wp2_with fail
                      refine (l1Take_to c _ (p + 4 + 4 * cnt c + i') ((p + 4 + 4 * cnt c + i' : Nat) : Int) 4 _ rfl hCy.out (by omega) (by omega) hx.out).mono ?_
                      rintro e w' ⟨rfl, rfl⟩
                      have q5 := (hQ.out.box.alloc (.cells #[.bool true, .int .i64 x] 59)).cell 5 rfl
                      have q5' := hQ.out.box.cell 5 rfl
                      obtain ⟨i0, hi, hz0, hz1, hz2⟩ := info_parts infoUp
                      have hul := upL_len c p i'
                      go_wp2_with (at_builtin; refine wpList_append_own_at _ rfl (.tmp 160) (.tmp 163) 31 rfl w.heap.size 59 i0 (.agg #[.bool false, .int .i64 0]) 2 16 Try.underlying31 hi hz0 hz1 hz2 rfl (by decide) vu (upL c p i').length _ rfl (hQ.out.ups.alloc _) ⟨wu.heap.size, 0, none⟩ 1 1 [.bool true, .int .i64 x] rfl rfl ?c1 ?c2 ?c3 ?c4 ?c5 ?_)
                      case c1 => exact World.news_of_block (heap_alloc_new _ _)
                      case c2 => intro u hu; simp only [List.mem_cons, List.not_mem_nil, or_false] at hu; rcases hu with rfl | rfl <;> rfl
                      case c3 => simp only [maxLen]; omega
                      case c4 => omega
                      case c5 => have := hQ.out.bel.size; simp only [World.size_alloc]; omega
                      intro v' w' hown hg _ hat
                      obtain ⟨g5, cp5, rfl, -, -⟩ := hown.form (by omega)
                      obtain ⟨hQ5, bx⟩ := (hQ.out.later (show Below wu.heap.size wu (wu.alloc (.cells #[.bool true, .int .i64 x] 59)) from (Below.refl _ _).alloc (Nat.le_refl _) _)).appUp (N := [⟨true, x⟩]) (v' := .slice (some ⟨g5, 0, none⟩) (i' + 1) cp5) (by rw [List.length_append, upCells_append, hul]; exact hown) hg
                      have q2 := bx.cell 5 rfl
                      have f2 := bx.frozen 5
                      have hT1 : Hid (∃ vu, QSt w w.heap.size (w.heap.size + 1) (P0 : Int) false kv KC (w'.setCell ⟨w.heap.size, 5, none⟩ (.slice (some ⟨g5, 0, none⟩) (i' + 1) cp5)) v1 (L3 ++ [pI 23 0 (1) 0]) vu (upL c p (i' + 1))) := by
                        refine ⟨.slice (some ⟨g5, 0, none⟩) (i' + 1) cp5, ?_⟩
                        rw [upL, hx.out]
                        exact hQ5
                      clear hown hg hat hi hz0 hz1 hz2 hQ5 bx q5 q5' hQ
                      go_wp2_with fail
                      go_roundw
                      case rel => exact ⟨i' + 1, by go_num, by omega, by simp; omega, hT1.out⟩
                      case measure => simp [intOf]; omega
                    · obtain rfl : i' = nu := by omega
                      obtain ⟨e0, e1, e2, e3, e4, e5, e6, e7, e8, e9⟩ := (show _ ∧ _ ∧ _ ∧ _ ∧ _ ∧ _ ∧ _ ∧ _ ∧ _ ∧ _ from ⟨hQ.box.cell 0 rfl, hQ.box.cell 1 rfl, hQ.box.cell 2 rfl, hQ.box.cell 3 rfl, hQ.box.cell 4 rfl, hQ.box.cell 5 rfl, hQ.box.cell 6 rfl, hQ.box.cell 7 rfl, hQ.box.cell 8 rfl, hQ.box.cell 9 rfl⟩)
                      clear hT
                      have hkc : kcL c p = KC := by rw [hKC]; unfold kcL; rw [haK.out, hbK.out]
                      have hKK := hK.out wu v1 vu (by rw [hP0, hcode.out, Int.toNat_natCast, hkc]; rw [hkv] at hQ; exact hQ)
                      rw [hP0, Int.toNat_natCast, show ((p + 4 + 4 * cnt c + i' : Nat) : Int) = (p : Int) + 4 + 4 * (cnt c : Int) + (i' : Int) by simp] at hKK
                      rw [hkv] at e6
                      go_wp2_with fail
                      refine Calls.mono hKK ?_
                      rintro e w' ⟨u, q, rfl, hR⟩
                      clear e0 e1 e2 e3 e4 e5 e6 e7 e8 e9 hKK
                      go_wp2_with fail
                      go_ret2
                      exact ⟨u, q, rfl, hR⟩
            · have hen : Hid (endL a2 b = [pI 23 0 (1 + a2) 0]) := if_neg fun h => c0 h.1
              have hw3 : IntKind.i64.wrap (1 + a2) = 1 + a2 := by simp [IntKind.wrap, IntKind.bits, IntKind.signed]; omega
              go_wp2_with fail
              refine wp_cut [140, 141, 142, 143, 144, 145, 146, 147] (fun w1 => ∃ v1, QSt w w.heap.size (w.heap.size + 1) (P0 : Int) vb kv KC w1 v1 (L3 ++ [pI 23 0 (1 + a2) 0]) (.slice none 0 0) []) ?hr ?hk
              case hr =>
                have hd := hQ.out.drew
                refine wp_region_held_drew (S := fun _ => True) (by kernel_rfl) trivial (fun hH => ?_)
                refine take_dst 0 140 (.pointer (some ⟨w.heap.size, 3, none⟩)) rfl (by kernel_rfl) (by kernel_rfl) (by kernel_rfl) (fun _ _ _ h => nomatch h.1) (Or.inl ⟨by rfl, by intro wv hSv; (try dsimp only at hSv); go_simp⟩) trivial rfl ?_
                try simp only [Act.put, List.setIfInBounds_toArray, List.set_cons_zero, List.set_cons_succ]
                refine take_dst 2 142 (.int .i64 a2) rfl (by kernel_rfl) (by kernel_rfl) (by kernel_rfl) (fun _ _ _ h => nomatch h.1) (Or.inl ⟨by rfl, by intro wv hSv; (try dsimp only at hSv); go_simp⟩) trivial rfl ?_
                try simp only [Act.put, List.setIfInBounds_toArray, List.set_cons_zero, List.set_cons_succ]
                refine take_dst 3 143 (.int .i64 (1 + a2)) rfl (by kernel_rfl) (by kernel_rfl) (by kernel_rfl) (fun _ _ _ h => nomatch h.1) (Or.inl ⟨by rfl, by intro wv hSv; (try dsimp only at hSv); go_simp⟩) trivial rfl ?_
                try simp only [Act.put, List.setIfInBounds_toArray, List.set_cons_zero, List.set_cons_succ]
                refine wpAnyH_ready (rs := [1, 4]) (by kernel_rfl) (by simp) ?_
                refine AllReadyH.cons rfl (fun K hK => ?_) (AllReadyH.cons rfl (fun K hK => ?_) AllReadyH.nil)
                · have q := hd.box.cell 3 rfl
                  go_simp
                  clear q
                  refine hK.out _ _ trivial (fun _ => ?_)
                  clear hK K
                  try simp only [Act.put, List.setIfInBounds_toArray, List.set_cons_zero, List.set_cons_succ]
                  refine wpAnyH_ready (rs := [4]) (by kernel_rfl) (by simp) ?_
                  refine AllReadyH.cons rfl (fun K hK => ?_) AllReadyH.nil
                  go_simp
                  refine (l4I_in (23) (0) (1 + a2) (0) _ (by omega) (by omega) (by omega) (by omega) (by omega) (by omega) (by omega) (by omega)).mono ?_
                  rintro e yk0 ⟨rfl, bk0⟩
                  have hd0 := hd.later bk0
                  go_wp2_with fail
                  refine hK.out _ _ trivial (fun _ => ?_)
                  clear hK K
                  try simp only [Act.put, List.setIfInBounds_toArray, List.set_cons_zero, List.set_cons_succ]
                  refine wpAnyH_ready (rs := [5]) (by kernel_rfl) (by simp) ?_
                  refine AllReadyH.cons rfl (fun K hK => ?_) AllReadyH.nil
                  have hdb := hd0.later (show Below (yk0).heap.size (yk0) ((yk0).alloc (.cells #[.int .u32 (pI 23 0 (1 + a2) 0)] 51)) by exact (Below.refl _ _).alloc (Nat.le_refl _) _)
                  go_simp
                  refine hK.out _ _ trivial (fun _ => ?_)
                  clear hK K
                  try simp only [Act.put, List.setIfInBounds_toArray, List.set_cons_zero, List.set_cons_succ]
                  refine wpAnyH_ready (rs := [6]) (by kernel_rfl) (by simp) ?_
                  refine AllReadyH.cons rfl (fun K hK => ?_) AllReadyH.nil
                  obtain ⟨i0, hi, hz0, hz1, hz2⟩ := info_parts info32
                  refine step_append_lies _ rfl (.tmp 141) (.tmp 145) 29 rfl w.heap.size 51 i0 (.int .u32 0) 1 4 Try.underlying29 hi hz0 hz1 hz2 rfl (by decide) vc (L3).length ((L3).map (Value.int .u32)) rfl hdb.code ⟨(yk0).heap.size, 0, none⟩ 1 1 ([pI 23 0 (1 + a2) 0].map (Value.int .u32)) rfl rfl (World.news_of_block (heap_alloc_new _ _)) (by intro u hu; obtain ⟨z, -, rfl⟩ := List.mem_map.1 hu; rfl) (by omega) (by simp only [maxLen]; omega) (by omega) hdb.bel.size _ rfl ?_
                  intro g cp w' hrow hg hat hlt
                  obtain ⟨hQ1, bx⟩ := hdb.app (N := [pI 23 0 (1 + a2) 0]) (v' := .slice (some ⟨g, 0, none⟩) ((L3).length + 1) cp) (by simpa using hrow) hg
                  have q2 := bx.cell 3 rfl
                  have f2 := bx.frozen 3
                  replace hQ1 : Hid _ := hQ1
                  clear hrow hg hat hi hz0 hz1 hz2 bx
                  refine hK.out _ _ trivial (fun _ => ?_)
                  clear hK K
                  try simp only [Act.put, List.setIfInBounds_toArray, List.set_cons_zero, List.set_cons_succ]
                  refine take_dst 7 147 (.pointer (some ⟨w.heap.size, 3, none⟩)) rfl (by kernel_rfl) (by kernel_rfl) (by kernel_rfl) (fun _ _ _ h => nomatch h.1) (Or.inl ⟨by rfl, by intro wv hSv; (try dsimp only at hSv); go_simp⟩) trivial rfl ?_
                  try simp only [Act.put, List.setIfInBounds_toArray, List.set_cons_zero, List.set_cons_succ]
                  refine wpAnyH_ready (rs := [8]) (by kernel_rfl) (by simp) ?_
                  refine AllReadyH.cons rfl (fun K hK => ?_) AllReadyH.nil
                  go_simp
                  clear q2 f2
                  refine hK.out _ _ trivial (fun _ => ?_)
                  clear hK K
                  try simp only [Act.put, List.setIfInBounds_toArray, List.set_cons_zero, List.set_cons_succ]
                  refine wpAnyH_done (by kernel_rfl) ?_ _
                  refine ⟨rfl, ⟨[.pointer (some ⟨w.heap.size, 3, none⟩), vc, .int .i64 a2, .int .i64 (1 + a2), .int .u32 (pI 23 0 (1 + a2) 0), .slice (some ⟨yk0.heap.size, 0, none⟩) 1 1, .slice (some ⟨g, 0, none⟩) (L3.length + 1) cp, .pointer (some ⟨w.heap.size, 3, none⟩)], rfl, ?_⟩, ⟨_, hQ1.out⟩⟩
                  simp only [List.zip_cons_cons, List.zip_nil_right, List.zip_nil_left, List.foldl_cons, List.foldl_nil, List.setIfInBounds_toArray, List.set_cons_zero, List.set_cons_succ]
                · go_simp
                  refine (l4I_in (23) (0) (1 + a2) (0) _ (by omega) (by omega) (by omega) (by omega) (by omega) (by omega) (by omega) (by omega)).mono ?_
                  rintro e yk0 ⟨rfl, bk0⟩
                  have hd0 := hd.later bk0
                  go_wp2_with fail
                  refine hK.out _ _ trivial (fun _ => ?_)
                  clear hK K
                  try simp only [Act.put, List.setIfInBounds_toArray, List.set_cons_zero, List.set_cons_succ]
                  refine wpAnyH_ready (rs := [1, 5]) (by kernel_rfl) (by simp) ?_
                  refine AllReadyH.cons rfl (fun K hK => ?_) (AllReadyH.cons rfl (fun K hK => ?_) AllReadyH.nil)
                  · have q := hd0.box.cell 3 rfl
                    go_simp
                    clear q
                    refine hK.out _ _ trivial (fun _ => ?_)
                    clear hK K
                    try simp only [Act.put, List.setIfInBounds_toArray, List.set_cons_zero, List.set_cons_succ]
                    refine wpAnyH_ready (rs := [5]) (by kernel_rfl) (by simp) ?_
                    refine AllReadyH.cons rfl (fun K hK => ?_) AllReadyH.nil
                    have hdb := hd0.later (show Below (yk0).heap.size (yk0) ((yk0).alloc (.cells #[.int .u32 (pI 23 0 (1 + a2) 0)] 51)) by exact (Below.refl _ _).alloc (Nat.le_refl _) _)
                    go_simp
                    refine hK.out _ _ trivial (fun _ => ?_)
                    clear hK K
                    try simp only [Act.put, List.setIfInBounds_toArray, List.set_cons_zero, List.set_cons_succ]
                    refine wpAnyH_ready (rs := [6]) (by kernel_rfl) (by simp) ?_
                    refine AllReadyH.cons rfl (fun K hK => ?_) AllReadyH.nil
                    obtain ⟨i0, hi, hz0, hz1, hz2⟩ := info_parts info32
                    refine step_append_lies _ rfl (.tmp 141) (.tmp 145) 29 rfl w.heap.size 51 i0 (.int .u32 0) 1 4 Try.underlying29 hi hz0 hz1 hz2 rfl (by decide) vc (L3).length ((L3).map (Value.int .u32)) rfl hdb.code ⟨(yk0).heap.size, 0, none⟩ 1 1 ([pI 23 0 (1 + a2) 0].map (Value.int .u32)) rfl rfl (World.news_of_block (heap_alloc_new _ _)) (by intro u hu; obtain ⟨z, -, rfl⟩ := List.mem_map.1 hu; rfl) (by omega) (by simp only [maxLen]; omega) (by omega) hdb.bel.size _ rfl ?_
                    intro g cp w' hrow hg hat hlt
                    obtain ⟨hQ1, bx⟩ := hdb.app (N := [pI 23 0 (1 + a2) 0]) (v' := .slice (some ⟨g, 0, none⟩) ((L3).length + 1) cp) (by simpa using hrow) hg
                    have q2 := bx.cell 3 rfl
                    have f2 := bx.frozen 3
                    replace hQ1 : Hid _ := hQ1
                    clear hrow hg hat hi hz0 hz1 hz2 bx
                    refine hK.out _ _ trivial (fun _ => ?_)
                    clear hK K
                    try simp only [Act.put, List.setIfInBounds_toArray, List.set_cons_zero, List.set_cons_succ]
                    refine take_dst 7 147 (.pointer (some ⟨w.heap.size, 3, none⟩)) rfl (by kernel_rfl) (by kernel_rfl) (by kernel_rfl) (fun _ _ _ h => nomatch h.1) (Or.inl ⟨by rfl, by intro wv hSv; (try dsimp only at hSv); go_simp⟩) trivial rfl ?_
                    try simp only [Act.put, List.setIfInBounds_toArray, List.set_cons_zero, List.set_cons_succ]
                    refine wpAnyH_ready (rs := [8]) (by kernel_rfl) (by simp) ?_
                    refine AllReadyH.cons rfl (fun K hK => ?_) AllReadyH.nil
                    go_simp
                    clear q2 f2
                    refine hK.out _ _ trivial (fun _ => ?_)
                    clear hK K
                    try simp only [Act.put, List.setIfInBounds_toArray, List.set_cons_zero, List.set_cons_succ]
                    refine wpAnyH_done (by kernel_rfl) ?_ _
                    refine ⟨rfl, ⟨[.pointer (some ⟨w.heap.size, 3, none⟩), vc, .int .i64 a2, .int .i64 (1 + a2), .int .u32 (pI 23 0 (1 + a2) 0), .slice (some ⟨yk0.heap.size, 0, none⟩) 1 1, .slice (some ⟨g, 0, none⟩) (L3.length + 1) cp, .pointer (some ⟨w.heap.size, 3, none⟩)], rfl, ?_⟩, ⟨_, hQ1.out⟩⟩
                    simp only [List.zip_cons_cons, List.zip_nil_right, List.zip_nil_left, List.foldl_cons, List.foldl_nil, List.setIfInBounds_toArray, List.set_cons_zero, List.set_cons_succ]
                  · have hdb := hd0.later (show Below (yk0).heap.size (yk0) ((yk0).alloc (.cells #[.int .u32 (pI 23 0 (1 + a2) 0)] 51)) by exact (Below.refl _ _).alloc (Nat.le_refl _) _)
                    go_simp
                    refine hK.out _ _ trivial (fun _ => ?_)
                    clear hK K
                    try simp only [Act.put, List.setIfInBounds_toArray, List.set_cons_zero, List.set_cons_succ]
                    refine wpAnyH_ready (rs := [1]) (by kernel_rfl) (by simp) ?_
                    refine AllReadyH.cons rfl (fun K hK => ?_) AllReadyH.nil
                    have q := hdb.box.cell 3 rfl
                    go_simp
                    clear q
                    refine hK.out _ _ trivial (fun _ => ?_)
                    clear hK K
                    try simp only [Act.put, List.setIfInBounds_toArray, List.set_cons_zero, List.set_cons_succ]
                    refine wpAnyH_ready (rs := [6]) (by kernel_rfl) (by simp) ?_
                    refine AllReadyH.cons rfl (fun K hK => ?_) AllReadyH.nil
                    obtain ⟨i0, hi, hz0, hz1, hz2⟩ := info_parts info32
                    refine step_append_lies _ rfl (.tmp 141) (.tmp 145) 29 rfl w.heap.size 51 i0 (.int .u32 0) 1 4 Try.underlying29 hi hz0 hz1 hz2 rfl (by decide) vc (L3).length ((L3).map (Value.int .u32)) rfl hdb.code ⟨(yk0).heap.size, 0, none⟩ 1 1 ([pI 23 0 (1 + a2) 0].map (Value.int .u32)) rfl rfl (World.news_of_block (heap_alloc_new _ _)) (by intro u hu; obtain ⟨z, -, rfl⟩ := List.mem_map.1 hu; rfl) (by omega) (by simp only [maxLen]; omega) (by omega) hdb.bel.size _ rfl ?_
                    intro g cp w' hrow hg hat hlt
                    obtain ⟨hQ1, bx⟩ := hdb.app (N := [pI 23 0 (1 + a2) 0]) (v' := .slice (some ⟨g, 0, none⟩) ((L3).length + 1) cp) (by simpa using hrow) hg
                    have q2 := bx.cell 3 rfl
                    have f2 := bx.frozen 3
                    replace hQ1 : Hid _ := hQ1
                    clear hrow hg hat hi hz0 hz1 hz2 bx
                    refine hK.out _ _ trivial (fun _ => ?_)
                    clear hK K
                    try simp only [Act.put, List.setIfInBounds_toArray, List.set_cons_zero, List.set_cons_succ]
                    refine take_dst 7 147 (.pointer (some ⟨w.heap.size, 3, none⟩)) rfl (by kernel_rfl) (by kernel_rfl) (by kernel_rfl) (fun _ _ _ h => nomatch h.1) (Or.inl ⟨by rfl, by intro wv hSv; (try dsimp only at hSv); go_simp⟩) trivial rfl ?_
                    try simp only [Act.put, List.setIfInBounds_toArray, List.set_cons_zero, List.set_cons_succ]
                    refine wpAnyH_ready (rs := [8]) (by kernel_rfl) (by simp) ?_
                    refine AllReadyH.cons rfl (fun K hK => ?_) AllReadyH.nil
                    go_simp
                    clear q2 f2
                    refine hK.out _ _ trivial (fun _ => ?_)
                    clear hK K
                    try simp only [Act.put, List.setIfInBounds_toArray, List.set_cons_zero, List.set_cons_succ]
                    refine wpAnyH_done (by kernel_rfl) ?_ _
                    refine ⟨rfl, ⟨[.pointer (some ⟨w.heap.size, 3, none⟩), vc, .int .i64 a2, .int .i64 (1 + a2), .int .u32 (pI 23 0 (1 + a2) 0), .slice (some ⟨yk0.heap.size, 0, none⟩) 1 1, .slice (some ⟨g, 0, none⟩) (L3.length + 1) cp, .pointer (some ⟨w.heap.size, 3, none⟩)], rfl, ?_⟩, ⟨_, hQ1.out⟩⟩
                    simp only [List.zip_cons_cons, List.zip_nil_right, List.zip_nil_left, List.foldl_cons, List.foldl_nil, List.setIfInBounds_toArray, List.set_cons_zero, List.set_cons_succ]
              case hk =>
                rintro zs w1 hzs ⟨v1, hQ4⟩
                obtain ⟨z1, z2, z3, z4, z5, z6, z7, z8, rfl⟩ : ∃ z1 z2 z3 z4 z5 z6 z7 z8, zs = [z1, z2, z3, z4, z5, z6, z7, z8] := by
                  match zs, hzs with
                  | [z1, z2, z3, z4, z5, z6, z7, z8], _ => exact ⟨z1, z2, z3, z4, z5, z6, z7, z8, rfl⟩
                clear hQ hzs q1
                simp only [List.zip_cons_cons, List.zip_nil_right, List.zip_nil_left, List.foldl_cons, List.foldl_nil, List.setIfInBounds_toArray, List.set_cons_zero, List.set_cons_succ]
                have hcode : Hid (codeL c p M = L3 ++ [pI 23 0 (1 + a2) 0]) := by
                  show codeL c p M = _
                  unfold codeL
                  rw [haK.out, hbK.out, ha2.out, hP0, hL3.out, hL2.out]
                  simp only [Int.toNat_natCast, hen.out]
                replace hQ4 : Hid (QSt w w.heap.size (w.heap.size + 1) (P0 : Int) vb kv KC w1 v1 (L3 ++ [pI 23 0 (1 + a2) 0]) (.slice none 0 0) []) := hQ4
                go_wp2_with fail
                go_loopw [1, 12, 19] (fun pv av i wr => ∃ i' : Nat, i = .int .i64 (i' : Int) ∧ i' ≤ nu ∧ pv = .int .i64 ((p + 4 + 4 * cnt c + i' : Nat) : Int) ∧ Hid (∃ vu, QSt w w.heap.size (w.heap.size + 1) (P0 : Int) vb kv KC wr v1 (L3 ++ [pI 23 0 (1 + a2) 0]) vu (upL c p i')))
                  (fun _ _ i _ => nu - (intOf i).toNat)
                case atStart => exact ⟨0, rfl, by omega, by simp; omega, ⟨_, hQ4.out⟩⟩
                case round =>
                  obtain ⟨i', rfl, hin, rfl, hT⟩ := hrel
                  obtain ⟨wu, hwu⟩ : ∃ x, x = wr := ⟨_, rfl⟩
                  subst hwu
                  obtain ⟨vu, hQ⟩ := hT.out
                  have hCy := hC.out.later hQ.bel
                  replace hCy : Hid _ := hCy
                  by_cases hlt : i' < nu
                  · have hii : (i' : Int) < (nu : Int) := by omega
                    replace hQ : Hid (QSt w w.heap.size (w.heap.size + 1) (P0 : Int) vb kv KC wu v1 (L3 ++ [pI 23 0 (1 + a2) 0]) vu (upL c p i')) := hQ
                    obtain ⟨x, hx⟩ : ∃ t, tk c (p + 4 + 4 * cnt c + i') 4 = t := ⟨_, rfl⟩
                    replace hx : Hid (tk c (p + 4 + 4 * cnt c + i') 4 = x) := hx
                    clear hT
                    go_wp2_with fail
                    refine (l1Take_to c _ (p + 4 + 4 * cnt c + i') ((p + 4 + 4 * cnt c + i' : Nat) : Int) 4 _ rfl hCy.out (by omega) (by omega) hx.out).mono ?_
                    rintro e w' ⟨rfl, rfl⟩
                    have q5 := (hQ.out.box.alloc (.cells #[.bool true, .int .i64 x] 59)).cell 5 rfl
                    have q5' := hQ.out.box.cell 5 rfl
                    obtain ⟨i0, hi, hz0, hz1, hz2⟩ := info_parts infoUp
                    have hul := upL_len c p i'
                    go_wp2_with (at_builtin; refine wpList_append_own_at _ rfl (.tmp 160) (.tmp 163) 31 rfl w.heap.size 59 i0 (.agg #[.bool false, .int .i64 0]) 2 16 Try.underlying31 hi hz0 hz1 hz2 rfl (by decide) vu (upL c p i').length _ rfl (hQ.out.ups.alloc _) ⟨wu.heap.size, 0, none⟩ 1 1 [.bool true, .int .i64 x] rfl rfl ?c1 ?c2 ?c3 ?c4 ?c5 ?_)
                    case c1 => exact World.news_of_block (heap_alloc_new _ _)
                    case c2 => intro u hu; simp only [List.mem_cons, List.not_mem_nil, or_false] at hu; rcases hu with rfl | rfl <;> rfl
                    case c3 => simp only [maxLen]; omega
                    case c4 => omega
                    case c5 => have := hQ.out.bel.size; simp only [World.size_alloc]; omega
                    intro v' w' hown hg _ hat
                    obtain ⟨g5, cp5, rfl, -, -⟩ := hown.form (by omega)
                    obtain ⟨hQ5, bx⟩ := (hQ.out.later (show Below wu.heap.size wu (wu.alloc (.cells #[.bool true, .int .i64 x] 59)) from (Below.refl _ _).alloc (Nat.le_refl _) _)).appUp (N := [⟨true, x⟩]) (v' := .slice (some ⟨g5, 0, none⟩) (i' + 1) cp5) (by rw [List.length_append, upCells_append, hul]; exact hown) hg
                    have q2 := bx.cell 5 rfl
                    have f2 := bx.frozen 5
                    have hT1 : Hid (∃ vu, QSt w w.heap.size (w.heap.size + 1) (P0 : Int) vb kv KC (w'.setCell ⟨w.heap.size, 5, none⟩ (.slice (some ⟨g5, 0, none⟩) (i' + 1) cp5)) v1 (L3 ++ [pI 23 0 (1 + a2) 0]) vu (upL c p (i' + 1))) := by
                      refine ⟨.slice (some ⟨g5, 0, none⟩) (i' + 1) cp5, ?_⟩
                      rw [upL, hx.out]
                      exact hQ5
                    clear hown hg hat hi hz0 hz1 hz2 hQ5 bx q5 q5' hQ
                    go_wp2_with fail
                    go_roundw
                    case rel => exact ⟨i' + 1, by go_num, by omega, by simp; omega, hT1.out⟩
                    case measure => simp [intOf]; omega
                  · obtain rfl : i' = nu := by omega
                    obtain ⟨e0, e1, e2, e3, e4, e5, e6, e7, e8, e9⟩ := (show _ ∧ _ ∧ _ ∧ _ ∧ _ ∧ _ ∧ _ ∧ _ ∧ _ ∧ _ from ⟨hQ.box.cell 0 rfl, hQ.box.cell 1 rfl, hQ.box.cell 2 rfl, hQ.box.cell 3 rfl, hQ.box.cell 4 rfl, hQ.box.cell 5 rfl, hQ.box.cell 6 rfl, hQ.box.cell 7 rfl, hQ.box.cell 8 rfl, hQ.box.cell 9 rfl⟩)
                    clear hT
                    have hkc : kcL c p = KC := by rw [hKC]; unfold kcL; rw [haK.out, hbK.out]
                    have hKK := hK.out wu v1 vu (by rw [hP0, hcode.out, Int.toNat_natCast, hkc]; rw [hkv] at hQ; exact hQ)
                    rw [hP0, Int.toNat_natCast, show ((p + 4 + 4 * cnt c + i' : Nat) : Int) = (p : Int) + 4 + 4 * (cnt c : Int) + (i' : Int) by simp] at hKK
                    rw [hkv] at e6
                    go_wp2_with fail
                    refine Calls.mono hKK ?_
                    rintro e w' ⟨u, q, rfl, hR⟩
                    clear e0 e1 e2 e3 e4 e5 e6 e7 e8 e9 hKK
                    go_wp2_with fail
                    go_ret2
                    exact ⟨u, q, rfl, hR⟩
end Go.Proofs.Ytlkmohhkhcbiaaa

import Derived.Test.YtckapapejfnojaaGreatDoorStF
namespace Go.Proofs.YtckapapejfnojaaGreatDoor
open Go.RowKit
set_option linter.unusedVariables false
set_option linter.unusedSimpArgs false
theorem OwnProto.wider {w : World} {lo hi lo' hi' : Nat} {a3 a4 a5 a8 a9 : Value} {B3 B4 B5 B8 B9 : Nat} {p : PD} (h : OwnProto w lo hi a3 a4 a5 a8 a9 B3 B4 B5 B8 B9 p) (h1 : lo' ≤ lo) (h2 : hi ≤ hi') : OwnProto w lo' hi' a3 a4 a5 a8 a9 B3 B4 B5 B8 B9 p :=
  { h with
    r3 := fun hp => ⟨Nat.le_trans h1 (h.r3 hp).1, Nat.lt_of_lt_of_le (h.r3 hp).2 h2⟩
    r4 := fun hp => ⟨Nat.le_trans h1 (h.r4 hp).1, Nat.lt_of_lt_of_le (h.r4 hp).2 h2⟩
    r5 := fun hp => ⟨Nat.le_trans h1 (h.r5 hp).1, Nat.lt_of_lt_of_le (h.r5 hp).2 h2⟩
    r8 := fun hp => ⟨Nat.le_trans h1 (h.r8 hp).1, Nat.lt_of_lt_of_le (h.r8 hp).2 h2⟩
    r9 := fun hp => ⟨Nat.le_trans h1 (h.r9 hp).1, Nat.lt_of_lt_of_le (h.r9 hp).2 h2⟩ }
/-- the part of the new chunk that is made. -/
def MadeO (w : World) (B n i : Nat) (f : Nat → PD) : Prop :=
  ∃ (g : Nat → Value) (a : Nat → Nat → Value) (b : Nat → Nat → Nat) (rng : Nat → Nat), w.rowIs B 52 (n * 10) g ∧ Filled g 10 i (pC f (a 3) (a 4) (a 5) (a 8) (a 9)) ∧ B < rng 0 ∧ (∀ j, rng j ≤ rng (j + 1)) ∧ (∀ j, rng j ≤ w.heap.size) ∧
    ∀ j, j < i → OwnProto w (rng j) (rng (j + 1)) (a 3 j) (a 4 j) (a 5 j) (a 8 j) (a 9 j) (b 3 j) (b 4 j) (b 5 j) (b 8 j) (b 9 j) (f j)
theorem MadeO.call {w w' : World} {B n i : Nat} {f : Nat → PD} (h : MadeO w B n i f) (hb : Below w.heap.size w w') : MadeO w' B n i f := by
  obtain ⟨g, a, b, rng, h1, h2, h3, h4, h5, h6⟩ := h
  exact ⟨g, a, b, rng, h1.of_block (hb.block _ h1.lt), h2, h3, h4, fun j => Nat.le_trans (h5 j) hb.size, fun j hj => (h6 j hj).keep fun c _ _ hc => hb.block c hc⟩
theorem MadeO.lt {w : World} {B n i : Nat} {f : Nat → PD} (h : MadeO w B n i f) : B < w.heap.size := by
  obtain ⟨g, a, b, rng, h1, _⟩ := h
  exact h1.lt

theorem MadeO.step {wr w : World} {B n i : Nat} {f : Nat → PD} {b3 b4 b5 b8 b9 : Value} {B3 B4 B5 B8 B9 : Nat} (h0 : MadeO wr B n i f) (hb : Below wr.heap.size wr w) (hi : i < n) (hp : OwnProto w wr.heap.size w.heap.size b3 b4 b5 b8 b9 B3 B4 B5 B8 B9 (f i)) :
    MadeO ((((((((((w.setCell ⟨B, i * 10, none⟩ (.int .i64 (f i).params)).setCell ⟨B, i * 10 + 1, none⟩ (.bool (f i).vararg)).setCell ⟨B, i * 10 + 2, none⟩ (.int .i64 (f i).regs)).setCell ⟨B, i * 10 + 3, none⟩ (b3)).setCell ⟨B, i * 10 + 4, none⟩ (b4)).setCell ⟨B, i * 10 + 5, none⟩ (b5)).setCell ⟨B, i * 10 + 6, none⟩ (.int .i64 (f i).kids)).setCell ⟨B, i * 10 + 7, none⟩ (.string (f i).name)).setCell ⟨B, i * 10 + 8, none⟩ (b8)).setCell ⟨B, i * 10 + 9, none⟩ (b9)) B n (i + 1) f := by
  obtain ⟨g, a, b, rng, h1, h2, h3, h4, h5, h6⟩ := h0
  have hB := h1.lt
  replace h1 := h1.of_block (w' := w) (hb.block _ hB)
  replace h6 := fun j (hj : j < i) => (h6 j hj).keep (w' := w) fun c _ _ hc => hb.block c hc
  have hrow := ((((((((((h1.set (i * 10) (.int .i64 (f i).params)).set (i * 10 + 1) (.bool (f i).vararg)).set (i * 10 + 2) (.int .i64 (f i).regs)).set (i * 10 + 3) (b3)).set (i * 10 + 4) (b4)).set (i * 10 + 5) (b5)).set (i * 10 + 6) (.int .i64 (f i).kids)).set (i * 10 + 7) (.string (f i).name)).set (i * 10 + 8) (b8)).set (i * 10 + 9) (b9))
  have hkeep : ∀ c, c ≠ B → ((((((((((w.setCell ⟨B, i * 10, none⟩ (.int .i64 (f i).params)).setCell ⟨B, i * 10 + 1, none⟩ (.bool (f i).vararg)).setCell ⟨B, i * 10 + 2, none⟩ (.int .i64 (f i).regs)).setCell ⟨B, i * 10 + 3, none⟩ (b3)).setCell ⟨B, i * 10 + 4, none⟩ (b4)).setCell ⟨B, i * 10 + 5, none⟩ (b5)).setCell ⟨B, i * 10 + 6, none⟩ (.int .i64 (f i).kids)).setCell ⟨B, i * 10 + 7, none⟩ (.string (f i).name)).setCell ⟨B, i * 10 + 8, none⟩ (b8)).setCell ⟨B, i * 10 + 9, none⟩ (b9)).heap[c]? = w.heap[c]? := fun c hc => by
    rw [Below.heap_setCell _ _ _ _ hc, Below.heap_setCell _ _ _ _ hc, Below.heap_setCell _ _ _ _ hc, Below.heap_setCell _ _ _ _ hc, Below.heap_setCell _ _ _ _ hc, Below.heap_setCell _ _ _ _ hc, Below.heap_setCell _ _ _ _ hc, Below.heap_setCell _ _ _ _ hc, Below.heap_setCell _ _ _ _ hc, Below.heap_setCell _ _ _ _ hc]
  have hsize : ((((((((((w.setCell ⟨B, i * 10, none⟩ (.int .i64 (f i).params)).setCell ⟨B, i * 10 + 1, none⟩ (.bool (f i).vararg)).setCell ⟨B, i * 10 + 2, none⟩ (.int .i64 (f i).regs)).setCell ⟨B, i * 10 + 3, none⟩ (b3)).setCell ⟨B, i * 10 + 4, none⟩ (b4)).setCell ⟨B, i * 10 + 5, none⟩ (b5)).setCell ⟨B, i * 10 + 6, none⟩ (.int .i64 (f i).kids)).setCell ⟨B, i * 10 + 7, none⟩ (.string (f i).name)).setCell ⟨B, i * 10 + 8, none⟩ (b8)).setCell ⟨B, i * 10 + 9, none⟩ (b9)).heap.size = w.heap.size := by simp
  refine ⟨_, fun q k => if k = i then (if q = 3 then b3 else if q = 4 then b4 else if q = 5 then b5 else if q = 8 then b8 else b9) else a q k,
    fun q k => if k = i then (if q = 3 then B3 else if q = 4 then B4 else if q = 5 then B5 else if q = 8 then B8 else B9) else b q k,
    fun k => if k ≤ i then rng k else w.heap.size, hrow, ?_, by simpa using h3, ?_, ?_, ?_⟩
  · intro k hk j hj
    by_cases hki : k = i
    · subst hki
      rcases (show j = 0 ∨ j = 1 ∨ j = 2 ∨ j = 3 ∨ j = 4 ∨ j = 5 ∨ j = 6 ∨ j = 7 ∨ j = 8 ∨ j = 9 by omega) with rfl | rfl | rfl | rfl | rfl | rfl | rfl | rfl | rfl | rfl <;> simp [pC]
    · have := h2 k (by omega) j hj
      dsimp only
      rw [if_neg (show k * 10 + j ≠ i * 10 + 9 by omega)]
      rw [if_neg (show k * 10 + j ≠ i * 10 + 8 by omega)]
      rw [if_neg (show k * 10 + j ≠ i * 10 + 7 by omega)]
      rw [if_neg (show k * 10 + j ≠ i * 10 + 6 by omega)]
      rw [if_neg (show k * 10 + j ≠ i * 10 + 5 by omega)]
      rw [if_neg (show k * 10 + j ≠ i * 10 + 4 by omega)]
      rw [if_neg (show k * 10 + j ≠ i * 10 + 3 by omega)]
      rw [if_neg (show k * 10 + j ≠ i * 10 + 2 by omega)]
      rw [if_neg (show k * 10 + j ≠ i * 10 + 1 by omega)]
      rw [if_neg (show k * 10 + j ≠ i * 10 by omega)]
      rw [this]
      simp only [pC, if_neg hki]
  · intro j
    dsimp only
    by_cases hj : j + 1 ≤ i
    · rw [if_pos (by omega), if_pos hj]; exact h4 j
    · by_cases hj2 : j ≤ i
      · rw [if_pos hj2, if_neg hj]; exact Nat.le_trans (h5 j) hb.size
      · rw [if_neg hj2, if_neg hj]; exact Nat.le_refl _
  · intro j
    rw [hsize]
    dsimp only
    split
    · exact Nat.le_trans (h5 j) hb.size
    · exact Nat.le_refl _
  · intro j hj
    have hBr : ∀ c, B + 1 ≤ c → c ≠ B := fun c hc => by omega
    by_cases hji : j = i
    · subst hji
      simp only [if_true, if_pos (Nat.le_refl j), if_neg (show ¬ j + 1 ≤ j by omega), Nat.reduceEqDiff, if_false]
      exact (hp.keep fun c h1 _ _ => hkeep c (by omega)).wider (h5 j) (Nat.le_refl _)
    · simp only [if_neg hji, if_pos (show j ≤ i by omega), if_pos (show j + 1 ≤ i by omega)]
      refine (h6 j (by omega)).keep fun c h1 _ _ => hkeep c ?_
      have := rng_le h4 0 j (by omega)
      omega
set_option maxRecDepth 100000 in
set_option maxHeartbeats 2000000 in
theorem toProtoS_own (s : Sl PD) (v : Value) (w : World) (hv : IsProtos (· < w.heap.size) w v s) (hs : SmallC s) :
    Calls Tryz.prog 31 #[v] w fun e w' => (∃ v' B0 rng a b, e = .returned v' ∧ COwn w' v' s.n s.f w.heap.size w'.heap.size B0 rng a b) ∧ Below w.heap.size w w' := by
  obtain ⟨a3, a4, a5, a8, a9, ⟨ao, cap, rfl, hn, hc⟩, ht⟩ := hv
  obtain ⟨n, f⟩ := s
  obtain ⟨hs, hss⟩ := hs
  simp only at hn hc ht hs hss ⊢
  have hmk := run_make_rows 22 52 (.agg #[.int .i64 0, .bool false, .int .i64 0, .slice none 0 0, .slice none 0 0, .slice none 0 0, .int .i64 0, .string ⟨#[]⟩, .slice none 0 0, .slice none 0 0]) 10 168 Tryz.underlying22 (by kernel_rfl) n (by omega) hn
  go_enter Tryz.func31, Tryz.ntmps31
  go_wp2_with fail
  obtain ⟨g0, hg0⟩ := rowIs_madeW w (.agg #[.int .i64 0, .bool false, .int .i64 0, .slice none 0 0, .slice none 0 0, .slice none 0 0, .int .i64 0, .string ⟨#[]⟩, .slice none 0 0, .slice none 0 0]) n 10 52
  have bw0 := below_madeW w (.agg #[.int .i64 0, .bool false, .int .i64 0, .slice none 0 0, .slice none 0 0, .slice none 0 0, .int .i64 0, .string ⟨#[]⟩, .slice none 0 0, .slice none 0 0]) n 10 52
  generalize madeW w (.agg #[.int .i64 0, .bool false, .int .i64 0, .slice none 0 0, .slice none 0 0, .slice none 0 0, .int .i64 0, .string ⟨#[]⟩, .slice none 0 0, .slice none 0 0]) n 10 52 = w0 at hg0 bw0 ⊢
  clear hmk
  go_loopw [4] (fun i wr => ∃ (i' : Nat), i = .int .i64 i' ∧ i' ≤ n ∧ Below w.heap.size w wr ∧ Hid (MadeO wr w.heap.size n i' f)) (fun i _ => n - (intOf i).toNat)
  case atStart => exact ⟨0, rfl, by omega, bw0, g0, fun _ => a3, fun _ _ => 0, fun _ => w0.heap.size, hg0, fun i hi => by omega, hg0.lt, fun _ => Nat.le_refl _, fun _ => Nat.le_refl _, fun i hi => by omega⟩
  case round =>
    obtain ⟨i', rfl, q3, q4, q5⟩ := hrel
    by_cases hi : i' < n
    · obtain ⟨b, o, rfl, hb, hcc⟩ := hc (by omega)
      have hbl : b < w.heap.size := hb
      have hne : b ≠ w.heap.size := by omega
      have c0 := hcc i' hi 0 (by omega)
      have c1 := hcc i' hi 1 (by omega)
      have c2 := hcc i' hi 2 (by omega)
      have c3 := hcc i' hi 3 (by omega)
      have c4 := hcc i' hi 4 (by omega)
      have c5 := hcc i' hi 5 (by omega)
      have c6 := hcc i' hi 6 (by omega)
      have c7 := hcc i' hi 7 (by omega)
      have c8 := hcc i' hi 8 (by omega)
      have c9 := hcc i' hi 9 (by omega)
      rw [← q4.cell (p := ⟨b, _, none⟩) hb] at c0 c1 c2 c3 c4 c5 c6 c7 c8 c9
      simp only [Nat.add_zero, Nat.mul_one, pC] at c0 c1 c2 c3 c4 c5 c6 c7 c8 c9
      have hti : IsProto (· < wr.heap.size) wr (a3 i') (a4 i') (a5 i') (a8 i') (a9 i') (f i') := (ht i' hi).later q4
      have hsi := hss i' hi
      have hBlt : w.heap.size < wr.heap.size := q5.out.lt
      clear hcc hc ht hss
      go_wp2_with fail
      refine (toProto_own (f i') (a3 i') (a4 i') (a5 i') (a8 i') (a9 i') _ hti hsi).mono ?_
      rintro e w1 ⟨b3, b4, b5, b8, b9, B3, B4, B5, B8, B9, rfl, hp, b1⟩
      have hb1 : Below w.heap.size w w1 := q4.trans (b1.mono q4.size)
      have q6 : Hid (MadeO wr w.heap.size n i' f) := q5.out
      have b1' : Hid (Below wr.heap.size wr w1) := b1
      have hp' : Hid (OwnProto w1 wr.heap.size w1.heap.size b3 b4 b5 b8 b9 B3 B4 B5 B8 B9 (f i')) := hp
      obtain ⟨x3, y3, rfl, -, -⟩ := hp.o3
      obtain ⟨x4, y4, rfl, -, -⟩ := hp.o4
      obtain ⟨x5, y5, rfl, -, -⟩ := hp.o5
      obtain ⟨x8, y8, rfl, -, -⟩ := hp.o8
      obtain ⟨x9, y9, rfl, -, -⟩ := hp.o9
      clear c0 c1 c2 c3 c4 c5 c6 c7 c8 c9 hti hsi q5 hp
      unfold pAgg
      obtain ⟨g, -, -, -, hrow, -⟩ := id (q6.out.call b1)
      clear b1
      have d0 := hrow.cell (lt_mul_of (z := 10) hi (show 0 < 10 by omega))
      have e0 := hrow.frozen (i' * 10 + 0)
      have d1 := hrow.cell (lt_mul_of (z := 10) hi (show 1 < 10 by omega))
      have e1 := hrow.frozen (i' * 10 + 1)
      have d2 := hrow.cell (lt_mul_of (z := 10) hi (show 2 < 10 by omega))
      have e2 := hrow.frozen (i' * 10 + 2)
      have d3 := hrow.cell (lt_mul_of (z := 10) hi (show 3 < 10 by omega))
      have e3 := hrow.frozen (i' * 10 + 3)
      have d4 := hrow.cell (lt_mul_of (z := 10) hi (show 4 < 10 by omega))
      have e4 := hrow.frozen (i' * 10 + 4)
      have d5 := hrow.cell (lt_mul_of (z := 10) hi (show 5 < 10 by omega))
      have e5 := hrow.frozen (i' * 10 + 5)
      have d6 := hrow.cell (lt_mul_of (z := 10) hi (show 6 < 10 by omega))
      have e6 := hrow.frozen (i' * 10 + 6)
      have d7 := hrow.cell (lt_mul_of (z := 10) hi (show 7 < 10 by omega))
      have e7 := hrow.frozen (i' * 10 + 7)
      have d8 := hrow.cell (lt_mul_of (z := 10) hi (show 8 < 10 by omega))
      have e8 := hrow.frozen (i' * 10 + 8)
      have d9 := hrow.cell (lt_mul_of (z := 10) hi (show 9 < 10 by omega))
      have e9 := hrow.frozen (i' * 10 + 9)
      simp only [Nat.add_zero] at d0 e0 d1 e1 d2 e2 d3 e3 d4 e4 d5 e5 d6 e6 d7 e7 d8 e8 d9 e9
      clear hrow
      go_wp2_with fail
      go_roundw
      case rel =>
        refine ⟨i' + 1, rfl, by omega, ?_, ?_⟩
        · exact ((((((((((hb1.setCell (p := ⟨w.heap.size, i' * 10, none⟩) (Nat.le_refl _) (.int .i64 (f i').params)).setCell (p := ⟨w.heap.size, i' * 10 + 1, none⟩) (Nat.le_refl _) (.bool (f i').vararg)).setCell (p := ⟨w.heap.size, i' * 10 + 2, none⟩) (Nat.le_refl _) (.int .i64 (f i').regs)).setCell (p := ⟨w.heap.size, i' * 10 + 3, none⟩) (Nat.le_refl _) (.slice x3 (f i').code.n y3)).setCell (p := ⟨w.heap.size, i' * 10 + 4, none⟩) (Nat.le_refl _) (.slice x4 (f i').consts.n y4)).setCell (p := ⟨w.heap.size, i' * 10 + 5, none⟩) (Nat.le_refl _) (.slice x5 (f i').ups.n y5)).setCell (p := ⟨w.heap.size, i' * 10 + 6, none⟩) (Nat.le_refl _) (.int .i64 (f i').kids)).setCell (p := ⟨w.heap.size, i' * 10 + 7, none⟩) (Nat.le_refl _) (.string (f i').name)).setCell (p := ⟨w.heap.size, i' * 10 + 8, none⟩) (Nat.le_refl _) (.slice x8 (f i').lines.n y8)).setCell (p := ⟨w.heap.size, i' * 10 + 9, none⟩) (Nat.le_refl _) (.slice x9 (f i').upNames.n y9))
        · exact q6.out.step b1'.out hi hp'.out
      case measure => simp [intOf]; omega
    · obtain rfl : i' = n := by omega
      obtain ⟨g, aa, bb, rng, h1, h2, h3, h4, h5, h6⟩ := id q5.out
      have hfin : Hid (COwn wr (.slice (some ⟨w.heap.size, 0, none⟩) i' i') i' f w.heap.size wr.heap.size w.heap.size (fun j => rng ((j + 1) / 2)) aa bb) := by
        refine ⟨ownArr_of_row h1 h2 hn, Nat.le_refl _, ⟨?_, fun i hi => .inl ?_⟩, fun j => rng_le h4 _ _ (by omega), h5 _, fun i hi => ?_⟩
        · show w.heap.size ≤ rng ((0 + 1) / 2)
          exact Nat.le_of_lt h3
        · show w.heap.size < rng ((2 * i + 1) / 2)
          exact Nat.lt_of_lt_of_le h3 (rng_le h4 _ _ (by omega))
        · have := h6 i hi
          rwa [show (2 * i + 1) / 2 = i by omega, show (2 * i + 1 + 1) / 2 = i + 1 by omega]
      clear h1 h2 h3 h4 h5 h6 q5
      go_wp2_with fail
      go_ret
      exact ⟨⟨_, _, _, _, _, rfl, hfin.out⟩, q4⟩

theorem toChunk_own (s : Sl PD) (v : Value) (w : World) (hv : IsProtos (· < w.heap.size) w v s) (hs : SmallC s) :
    Calls Tryz.prog 13 #[.agg #[v]] w fun e w' => (∃ v' lo B0 rng a b, e = .returned (.agg #[v']) ∧ w.heap.size ≤ lo ∧ COwn w' v' s.n s.f lo w'.heap.size B0 rng a b) ∧ Below w.heap.size w w' := by
  have hv' := hv
  obtain ⟨a3, a4, a5, a8, a9, ⟨ao, cap, rfl, hn, hc⟩, ht⟩ := hv
  clear hc ht
  go_enter Tryz.func13, Tryz.ntmps13
  go_wp2_with fail
  have R1 : RowL (((w.alloc (.cells #[.slice ao s.n cap] 32)).alloc (.cells #[.slice none 0 0] 24)).alloc (.cells #[.slice none 0 0] 24)) (w.heap.size + 1) 24 [.slice none 0 0] := by
    have := (RowL.new (w.alloc (.cells #[.slice ao s.n cap] 32)) [.slice none 0 0] 24).alloc (.cells #[.slice none 0 0] 24)
    rwa [World.size_alloc] at this
  have R2 : RowL (((w.alloc (.cells #[.slice ao s.n cap] 32)).alloc (.cells #[.slice none 0 0] 24)).alloc (.cells #[.slice none 0 0] 24)) (w.heap.size + 2) 24 [.slice none 0 0] := by
    have := RowL.new ((w.alloc (.cells #[.slice ao s.n cap] 32)).alloc (.cells #[.slice none 0 0] 24)) [.slice none 0 0] 24
    rwa [World.size_alloc, World.size_alloc] at this
  have bw : Below w.heap.size w (((w.alloc (.cells #[.slice ao s.n cap] 32)).alloc (.cells #[.slice none 0 0] 24)).alloc (.cells #[.slice none 0 0] 24)) := by go_grown
  have sz : w.heap.size + 3 ≤ (((w.alloc (.cells #[.slice ao s.n cap] 32)).alloc (.cells #[.slice none 0 0] 24)).alloc (.cells #[.slice none 0 0] 24)).heap.size := by simp
  generalize ((w.alloc (.cells #[.slice ao s.n cap] 32)).alloc (.cells #[.slice none 0 0] 24)).alloc (.cells #[.slice none 0 0] 24) = wx at R1 R2 bw sz ⊢
  refine (toProtoS_own s _ _ (hv'.later bw) hs).mono ?_
  rintro e y ⟨⟨v, B0, rng, aa, bb, rfl, hp⟩, b1⟩
  replace R1 := R1.call b1
  replace R2 := R2.call b1
  replace bw := bw.trans (b1.mono bw.size)
  have hp' : Hid (COwn y v s.n s.f wx.heap.size y.heap.size B0 rng aa bb) := hp
  obtain ⟨⟨ao', cap', rfl, -, -⟩, -, -, -, -, -⟩ := hp
  have x0 := R2.cell 0 rfl
  have z0 := R2.frozen 0
  have o0 := R1.cell 0 rfl
  have f0 := R1.frozen 0
  go_wp2_with fail
  refine bodyPost_ret (v := .agg #[.slice ao' s.n cap']) (by simp [results, Tryz.results13, go_sem, o0]) rfl ⟨⟨_, wx.heap.size, B0, rng, aa, bb, rfl, by omega, ?_⟩, ?_⟩
  · have hk : ∀ c, w.heap.size + 3 ≤ c → ((y.setCell ⟨w.heap.size + 2, 0, none⟩ (.slice ao' s.n cap')).setCell ⟨w.heap.size + 1, 0, none⟩ (.slice ao' s.n cap')).heap[c]? = y.heap[c]? := fun c hc => by
      rw [Below.heap_setCell _ _ _ _ (by show c ≠ w.heap.size + 1; omega), Below.heap_setCell _ _ _ _ (by show c ≠ w.heap.size + 2; omega)]
    obtain ⟨c1, c2, c3, c4, c5, c6⟩ := hp'.out
    refine ⟨c1.keep fun _ => hk _ (by omega), c2, c3, c4, by simpa using c5, fun i hi => (c6 i hi).keep fun c h1 _ _ => hk _ ?_⟩
    have := rng_le c4 0 (2 * i) (by omega)
    have := c3.1
    omega
  · exact (bw.setCell (p := ⟨w.heap.size + 2, 0, none⟩) (by simp) _).setCell (p := ⟨w.heap.size + 1, 0, none⟩) (by simp) _
end Go.Proofs.YtckapapejfnojaaGreatDoor

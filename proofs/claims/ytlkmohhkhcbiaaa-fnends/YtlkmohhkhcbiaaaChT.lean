import Derived.Test.YtlkmohhkhcbiaaaChQ
namespace Go.Proofs.Ytlkmohhkhcbiaaa
open Go.RowKit Go.Shelf
set_option linter.unusedVariables false
set_option linter.unusedSimpArgs false
attribute [local go_sem] Oper.semAt_some

theorem Fo.within_le {K : Nat → Int} {n k i e h : Nat} (t : Fo K n k i e h) : ∀ j, i ≤ j → j < e → ∃ e' h', Fo K n 1 j e' h' ∧ h' ≤ h := by
  induction t with
  | nil => intro j h1 h2; omega
  | @cons k i m e h1 h2 hi hk t1 t2 ih1 ih2 =>
    intro j hj he
    by_cases hji : j = i
    · subst hji; exact ⟨m, h1 + 1, Fo.mk1 hi hk t1, by omega⟩
    · by_cases hjm : j < m
      · obtain ⟨e', h', u, hu⟩ := ih1 j (by omega) hjm
        exact ⟨e', h', u, by omega⟩
      · obtain ⟨e', h', u, hu⟩ := ih2 j (by omega) he
        exact ⟨e', h', u, by omega⟩
/-- what End answers. -/
def EndD (s : Sl PD) (i r : Int) : Prop := (Wf s ∧ ∃ k : Nat, k < s.n ∧ i = (k : Int) ∧ r = (EE (kidsOf s) s.n k : Int)) ∨ (r = -1 ∧ ¬ (Wf s ∧ 0 ≤ i ∧ i < (s.n : Int)))
theorem EndD.det {s : Sl PD} {i r r' : Int} (h : EndD s i r) (h' : EndD s i r') : r = r' := by
  rcases h with ⟨w, k, hk, rfl, rfl⟩ | ⟨rfl, hn⟩ <;> rcases h' with ⟨w', k', hk', he, rfl⟩ | ⟨rfl, hn'⟩
  · obtain rfl : k = k' := by omega
    rfl
  · exact absurd ⟨w, by omega, by omega⟩ hn'
  · exact absurd ⟨w', by omega, by omega⟩ hn
  · rfl

set_option maxRecDepth 100000 in
set_option maxHeartbeats 2000000 in
theorem specEnd_in (s : Sl PD) (v : Value) (i : Int) (w : World) (hv : IsProtos (· < w.heap.size) w v s) :
    Calls Try.prog 5 #[.agg #[v], .int .i64 i] w fun e w' => (∃ r, e = .returned (.int .i64 r) ∧ EndD s i r) ∧ Below w.heap.size w w' := by
  have hv' : Hid (IsProtos (· < w.heap.size) w v s) := hv
  have hkids : Hid (∀ y, Below w.heap.size w y → ∀ ao cap, v = .slice ao s.n cap → 0 < s.n → ∃ b o, ao = some ⟨b, o, none⟩ ∧ ∀ i, i < s.n → y.cell? ⟨b, o + i * 10 + 6, none⟩ = some (.int .i64 (kidsOf s i))) := fun y hy ao cap he hp => by
    subst he
    obtain ⟨b, o, e, hb, hcc⟩ := hv.kids hp
    exact ⟨b, o, e, fun i hi => (hy.cell (p := ⟨b, _, none⟩) hb).trans (hcc i hi)⟩
  obtain ⟨-, -, -, -, -, ⟨ao, cap, rfl, hn, -⟩, -⟩ := hv
  go_enter Try.func5, Try.ntmps5
  go_wp2_with fail
  have R0 := RowL.new w [.slice ao s.n cap] 25
  have bw : Below w.heap.size w (w.alloc (.cells #[.slice ao s.n cap] 25)) := by go_grown
  generalize w.alloc (.cells #[.slice ao s.n cap] 25) = w0 at R0 bw ⊢
  refine (specWF_in s _ _ (hv'.out.later bw)).mono ?_
  rintro e y ⟨⟨r, rfl, hr⟩, b1⟩
  replace R0 := R0.call b1
  replace bw := bw.trans (b1.mono bw.size)
  clear b1
  have r0 := R0.cell 0 rfl
  obtain rfl | rfl : r = false ∨ r = true := by cases r <;> simp
  · have hno : Hid (EndD s i (-1)) := .inr ⟨rfl, fun h => by simpa using hr.2 h.1⟩
    clear hr hkids hv'
    go_wp2_with fail
    go_ret
    exact ⟨⟨_, rfl, hno.out⟩, bw⟩
  have hwf : Hid (Wf s) := hr.1 rfl
  clear hr
  by_cases h0 : i < 0
  · have hno : Hid (EndD s i (-1)) := .inr ⟨rfl, fun h => by omega⟩
    clear hkids hv'
    go_wp2_with fail
    go_ret
    exact ⟨⟨_, rfl, hno.out⟩, bw⟩
  by_cases h1 : (s.n : Int) ≤ i
  · have hno : Hid (EndD s i (-1)) := .inr ⟨rfl, fun h => by omega⟩
    clear hkids hv'
    go_wp2_with fail
    go_ret
    exact ⟨⟨_, rfl, hno.out⟩, bw⟩
  obtain ⟨k, rfl⟩ : ∃ k : Nat, i = (k : Int) := ⟨i.toNat, by omega⟩
  have hE := l2End_in ao s.n cap (kidsOf s) y hn (hkids.out y bw ao cap rfl) s.n k 0 (by omega) (by omega) (by omega)
  clear hkids hv'
  go_wp2_with fail
  refine hE.mono ?_
  rintro e w1 ⟨⟨r, rfl, hr⟩, rfl⟩
  have hyes : Hid (EndD s (k : Int) r) := by
    refine .inl ⟨hwf.out, k, by omega, rfl, ?_⟩
    obtain ⟨g, t, hg⟩ := hwf.out.tree
    obtain ⟨e', h', u, hu⟩ := t.within_le k (by omega) (by omega)
    rcases hr with ⟨e2, h2, t2, hh, rfl⟩ | ⟨rfl, hno⟩
    · rw [EE_eq t2]
    · have := hno _ _ u
      omega
  clear hr hE
  go_wp2_with fail
  go_ret
  exact ⟨⟨_, rfl, hyes.out⟩, bw⟩

/-- between two rounds of End. -/
def EnI (s : Sl PD) (i : Int) (w : World) (pre : List (Fin s.n)) (W : World) : Prop :=
  (RowL W (w.heap.size + 1) 3 [.int .i64 i] ∧ RowL W (w.heap.size + 1 + 1) 3 [.int .i64 0]) ∧ Below w.heap.size w W ∧ ∀ x ∈ pre, ¬ (x.val : Int) = i
def EnX (s : Sl PD) (i : Int) (w : World) (c : Code) (pre : List (Fin s.n)) (W : World) : Prop :=
  c = .ret ∧ Below w.heap.size w W ∧ ∃ x : Fin s.n, (x.val : Int) = i ∧ RowL W (w.heap.size + 1 + 1) 3 [.int .i64 (EE (kidsOf s) s.n x.val : Int)]
theorem EnI.stable (s : Sl PD) (i : Int) (w : World) {B : Nat} (hB : w.heap.size + 3 ≤ B) : Stable B (EnI s i w) := fun pre A C h hb =>
  ⟨⟨h.1.1.below hb (by omega), h.1.2.below hb (by omega)⟩, h.2.1.trans (hb.mono (by omega)), h.2.2⟩
theorem EnX.stable (s : Sl PD) (i : Int) (w : World) {B : Nat} (hB : w.heap.size + 3 ≤ B) (c : Code) : Stable B (EnX s i w c) := fun pre A C h hb => by
  obtain ⟨h1, h2, x, hx, h3⟩ := h
  exact ⟨h1, h2.trans (hb.mono (by omega)), x, hx, h3.below hb (by omega)⟩

set_option maxRecDepth 100000 in
set_option maxHeartbeats 4000000 in
theorem implEnd_in (s : Sl PD) (v : Value) (i : Int) (w : World) (hv : IsProtos (· < w.heap.size) w v s) :
    Calls Try.prog 6 #[.agg #[v], .int .i64 i] w fun e w' => (∃ r, e = .returned (.int .i64 r) ∧ EndD s i r) ∧ Below w.heap.size w w' := by
  have hv' : Hid (IsProtos (· < w.heap.size) w v s) := hv
  have hkids : Hid (∀ ao cap, v = .slice ao s.n cap → 0 < s.n → ∃ b o, ao = some ⟨b, o, none⟩ ∧ b < w.heap.size ∧ ∀ i, i < s.n → w.cell? ⟨b, o + i * 10 + 6, none⟩ = some (.int .i64 (kidsOf s i))) := fun ao cap he hp => by
    subst he
    exact hv.kids hp
  obtain ⟨-, -, -, -, -, ⟨ao, cap, rfl, hn, -⟩, -⟩ := hv
  obtain ⟨m, hm⟩ : ∃ m, 8 ≤ m := ⟨8, by omega⟩
  refine (callsIn_wide (n := m)).1 ?_
  refine callsIn_of_wp_marks Try.func6 rfl trivial ?_ rfl
  simp only [Try.ntmps6, List.size_toArray, List.length_cons, List.length_nil, Nat.reduceAdd, Nat.reduceSub, Array.replicate_succ, Array.replicate_zero, List.push_toArray, List.append_toArray, List.nil_append, List.cons_append]
  gi_wp2_with fail
  have Q0 : RowL (((w.alloc (.cells #[.slice ao s.n cap] 25)).alloc (.cells #[.int .i64 i] 3)).alloc (.cells #[.int .i64 0] 3)) w.heap.size 25 [.slice ao s.n cap] := ((RowL.new w _ 25).alloc _).alloc _
  have Q1 : RowL (((w.alloc (.cells #[.slice ao s.n cap] 25)).alloc (.cells #[.int .i64 i] 3)).alloc (.cells #[.int .i64 0] 3)) (w.heap.size + 1) 3 [.int .i64 i] := by
    have := (RowL.new (w.alloc (.cells #[.slice ao s.n cap] 25)) [.int .i64 i] 3).alloc (.cells #[.int .i64 0] 3)
    rwa [World.size_alloc] at this
  have Q2 : RowL (((w.alloc (.cells #[.slice ao s.n cap] 25)).alloc (.cells #[.int .i64 i] 3)).alloc (.cells #[.int .i64 0] 3)) (w.heap.size + 1 + 1) 3 [.int .i64 0] := by
    have := RowL.new ((w.alloc (.cells #[.slice ao s.n cap] 25)).alloc (.cells #[.int .i64 i] 3)) [.int .i64 0] 3
    rwa [World.size_alloc, World.size_alloc] at this
  have bw : Below w.heap.size w (((w.alloc (.cells #[.slice ao s.n cap] 25)).alloc (.cells #[.int .i64 i] 3)).alloc (.cells #[.int .i64 0] 3)) := by go_grown
  generalize ((w.alloc (.cells #[.slice ao s.n cap] 25)).alloc (.cells #[.int .i64 i] 3)).alloc (.cells #[.int .i64 0] 3) = w3 at Q0 Q1 Q2 bw ⊢
  refine ⟨trivial, fun _ => by omega, ?_⟩
  refine (callsIn_wide.2 (implWF_in s _ _ (hv'.out.later bw))).mono ?_
  rintro e y ⟨⟨r, rfl, hr⟩, b1⟩
  replace Q0 := Q0.call b1
  replace Q1 := Q1.call b1
  replace Q2 := Q2.call b1
  replace bw := bw.trans (b1.mono bw.size)
  clear b1
  have q0 := Q0.cell 0 rfl
  have q2 := Q2.cell 0 rfl
  have f2 := Q2.frozen 0
  obtain rfl | rfl : r = false ∨ r = true := by cases r <;> simp
  · have hno : Hid (EndD s i (-1)) := .inr ⟨rfl, fun h => by simpa using hr.2 h.1⟩
    have S2 := Q2.set 0 (.int .i64 (-1))
    have hfin := S2.cell 0 rfl
    clear hr hkids hv' Q0 Q1 Q2 S2
    gi_wp2
    exact ⟨.int .i64 (-1), by simp [results, Try.results6, go_sem, hfin], ⟨_, rfl, hno.out⟩, bw.setCell (p := ⟨w.heap.size + 1 + 1, 0, none⟩) (by show w.heap.size ≤ w.heap.size + 1 + 1; omega) _⟩
  have hwf : Hid (Wf s) := hr.1 rfl
  clear hr q2 f2
  gi_wp2_with fail
  refine ⟨trivial, fun _ => by omega, ?_⟩
  refine (callsIn_wide.2 (nodes_in ao s.n cap _)).mono ?_
  rintro e w1 ⟨rfl, rfl⟩
  gi_wp2_with fail
  have R3 := RowL.new y [.slice ao s.n cap] 23
  have R1 := Q1.alloc (.cells #[.slice ao s.n cap] 23)
  have R2 := Q2.alloc (.cells #[.slice ao s.n cap] 23)
  have hy3 : w.heap.size + 3 ≤ y.heap.size := by
    have := Q2.lt
    omega
  have bw' : Below w.heap.size w (y.alloc (.cells #[.slice ao s.n cap] 23)) := bw.alloc (by omega) _
  have sz : (y.alloc (.cells #[.slice ao s.n cap] 23)).heap.size = y.heap.size + 1 := by simp
  clear Q0 Q1 Q2 q0
  generalize y.alloc (.cells #[.slice ao s.n cap] 23) = w0 at R1 R2 R3 bw' sz ⊢
  have hlow := hwf.out.low
  have hhigh := hwf.out.high
  refine range_law (gf := 21) (lb := #[.pointer (some ⟨y.heap.size, 0, none⟩)]) rfl (enters_of Try.func21 (by kernel_rfl) rfl) (by omega) (encs := fun x : Fin s.n => #[nodeV (kidsOf s) s.n x]) (fun _ => rfl) (lo := w.heap.size) (N := s.n) (by omega)
    (S := fun ys => ys = nodeSeq (kidsOf s) s.n) (Sp := fun pre => pre <+: nodeSeq (kidsOf s) s.n ∧ pre ≠ []) (EnI s i w) (EnX s i w) (EnI.stable _ _ _ (by omega)) (EnX.stable _ _ _ (by omega))
    ⟨⟨R1, R2⟩, bw', by simp⟩ ?seq
    (fun x a' W => ∃ Bx, w0.heap.size + 2 ≤ Bx ∧ RowL W Bx 47 [.int .i64 (x.val : Int), .int .i64 (depth (EE (kidsOf s) s.n) x.val : Int), .int .i64 (EE (kidsOf s) s.n x.val : Int)] ∧ a' = { tmps := #[.agg #[.slice ao s.n cap], .int .i64 i, .pointer (some ⟨w.heap.size, 0, none⟩), .pointer (some ⟨w.heap.size + 1, 0, none⟩), .pointer (some ⟨w.heap.size + 1 + 1, 0, none⟩), .pointer (some ⟨Bx, 0, none⟩), .agg #[.slice ao s.n cap], .bool true, .bool false, .pointer (some ⟨w.heap.size, 0, none⟩), .slice ao s.n cap, .func (.func 21) #[] #[.pointer (some ⟨y.heap.size, 0, none⟩)], .agg #[.int .i64 (x.val : Int), .int .i64 (depth (EE (kidsOf s) s.n) x.val : Int), .int .i64 (EE (kidsOf s) s.n x.val : Int)], undef, undef, undef, undef, undef, undef], defers := [] })
    (fun x a' W o hA => by obtain ⟨Bx, h1, h2, h3⟩ := hA; exact ⟨Bx, h1, h2.putOther (by omega) o, h3⟩)
    ?assign ?body ?done ?stop
  case seq =>
    intro W hW hb
    refine nodes1_in (m - 1) (kidsOf s) s.n cap ao w.heap.size _ _ W (by omega) (by omega) (by omega) ((R3.below hb (by omega)).cell 0 rfl) (fun hp => ?_)
    obtain ⟨b, o, e, hb', hcc⟩ := hkids.out ao cap rfl hp
    exact ⟨b, o, e, hb', fun i hi => (hb.cell (p := ⟨b, _, none⟩) (by show b < w0.heap.size; omega)).trans ((bw'.cell (p := ⟨b, _, none⟩) hb').trans (hcc i hi))⟩
  case assign =>
    rintro l pre x W K hsz hI hK
    simp only [nodeV]
    gi_wp2
    refine hK _ _ (Keep.of_below ((Below.refl _ W).alloc (Nat.le_refl _) _)) ((EnI.stable s i w (Nat.le_refl _)) _ _ _ hI ((Below.refl _ W).alloc (by omega) _)) ⟨W.heap.size, by omega, RowL.new W _ 47, rfl⟩
  case body =>
    rintro l pre x a' W hsz ⟨⟨S1, S2⟩, hB, hall⟩ ⟨Bx, hBx, RX, rfl⟩ hlt
    have x0 := RX.cell 0 rfl
    have x2 := RX.cell 2 rfl
    have s1 := S1.cell 0 rfl
    have s2 := S2.cell 0 rfl
    have f2 := S2.frozen 0
    by_cases hxi : (x.val : Int) = i
    · have hX : Hid (EnX s i w .ret (pre ++ [x]) (W.setCell ⟨w.heap.size + 1 + 1, 0, none⟩ (.int .i64 (EE (kidsOf s) s.n x.val : Int)))) :=
        ⟨rfl, hB.setCell (p := ⟨w.heap.size + 1 + 1, 0, none⟩) (by show w.heap.size ≤ w.heap.size + 1 + 1; omega) _, x, hxi, S2.set 0 _⟩
      have hxe : ((x.val : Int) == i) = true := by simpa using hxi
      clear hall S1 S2 RX R1 R2 R3 hxi
      gi_wp2
      exact ⟨Keep.setCell _ (by show w.heap.size ≤ w.heap.size + 1 + 1; omega) (by show w.heap.size + 1 + 1 < w0.heap.size; omega) _, hX.out⟩
    · have hN : Hid (EnI s i w (pre ++ [x]) W) := by
        refine ⟨⟨S1, S2⟩, hB, fun z hz => ?_⟩
        rcases List.mem_append.1 hz with hz | hz
        · exact hall z hz
        · obtain rfl : z = x := by simpa using hz
          exact hxi
      have hxe : ((x.val : Int) == i) = false := by simpa using hxi
      clear hall S1 S2 RX R1 R2 R3 hxi
      gi_wp2
      exact ⟨Keep.refl _ _ _, hN.out⟩
  case done =>
    rintro D ys W hD rfl ⟨⟨S1, S2⟩, hB, hall⟩ hK
    have s2 := S2.cell 0 rfl
    have f2 := S2.frozen 0
    have hseq : nodeSeq (kidsOf s) s.n = List.finRange s.n := if_pos (wf_tree hwf.out)
    rw [hseq] at hall
    have hno : Hid (EndD s i (-1)) := .inr ⟨rfl, fun h => hall ⟨i.toNat, by omega⟩ (List.mem_finRange _) (by show ((i.toNat : Nat) : Int) = i; omega)⟩
    have S2' := S2.set 0 (.int .i64 (-1))
    have hK' : (W.setCell ⟨w.heap.size + 1 + 1, 0, none⟩ (.int .i64 (-1))).heap[D]? = some (.deferred (some [])) := (Below.heap_setCell _ _ _ _ (by show D ≠ w.heap.size + 1 + 1; omega)).trans hK
    clear hall hseq S1 S2 hkids hv' R1 R2 R3
    gi_wp2
    refine ⟨by simp, .inl ⟨_, _, rfl, run_takeDeferred hK', ?_⟩⟩
    have hfin := (S2'.putOther (l := D) (by omega) (.deferred none)).cell 0 rfl
    refine ⟨.int .i64 (-1), by simp [results, Try.results6, go_sem, hfin], ⟨_, rfl, hno.out⟩, ?_⟩
    exact (hB.setCell (p := ⟨w.heap.size + 1 + 1, 0, none⟩) (by show w.heap.size ≤ w.heap.size + 1 + 1; omega) _).trans (below_putObj _ (by omega) (Array.getElem?_eq_some_iff.1 hK').1 _)
  case stop =>
    rintro D c pre W hD hpre ⟨rfl, hB, x, hxi, S2⟩ hK
    have hyes : Hid (EndD s i (EE (kidsOf s) s.n x.val : Int)) := .inl ⟨hwf.out, x.val, x.isLt, hxi.symm, rfl⟩
    clear hkids hv' R1 R2 R3
    gi_wp2
    refine ⟨by simp, .inl ⟨_, _, rfl, run_takeDeferred hK, ?_⟩⟩
    have hfin := (S2.putOther (l := D) (by omega) (.deferred none)).cell 0 rfl
    refine ⟨.int .i64 (EE (kidsOf s) s.n x.val : Int), by simp [results, Try.results6, go_sem, hfin], ⟨_, rfl, hyes.out⟩, ?_⟩
    exact hB.trans (below_putObj _ (by omega) (Array.getElem?_eq_some_iff.1 hK).1 _)
end Go.Proofs.Ytlkmohhkhcbiaaa

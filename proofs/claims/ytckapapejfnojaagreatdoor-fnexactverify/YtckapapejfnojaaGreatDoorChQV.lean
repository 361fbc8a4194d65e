import Derived.Test.YtckapapejfnojaaGreatDoorGDV
import Derived.Test.YtckapapejfnojaaGreatDoorChMV
namespace Go.Proofs.YtckapapejfnojaaGreatDoor
open Go.RowKit Go.Shelf
set_option linter.unusedVariables false
set_option linter.unusedSimpArgs false
attribute [local go_sem] Oper.semAt_some

theorem nodes_in (ao : Option Addr) (n cap : Nat) (w : World) :
    Calls Tryz.prog 74 #[.slice ao n cap] w fun e w' => e = .returned (.func (.func 149) #[] #[.pointer (some ⟨w.heap.size, 0, none⟩)]) ∧ w.alloc (.cells #[.slice ao n cap] 22) = w' := by
  go_enter Tryz.func74, Tryz.ntmps74
  go_wp2_with fail
  go_ret
  exact ⟨rfl, rfl⟩
theorem RowL.below {B : Nat} {w w' : World} {b : Nat} {t : TypeId} {L : List Value} (h : RowL w b t L) (hb : Below B w w') (hlt : b < B) : RowL w' b t L := World.rowIs.of_block h (hb.block _ hlt)
theorem RowL.lt {w : World} {b : Nat} {t : TypeId} {L : List Value} (h : RowL w b t L) : b < w.heap.size := World.rowIs.lt h
theorem RowL.putOther {w : World} {b : Nat} {t : TypeId} {L : List Value} (h : RowL w b t L) {l : Nat} (hl : b ≠ l) (o : Obj) : RowL (w.putObj l o) b t L := World.rowIs.of_block h (World.putObj_heap_other hl)

/-- what is asked of one prototype on the way. -/
def GoodNode (s : Sl PD) (x : Fin s.n) : Prop := depth (EE (kidsOf s) s.n) x.val < 64 ∧ ProtoOk (s.f x.val)
/-- between two rounds of WellFormed. -/
def WfI (s : Sl PD) (v : Value) (w : World) (pre : List (Fin s.n)) (W : World) : Prop :=
  (RowL W w.heap.size 24 [v] ∧ RowL W (w.heap.size + 1) 4 [.bool false] ∧ RowL W (w.heap.size + 1 + 1) 3 [.int .i64 (pre.length : Int)]) ∧ Below w.heap.size w W ∧ ∀ x ∈ pre, GoodNode s x
def WfX (s : Sl PD) (w : World) (c : Code) (pre : List (Fin s.n)) (W : World) : Prop :=
  c = .ret ∧ RowL W (w.heap.size + 1) 4 [.bool false] ∧ Below w.heap.size w W ∧ ∃ x ∈ pre, ¬ GoodNode s x
theorem WfI.stable (s : Sl PD) (v : Value) (w : World) {B : Nat} (hB : w.heap.size + 4 ≤ B) : Stable B (WfI s v w) := fun pre A C h hb =>
  ⟨⟨h.1.1.below hb (by omega), h.1.2.1.below hb (by omega), h.1.2.2.below hb (by omega)⟩, h.2.1.trans (hb.mono (by omega)), h.2.2⟩
theorem WfX.stable (s : Sl PD) (w : World) {B : Nat} (hB : w.heap.size + 4 ≤ B) (c : Code) : Stable B (WfX s w c) := fun pre A C h hb =>
  ⟨h.1, h.2.1.below hb (by omega), h.2.2.1.trans (hb.mono (by omega)), h.2.2.2⟩

theorem wf_all {s : Sl PD} (h1 : 1 ≤ s.n) (h2 : s.n ≤ 200) (hT : Tree (kidsOf s) s.n) (h : ∀ x ∈ List.finRange s.n, GoodNode s x) : Wf s := by
  obtain ⟨g, t⟩ := hT
  have hE : ∀ i, i < s.n → ∃ h, Fo (kidsOf s) s.n 1 i (EE (kidsOf s) s.n i) h := fun i hi => by
    obtain ⟨e, h', u⟩ := t.within i (by omega) hi
    rw [EE_eq u]
    exact ⟨h', u⟩
  exact ⟨h1, h2, ⟨g, t, (depth_iff hE t).1 fun j hj => (h ⟨j, hj⟩ (List.mem_finRange _)).1⟩, fun i hi => (h ⟨i, hi⟩ (List.mem_finRange _)).2⟩
theorem wf_tree {s : Sl PD} (h : Wf s) : Tree (kidsOf s) s.n := by
  obtain ⟨g, t, _⟩ := h.tree
  exact ⟨g, t⟩
theorem wf_good {s : Sl PD} (h : Wf s) (x : Fin s.n) : GoodNode s x := by
  obtain ⟨g, t, hg⟩ := h.tree
  have hE : ∀ i, i < s.n → ∃ h, Fo (kidsOf s) s.n 1 i (EE (kidsOf s) s.n i) h := fun i hi => by
    obtain ⟨e, h', u⟩ := t.within i (by omega) hi
    rw [EE_eq u]
    exact ⟨h', u⟩
  exact ⟨(depth_iff hE t).2 hg x.val x.isLt, h.each _ x.isLt⟩

set_option maxRecDepth 100000 in
set_option maxHeartbeats 4000000 in
theorem implWF_in (s : Sl PD) (v : Value) (w : World) (hv : IsProtos (· < w.heap.size) w v s) :
    Calls Tryz.prog 32 #[.agg #[v]] w fun e w' => Says e (Wf s) ∧ Below w.heap.size w w' := by
  have hv' := hv
  obtain ⟨a3, a4, a5, a8, a9, ⟨ao, cap, rfl, hn, hc⟩, ht⟩ := hv
  have hkids := hv'.kids
  obtain ⟨m, hm⟩ : ∃ m, 8 ≤ m := ⟨8, by omega⟩
  refine (callsIn_wide (n := m)).1 ?_
  refine callsIn_of_wp_marks Tryz.func32 rfl trivial ?_ rfl
  simp only [Tryz.ntmps32, List.size_toArray, List.length_cons, List.length_nil, Nat.reduceAdd, Nat.reduceSub, Array.replicate_succ, Array.replicate_zero, List.push_toArray, List.append_toArray, List.nil_append, List.cons_append]
  gi_wp2_with fail
  refine ⟨trivial, fun _ => by omega, ?_⟩
  refine (callsIn_wide.2 (within_in (s.n : Int) 1 200 _)).mono ?_
  rintro e w1 ⟨⟨r, rfl, hr⟩, rfl⟩
  obtain rfl | rfl : r = false ∨ r = true := by cases r <;> simp
  · have hno : Hid (¬ Wf s) := fun h => by
      have h1 := h.low
      have h2 := h.high
      have := hr.2 (by omega)
      simp at this
    clear hr hkids hv' hc ht
    gi_wp2
    exact ⟨.bool false, by simp [results, Tryz.results32, go_sem], Says.no rfl hno.out, by go_grown⟩
  · have hr' := hr.1 rfl
    clear hr
    gi_wp2_with fail
    refine ⟨trivial, fun _ => by omega, ?_⟩
    refine (callsIn_wide.2 (nodes_in ao s.n cap _)).mono ?_
    rintro e w1 ⟨rfl, rfl⟩
    gi_wp2_with fail
    have R0 : RowL ((((w.alloc (.cells #[.slice ao s.n cap] 24)).alloc (.cells #[.bool false] 4)).alloc (.cells #[.int .i64 0] 3)).alloc (.cells #[.slice ao s.n cap] 22)) w.heap.size 24 [.slice ao s.n cap] := (((RowL.new w _ 24).alloc _).alloc _).alloc _
    have R1 : RowL ((((w.alloc (.cells #[.slice ao s.n cap] 24)).alloc (.cells #[.bool false] 4)).alloc (.cells #[.int .i64 0] 3)).alloc (.cells #[.slice ao s.n cap] 22)) (w.heap.size + 1) 4 [.bool false] := by
      have := ((RowL.new (w.alloc (.cells #[.slice ao s.n cap] 24)) [.bool false] 4).alloc (.cells #[.int .i64 0] 3)).alloc (.cells #[.slice ao s.n cap] 22)
      rwa [World.size_alloc] at this
    have R2 : RowL ((((w.alloc (.cells #[.slice ao s.n cap] 24)).alloc (.cells #[.bool false] 4)).alloc (.cells #[.int .i64 0] 3)).alloc (.cells #[.slice ao s.n cap] 22)) (w.heap.size + 1 + 1) 3 [.int .i64 0] := by
      have := (RowL.new ((w.alloc (.cells #[.slice ao s.n cap] 24)).alloc (.cells #[.bool false] 4)) [.int .i64 0] 3).alloc (.cells #[.slice ao s.n cap] 22)
      rwa [World.size_alloc, World.size_alloc] at this
    have R3 : RowL ((((w.alloc (.cells #[.slice ao s.n cap] 24)).alloc (.cells #[.bool false] 4)).alloc (.cells #[.int .i64 0] 3)).alloc (.cells #[.slice ao s.n cap] 22)) (w.heap.size + 1 + 1 + 1) 22 [.slice ao s.n cap] := by
      have := RowL.new (((w.alloc (.cells #[.slice ao s.n cap] 24)).alloc (.cells #[.bool false] 4)).alloc (.cells #[.int .i64 0] 3)) [.slice ao s.n cap] 22
      rwa [World.size_alloc, World.size_alloc, World.size_alloc] at this
    have bw : Below w.heap.size w ((((w.alloc (.cells #[.slice ao s.n cap] 24)).alloc (.cells #[.bool false] 4)).alloc (.cells #[.int .i64 0] 3)).alloc (.cells #[.slice ao s.n cap] 22)) := by go_grown
    have sz : ((((w.alloc (.cells #[.slice ao s.n cap] 24)).alloc (.cells #[.bool false] 4)).alloc (.cells #[.int .i64 0] 3)).alloc (.cells #[.slice ao s.n cap] 22)).heap.size = w.heap.size + 4 := by simp
    generalize (((w.alloc (.cells #[.slice ao s.n cap] 24)).alloc (.cells #[.bool false] 4)).alloc (.cells #[.int .i64 0] 3)).alloc (.cells #[.slice ao s.n cap] 22) = w0 at R0 R1 R2 R3 bw sz ⊢
    refine range_law (gf := 149) (lb := #[.pointer (some ⟨w.heap.size + 1 + 1 + 1, 0, none⟩)]) rfl (enters_of Tryz.func149 (by kernel_rfl) rfl) (by omega) (encs := fun x : Fin s.n => #[nodeV (kidsOf s) s.n x]) (fun _ => rfl) (lo := w.heap.size) (N := s.n) (by omega)
      (S := fun ys => ys = nodeSeq (kidsOf s) s.n) (Sp := fun pre => pre <+: nodeSeq (kidsOf s) s.n ∧ pre ≠ []) (WfI s (.slice ao s.n cap) w) (WfX s w) (WfI.stable _ _ _ (by omega)) (WfX.stable _ _ (by omega))
      ⟨⟨R0, R1, R2⟩, bw, by simp⟩ ?seq
      (fun x a' W => ∃ Bx, w.heap.size + 6 ≤ Bx ∧ RowL W Bx 147 [.int .i64 (x.val : Int), .int .i64 (depth (EE (kidsOf s) s.n) x.val : Int), .int .i64 (EE (kidsOf s) s.n x.val : Int)] ∧ a' = { tmps := #[.agg #[.slice ao s.n cap], .pointer (some ⟨w.heap.size, 0, none⟩), .pointer (some ⟨w.heap.size + 1, 0, none⟩), .pointer (some ⟨w.heap.size + 1 + 1, 0, none⟩), .pointer (some ⟨Bx, 0, none⟩), .pointer (some ⟨w.heap.size, 0, none⟩), .slice ao s.n cap, .int .i64 (s.n : Int), .bool true, .bool false, .pointer (some ⟨w.heap.size, 0, none⟩), .slice ao s.n cap, .func (.func 149) #[] #[.pointer (some ⟨w.heap.size + 1 + 1 + 1, 0, none⟩)], .agg #[.int .i64 (x.val : Int), .int .i64 (depth (EE (kidsOf s) s.n) x.val : Int), .int .i64 (EE (kidsOf s) s.n x.val : Int)], undef, undef, undef, undef, undef, undef, undef, undef, undef, undef, undef, undef, undef, undef, undef, undef, undef, undef, undef, undef], defers := [] })
      (fun x a' W o hA => by obtain ⟨Bx, h1, h2, h3⟩ := hA; exact ⟨Bx, h1, h2.putOther (by omega) o, h3⟩)
      ?assign ?body ?done ?stop
    case seq =>
      intro W hW hb
      refine nodes1_in (m - 1) (kidsOf s) s.n cap ao w.heap.size _ _ W (by omega) (by omega) (by omega) ((R3.below hb (by omega)).cell 0 rfl) (fun hp => ?_)
      obtain ⟨b, o, e, hb', hcc⟩ := hkids hp
      exact ⟨b, o, e, hb', fun i hi => (hb.cell (p := ⟨b, _, none⟩) (by show b < w0.heap.size; omega)).trans ((bw.cell (p := ⟨b, _, none⟩) hb').trans (hcc i hi))⟩
    case assign =>
      rintro l pre x W K hsz hI hK
      simp only [nodeV]
      gi_wp2
      refine hK _ _ (Keep.of_below ((Below.refl _ W).alloc (Nat.le_refl _) _)) ((WfI.stable s _ w (Nat.le_refl _)) _ _ _ hI ((Below.refl _ W).alloc (by omega) _)) ⟨W.heap.size, by omega, RowL.new W _ 147, rfl⟩
    case body =>
      rintro l pre x a' W hsz hI ⟨Bx, hBx, RX, rfl⟩ hlt
      have hI' : Hid (WfI s (.slice ao s.n cap) w pre W) := hI
      obtain ⟨⟨S0, S1, S2⟩, hB, hall⟩ := hI
      have x0 := RX.cell 0 rfl
      have x1 := RX.cell 1 rfl
      have s0 := S0.cell 0 rfl
      have s1 := S1.cell 0 rfl
      have f1 := S1.frozen 0
      have hxn : (x.val : Int) < (s.n : Int) := by have := x.isLt; omega
      by_cases h64 : depth (EE (kidsOf s) s.n) x.val < 64
      rotate_left
      · have h64' : (64 : Int) ≤ (depth (EE (kidsOf s) s.n) x.val : Int) := by omega
        have hX : Hid (WfX s w .ret (pre ++ [x]) (W.setCell ⟨w.heap.size + 1, 0, none⟩ (.bool false))) :=
          ⟨rfl, S1.set 0 (.bool false), hB.setCell (p := ⟨w.heap.size + 1, 0, none⟩) (by simp) _, x, by simp, fun h => h64 h.1⟩
        clear hall hc ht hkids hv' S0 S1 S2 RX R0 R1 R2 R3
        gi_wp2
        refine ⟨trivial, ?_⟩
        gi_wp2
        exact ⟨Keep.setCell _ (by simp) (by show w.heap.size + 1 < w0.heap.size; omega) _, hX.out⟩
      have h64' : (depth (EE (kidsOf s) s.n) x.val : Int) < 64 := by omega
      obtain ⟨b, o, rfl, hb, hcc⟩ := hc (by omega)
      have c0 := hcc x.val x.isLt 0 (by omega)
      have c1 := hcc x.val x.isLt 1 (by omega)
      have c2 := hcc x.val x.isLt 2 (by omega)
      have c3 := hcc x.val x.isLt 3 (by omega)
      have c4 := hcc x.val x.isLt 4 (by omega)
      have c5 := hcc x.val x.isLt 5 (by omega)
      have c6 := hcc x.val x.isLt 6 (by omega)
      have c7 := hcc x.val x.isLt 7 (by omega)
      have c8 := hcc x.val x.isLt 8 (by omega)
      have c9 := hcc x.val x.isLt 9 (by omega)
      rw [← hB.cell (p := ⟨b, _, none⟩) hb] at c0 c1 c2 c3 c4 c5 c6 c7 c8 c9
      simp only [Nat.add_zero, pC] at c0 c1 c2 c3 c4 c5 c6 c7 c8 c9
      have hpf := protoFits_in (s.f x.val) (a3 x.val) (a4 x.val) (a5 x.val) (a8 x.val) (a9 x.val) W ((ht x.val x.isLt).later hB)
      unfold pAgg at hpf
      clear hcc hc ht hkids hv'
      gi_wp2_with fail
      refine ⟨trivial, fun _ => by omega, ?_⟩
      refine (CallsIn.inRound l (callsIn_wide.2 hpf)).mono ?_
      rintro e y ⟨⟨r, rfl, hr⟩, b1⟩
      clear c0 c1 c2 c3 c4 c5 c6 c7 c8 c9 x0 x1 s0 s1 f1 hpf
      have S1' := S1.call b1
      have S2' := S2.call b1
      have hBy : Below w.heap.size w y := hB.trans (b1.mono hB.size)
      have s1 := S1'.cell 0 rfl
      have f1 := S1'.frozen 0
      have s2 := S2'.cell 0 rfl
      have f2 := S2'.frozen 0
      have hkeep : Keep w.heap.size w0.heap.size W y := Keep.of_below b1
      obtain rfl | rfl : r = false ∨ r = true := by cases r <;> simp
      · have hX : Hid (WfX s w .ret (pre ++ [x]) (y.setCell ⟨w.heap.size + 1, 0, none⟩ (.bool false))) :=
          ⟨rfl, S1'.set 0 (.bool false), hBy.setCell (p := ⟨w.heap.size + 1, 0, none⟩) (by simp) _, x, by simp, fun h => by simpa using hr.2 h.2⟩
        clear hr hall S0 S1 S2 RX R0 R1 R2 R3 S1' S2'
        gi_wp2
        exact ⟨hkeep.trans (Keep.setCell _ (by simp) (by show w.heap.size + 1 < w0.heap.size; omega) _), hX.out⟩
      · have hlen : pre.length + 1 ≤ 200 := by omega
        have hN : Hid (WfI s (.slice (some ⟨b, o, none⟩) s.n cap) w (pre ++ [x]) (y.setCell ⟨w.heap.size + 1 + 1, 0, none⟩ (.int .i64 ((pre.length : Int) + 1)))) := by
          refine ⟨⟨(S0.call b1).other (by show w.heap.size ≠ w.heap.size + 1 + 1; omega) _, S1'.other (by show w.heap.size + 1 ≠ w.heap.size + 1 + 1; omega) _, ?_⟩, hBy.setCell (p := ⟨w.heap.size + 1 + 1, 0, none⟩) (by show w.heap.size ≤ w.heap.size + 1 + 1; omega) _, ?_⟩
          · have := S2'.set 0 (.int .i64 ((pre.length : Int) + 1))
            simpa using this
          · intro z hz
            rcases List.mem_append.1 hz with hz | hz
            · exact hall z hz
            · obtain rfl : z = x := by simpa using hz
              exact ⟨h64, hr.1 rfl⟩
        clear hr hall S0 S1 S2 RX R0 R1 R2 R3 S1' S2'
        gi_wp2
        exact ⟨hkeep.trans (Keep.setCell _ (by show w.heap.size ≤ w.heap.size + 1 + 1; omega) (by show w.heap.size + 1 + 1 < w0.heap.size; omega) _), hN.out⟩
    case done =>
      rintro D ys W hD rfl ⟨⟨S0, S1, S2⟩, hB, hall⟩ hK
      have s0 := S0.cell 0 rfl
      have s1 := S1.cell 0 rfl
      have f1 := S1.frozen 0
      have s2 := S2.cell 0 rfl
      clear hc ht hkids hv' R0 R1 R2 R3
      by_cases hT : Tree (kidsOf s) s.n
      · have hseq : nodeSeq (kidsOf s) s.n = List.finRange s.n := if_pos hT
        rw [hseq] at hall s2
        simp only [List.length_finRange] at s2
        have hyes : Hid (Wf s) := wf_all (by omega) (by omega) hT hall
        have S1' := S1.set 0 (.bool true)
        have hK' : (W.setCell ⟨w.heap.size + 1, 0, none⟩ (.bool true)).heap[D]? = some (.deferred (some [])) := (Below.heap_setCell _ _ _ _ (by show D ≠ w.heap.size + 1; omega)).trans hK
        clear hall hT hseq S0 S1 S2
        gi_wp2
        refine ⟨by simp, .inl ⟨_, _, rfl, run_takeDeferred hK', ?_⟩⟩
        have hfin := (S1'.putOther (l := D) (by omega) (.deferred none)).cell 0 rfl
        refine ⟨.bool true, by simp [results, Tryz.results32, go_sem, hfin], Says.yes rfl hyes.out, ?_⟩
        exact (hB.setCell (p := ⟨w.heap.size + 1, 0, none⟩) (by simp) _).trans (below_putObj _ (by omega) (Array.getElem?_eq_some_iff.1 hK').1 _)
      · have hseq : nodeSeq (kidsOf s) s.n = [] := if_neg hT
        rw [hseq] at s2
        simp only [List.length_nil] at s2
        have hno : Hid (¬ Wf s) := fun h => hT (wf_tree h)
        have hne : ((0 : Int) == (s.n : Int)) = false := by simp; omega
        have S1' := S1.set 0 (.bool false)
        have hK' : (W.setCell ⟨w.heap.size + 1, 0, none⟩ (.bool false)).heap[D]? = some (.deferred (some [])) := (Below.heap_setCell _ _ _ _ (by show D ≠ w.heap.size + 1; omega)).trans hK
        clear hall hT hseq S0 S1 S2
        gi_wp2
        refine ⟨by simp, .inl ⟨_, _, rfl, run_takeDeferred hK', ?_⟩⟩
        have hfin := (S1'.putOther (l := D) (by omega) (.deferred none)).cell 0 rfl
        refine ⟨.bool false, by simp [results, Tryz.results32, go_sem, hfin], Says.no rfl hno.out, ?_⟩
        exact (hB.setCell (p := ⟨w.heap.size + 1, 0, none⟩) (by simp) _).trans (below_putObj _ (by omega) (Array.getElem?_eq_some_iff.1 hK').1 _)
    case stop =>
      rintro D c pre W hD hpre ⟨rfl, S1, hB, x, hx, hbad⟩ hK
      have hno : Hid (¬ Wf s) := fun h => hbad (wf_good h x)
      clear hc ht hkids hv' R0 R1 R2 R3
      gi_wp2
      refine ⟨by simp, .inl ⟨_, _, rfl, run_takeDeferred hK, ?_⟩⟩
      have hfin := (S1.putOther (l := D) (by omega) (.deferred none)).cell 0 rfl
      refine ⟨.bool false, by simp [results, Tryz.results32, go_sem, hfin], Says.no rfl hno.out, ?_⟩
      exact hB.trans (below_putObj _ (by omega) (Array.getElem?_eq_some_iff.1 hK).1 _)
end Go.Proofs.YtckapapejfnojaaGreatDoor

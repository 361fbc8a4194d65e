import Derived.Test.YtndpbdpngniepaaStJ
namespace Go.Proofs.Ytndpbdpngniepaa
open Go.RowKit Go.Shelf
set_option linter.unusedVariables false
set_option linter.unusedSimpArgs false
attribute [local go_sem] Oper.semAt_some
theorem fP_all (s : Sl PD) {i : Nat} (h : i < s.n) : fP s (List.finRange s.n) i = stripP (s.f i) := by
  simp [fP, List.getD, h]
def noDefer (ops : Array Oper) : Bool := ops.all fun o => match o.op with | .defer _ => false | _ => true
theorem noDefer_of {ops : Array Oper} (h : noDefer ops = true) (i : Nat) (o : Oper) (ho : ops[i]? = some o) (c : _) : o.op ≠ .defer c := fun e => by
  have hm := Array.all_eq_true'.1 h o (Array.mem_of_getElem? ho)
  rw [e] at hm
  cases hm
set_option maxRecDepth 100000 in
set_option maxHeartbeats 4000000 in
theorem implStrip_in (s : Sl PD) (v : Value) (w : World) (hv : IsProtos (· < w.heap.size) w v s) (hs : SmallC s) :
    Calls Try.prog 26 #[.agg #[v]] w fun e w' => ((Wf s ∧ ∃ v' lo B0 rng a b, e = .returned (.agg #[v']) ∧ w.heap.size ≤ lo ∧ COwn w' v' s.n (fun i => stripP (s.f i)) lo w'.heap.size B0 rng a b) ∨ (¬ Wf s ∧ e = .returned (.agg #[.slice none 0 0]))) ∧ Below w.heap.size w w' := by
  have hv' : Hid (IsProtos (· < w.heap.size) w v s) := hv
  have hkids : Hid (∀ ao cap, v = .slice ao s.n cap → 0 < s.n → ∃ b o, ao = some ⟨b, o, none⟩ ∧ b < w.heap.size ∧ ∀ i, i < s.n → w.cell? ⟨b, o + i * 10 + 6, none⟩ = some (.int .i64 (kidsOf s i))) := fun ao cap he hp => by
    subst he
    exact hv.kids hp
  obtain ⟨a3, a4, a5, a8, a9, ⟨ao, cap, rfl, hn, hc⟩, ht⟩ := hv
  replace hc : Hid _ := hc
  replace ht : Hid _ := ht
  obtain ⟨m, hm⟩ : ∃ m, 8 ≤ m := ⟨8, by omega⟩
  refine (callsIn_wide (n := m)).1 ?_
  refine callsIn_of_wp_marks Try.func26 rfl trivial ?_ rfl
  simp only [Try.ntmps26, List.size_toArray, List.length_cons, List.length_nil, Nat.reduceAdd, Nat.reduceSub, Array.replicate_succ, Array.replicate_zero, List.push_toArray, List.append_toArray, List.nil_append, List.cons_append]
  gi_wp2_with fail
  have Q0 : RowL ((w.alloc (.cells #[.slice ao s.n cap] 38)).alloc (.cells #[.slice none 0 0] 38)) w.heap.size 38 [.slice ao s.n cap] := (RowL.new w _ 38).alloc _
  have Q1 : RowL ((w.alloc (.cells #[.slice ao s.n cap] 38)).alloc (.cells #[.slice none 0 0] 38)) (w.heap.size + 1) 38 [.slice none 0 0] := by
    have := RowL.new (w.alloc (.cells #[.slice ao s.n cap] 38)) [.slice none 0 0] 38
    rwa [World.size_alloc] at this
  have bw : Below w.heap.size w ((w.alloc (.cells #[.slice ao s.n cap] 38)).alloc (.cells #[.slice none 0 0] 38)) := by go_grown
  generalize (w.alloc (.cells #[.slice ao s.n cap] 38)).alloc (.cells #[.slice none 0 0] 38) = w3 at Q0 Q1 bw ⊢
  refine ⟨trivial, fun _ => by omega, ?_⟩
  refine (callsIn_wide.2 (implWF_in s _ _ (hv'.out.later bw))).mono ?_
  rintro e y ⟨⟨r, rfl, hr⟩, b1⟩
  replace Q0 := Q0.call b1
  replace Q1 := Q1.call b1
  replace bw := bw.trans (b1.mono bw.size)
  clear b1
  have q0 := Q0.cell 0 rfl
  have q1 := Q1.cell 0 rfl
  have f1 := Q1.frozen 0
  obtain rfl | rfl : r = false ∨ r = true := by cases r <;> simp
  · have hno : Hid (¬ Wf s) := fun h => by simpa using hr.2 h
    have S1 := Q1.set 0 (.slice none 0 0)
    have hfin := S1.cell 0 rfl
    clear hr hkids hv' Q0 Q1 S1
    gi_wp2
    exact ⟨.agg #[.slice none 0 0], by simp [results, Try.results26, go_sem, hfin], .inr ⟨hno.out, rfl⟩, bw.setCell (p := ⟨w.heap.size + 1, 0, none⟩) (by show w.heap.size ≤ w.heap.size + 1; omega) _⟩
  have hwf : Hid (Wf s) := hr.1 rfl
  clear hr q1 f1
  have q0' := (Q0.alloc (.cells #[.slice none 0 0] 38)).cell 0 rfl
  gi_wp2_with fail
  refine ⟨trivial, fun _ => by omega, ?_⟩
  refine (callsIn_wide.2 (nodes_in ao s.n cap _)).mono ?_
  rintro e w1 ⟨rfl, rfl⟩
  gi_wp2_with fail
  have R0 := (Q0.alloc (.cells #[.slice none 0 0] 38)).alloc (.cells #[.slice ao s.n cap] 36)
  have R1 := (Q1.alloc (.cells #[.slice none 0 0] 38)).alloc (.cells #[.slice ao s.n cap] 36)
  have RY := (RowL.new y [.slice none 0 0] 38).alloc (.cells #[.slice ao s.n cap] 36)
  have RN : RowL ((y.alloc (.cells #[.slice none 0 0] 38)).alloc (.cells #[.slice ao s.n cap] 36)) (y.heap.size + 1) 36 [.slice ao s.n cap] := by
    have := RowL.new (y.alloc (.cells #[.slice none 0 0] 38)) [.slice ao s.n cap] 36
    rwa [World.size_alloc] at this
  have hy3 : w.heap.size + 2 ≤ y.heap.size := by
    have := Q1.lt
    omega
  have bw' : Below w.heap.size w ((y.alloc (.cells #[.slice none 0 0] 38)).alloc (.cells #[.slice ao s.n cap] 36)) := (bw.alloc (by omega) _).alloc (by simp; omega) _
  have sz : ((y.alloc (.cells #[.slice none 0 0] 38)).alloc (.cells #[.slice ao s.n cap] 36)).heap.size = y.heap.size + 2 := by simp
  clear Q0 Q1 q0 q0'
  generalize (y.alloc (.cells #[.slice none 0 0] 38)).alloc (.cells #[.slice ao s.n cap] 36) = w0 at R0 R1 RY RN bw' sz ⊢
  have hlow := hwf.out.low
  have hhigh := hwf.out.high
  refine range_lawO (gf := 47) (lb := #[.pointer (some ⟨y.heap.size + 1, 0, none⟩)]) rfl (enters_of Try.func47 (by kernel_rfl) rfl) (by omega) (encs := fun x : Fin s.n => #[nodeV (kidsOf s) s.n x]) (fun _ => rfl) (lo := w.heap.size + 2) (N := s.n) (by omega)
    (S := fun ys => ys = nodeSeq (kidsOf s) s.n) (Sp := fun pre => pre <+: nodeSeq (kidsOf s) s.n ∧ pre ≠ []) (fun pre U W => SI s (y.heap.size + 4) y.heap.size (w.heap.size + 2) w0 pre U W ∨ (pre = [] ∧ Below (w.heap.size + 2) w0 W ∧ (∀ c, U c ↔ c = y.heap.size) ∧ RowL W y.heap.size 38 [.slice none 0 0])) (fun _ _ _ _ => False) ?foot (fun _ _ _ _ _ h => h.elim) ?foot2 (fun _ _ _ _ h => h.elim)
    ⟨fun c => c = y.heap.size, .inr ⟨rfl, Below.refl _ _, fun _ => Iff.rfl, RY⟩⟩ ?seq
    (fun x a' W => ∃ Bx, w0.heap.size + 2 ≤ Bx ∧ RowL W Bx 68 [.int .i64 (x.val : Int), .int .i64 (depth (EE (kidsOf s) s.n) x.val : Int), .int .i64 (EE (kidsOf s) s.n x.val : Int)] ∧ a' = { tmps := #[.agg #[.slice ao s.n cap], .pointer (some ⟨w.heap.size, 0, none⟩), .pointer (some ⟨w.heap.size + 1, 0, none⟩), .pointer (some ⟨y.heap.size, 0, none⟩), .pointer (some ⟨Bx, 0, none⟩), .agg #[.slice ao s.n cap], .bool true, .bool false, undef, .pointer (some ⟨w.heap.size, 0, none⟩), .slice ao s.n cap, .func (.func 47) #[] #[.pointer (some ⟨y.heap.size + 1, 0, none⟩)], .agg #[.int .i64 (x.val : Int), .int .i64 (depth (EE (kidsOf s) s.n) x.val : Int), .int .i64 (EE (kidsOf s) s.n x.val : Int)], undef, undef, undef, undef, undef, undef, undef, undef, undef, undef, undef, undef, undef], defers := [] })
    (fun x a' W o hA => by obtain ⟨Bx, h1, h2, h3⟩ := hA; exact ⟨Bx, h1, h2.putOther (by omega) o, h3⟩)
    ?assign ?body ?done ?stop
  case foot =>
    rintro pre U A C (h | ⟨h1, h2, h3, h4⟩) e1 e2 e3 e4 e5 e6
    · exact .inl (SI.footU s _ _ _ _ (by omega) pre U A C h e1 e2 e3 e4 e5 e6)
    · exact .inr ⟨h1, ⟨e1.trans h2.os, e2.trans h2.tape, e3.trans h2.output, Nat.le_trans h2.size e4, fun c hc => (e6 c hc).trans (h2.block c hc)⟩, h3, World.rowIs.of_block h4 (e5 _ ((h3 _).2 rfl))⟩
  case foot2 =>
    rintro pre U A (⟨h1, h2, vo, rng, a, b, h⟩ | ⟨h1, h2, h3, h4⟩) c hc
    · rcases (h.foot c).1 hc with rfl | e | ⟨i, hi, e1, e2⟩
      · exact ⟨by omega, h.box.lt, .inl (by omega)⟩
      · have := h.out c e
        exact ⟨by omega, by omega, .inr (by omega)⟩
      · have := rng_le h.mono 0 (2 * i) (by omega)
        have := h.rlo
        have := h.rhi (2 * i + 1)
        exact ⟨by omega, by omega, .inr (by omega)⟩
    · obtain rfl := (h3 c).1 hc
      exact ⟨by omega, h4.lt, .inl (by omega)⟩
  case seq =>
    intro W hW hb
    refine nodes1_own (m - 1) (kidsOf s) s.n cap ao (w.heap.size + 2) _ _ W (by omega) (by omega) (by omega) ((RN.below hb (by omega)).cell 0 rfl) (fun hp => ?_)
    obtain ⟨b, o, e, hb', hcc⟩ := hkids.out ao cap rfl hp
    exact ⟨b, o, e, by omega, fun i hi => (hb.cell (p := ⟨b, _, none⟩) (by show b < w0.heap.size; omega)).trans ((bw'.cell (p := ⟨b, _, none⟩) hb').trans (hcc i hi))⟩
  case assign =>
    rintro l pre x W K hsz hK
    simp only [nodeV]
    gi_wp2
    refine hK _ _ ((Below.refl _ W).alloc (Nat.le_refl _) _) ⟨W.heap.size, by omega, RowL.new W _ 68, rfl⟩
  case body =>
    rintro l pre x a' U W hsz hI ⟨Bx, hBx, RX, rfl⟩ hlt
    have hSI : SI s (y.heap.size + 4) y.heap.size (w.heap.size + 2) w0 pre U W := by
      rcases hI with h | ⟨rfl, h2, h3, h4⟩
      · exact h
      · refine ⟨h2, by omega, .slice none 0 0, fun _ => W.heap.size, fun _ _ => undef, fun _ _ => 0, h4, World.ownsRow_nil _ _ _ _, (show y.heap.size + 4 ≤ W.heap.size by omega), fun _ => Nat.le_refl _, fun _ => Nat.le_refl _, fun g hg => (by cases (show (none : Option Nat) = some g from hg)), fun i hi => absurd hi (Nat.not_lt_zero _), fun c => ?_⟩
        rw [h3]
        constructor
        · exact .inl
        · rintro (h | h | ⟨i, hi, _⟩)
          · exact h
          · cases h
          · exact absurd hi (Nat.not_lt_zero _)
    clear hI
    obtain ⟨hB, hbase, vo, rng, a, b, hS⟩ := hSI
    replace hS : Hid _ := hS
    have hdr : Below W.heap.size W W.drew := (Below.refl _ _).drew
    obtain ⟨bb, oo, rfl, hbb, hcc⟩ := hc.out (by omega)
    have hxn : (x.val : Int) < (s.n : Int) := by have := x.isLt; omega
    have hBxl := RX.lt
    have nBx : vo.ownBlock ≠ some Bx := fun e => by
      rcases hS.out.row.2 with ⟨h, _⟩ | ⟨g, cp, cur, h, _, hg, _⟩
      · rw [h] at e; cases e
      · rw [h] at e
        have e' : g = Bx := Option.some.inj e
        subst e'
        obtain ⟨cur', h68, _⟩ := RX
        rw [hg] at h68
        cases h68
    have hk : Hid (∀ z : World, (∀ c, c < W.heap.size → c ≠ y.heap.size → vo.ownBlock ≠ some c → z.heap[c]? = W.heap[c]?) → (z.cell? ⟨w.heap.size, 0, none⟩ = some (.slice (some ⟨bb, oo, none⟩) s.n cap) ∧ z.cell? ⟨Bx, 0, none⟩ = some (.int .i64 (x.val : Int)) ∧ z.cell? ⟨bb, oo + x.val * 10, none⟩ = some (.int .i64 (s.f x.val).params) ∧ z.cell? ⟨bb, oo + x.val * 10 + 1, none⟩ = some (.bool (s.f x.val).vararg) ∧ z.cell? ⟨bb, oo + x.val * 10 + 2, none⟩ = some (.int .i64 (s.f x.val).regs) ∧ z.cell? ⟨bb, oo + x.val * 10 + 3, none⟩ = some (a3 x.val) ∧ z.cell? ⟨bb, oo + x.val * 10 + 4, none⟩ = some (a4 x.val) ∧ z.cell? ⟨bb, oo + x.val * 10 + 5, none⟩ = some (a5 x.val) ∧ z.cell? ⟨bb, oo + x.val * 10 + 6, none⟩ = some (.int .i64 (s.f x.val).kids) ∧ z.cell? ⟨bb, oo + x.val * 10 + 7, none⟩ = some (.string (s.f x.val).name) ∧ z.cell? ⟨bb, oo + x.val * 10 + 8, none⟩ = some (a8 x.val) ∧ z.cell? ⟨bb, oo + x.val * 10 + 9, none⟩ = some (a9 x.val))) := fun z hz => by
      have hw : z.heap[w.heap.size]? = W.heap[w.heap.size]? := hz _ (by omega) (by omega) (fun e => by have := (hS.out.out _ e).1; omega)
      have hx : z.heap[Bx]? = W.heap[Bx]? := hz _ hBxl (by omega) nBx
      have hbz : z.heap[bb]? = W.heap[bb]? := hz _ (by omega) (by omega) (fun e => by have := (hS.out.out _ e).1; omega)
      have hel : ∀ j, j < 10 → z.cell? ⟨bb, oo + x.val * 10 + j, none⟩ = some (pC s.f a3 a4 a5 a8 a9 x.val j) := fun j hj =>
        (World.cell?_of_block (a := ⟨bb, oo + x.val * 10 + j, none⟩) hbz).trans ((hB.cell (p := ⟨bb, _, none⟩) (by show bb < w.heap.size + 2; omega)).trans ((bw'.cell (p := ⟨bb, _, none⟩) hbb).trans (hcc x.val x.isLt j hj)))
      exact ⟨(World.cell?_of_block (a := ⟨w.heap.size, 0, none⟩) hw).trans ((R0.below hB (by omega)).cell 0 rfl), (World.cell?_of_block (a := ⟨Bx, 0, none⟩) hx).trans (RX.cell 0 rfl), hel 0 (by omega), hel 1 (by omega), hel 2 (by omega), hel 3 (by omega), hel 4 (by omega), hel 5 (by omega), hel 6 (by omega), hel 7 (by omega), hel 8 (by omega), hel 9 (by omega)⟩
    have hYc : Hid (∀ z : World, z.heap[y.heap.size]? = W.heap[y.heap.size]? → z.cell? ⟨y.heap.size, 0, none⟩ = some vo) := fun z hz => (World.cell?_of_block (a := ⟨y.heap.size, 0, none⟩) hz).trans (hS.out.box.cell 0 rfl)
    have hstr := stripped_in (s.f x.val) (a3 x.val) (a4 x.val) (a5 x.val) (a8 x.val) (a9 x.val) W.drew ((ht.out x.val x.isLt).later (bw'.trans ((hB.trans (hdr.mono (by omega))).mono (by omega)))) (hs.2 x.val x.isLt)
    unfold pAgg at hstr
    have hYl := hS.out.box.lt
    obtain ⟨i0, hi, hz0, hz1, hz2⟩ := info_parts (show (Try.prog.info? 61).map (fun i => (i.zero, i.size, i.bytes)) = some (some (.agg #[.int .i64 0, .bool false, .int .i64 0, .slice none 0 0, .slice none 0 0, .slice none 0 0, .int .i64 0, .string ⟨#[]⟩, .slice none 0 0, .slice none 0 0]), 10, 168) by kernel_rfl)
    clear hcc R0 R1 RY RN RX hkids hv' hc ht
    gi_wp2_with fail
    refine region_round (S := fun z => z.cell? ⟨w.heap.size, 0, none⟩ = some (.slice (some ⟨bb, oo, none⟩) s.n cap) ∧ z.cell? ⟨Bx, 0, none⟩ = some (.int .i64 (x.val : Int)) ∧ z.cell? ⟨bb, oo + x.val * 10, none⟩ = some (.int .i64 (s.f x.val).params) ∧ z.cell? ⟨bb, oo + x.val * 10 + 1, none⟩ = some (.bool (s.f x.val).vararg) ∧ z.cell? ⟨bb, oo + x.val * 10 + 2, none⟩ = some (.int .i64 (s.f x.val).regs) ∧ z.cell? ⟨bb, oo + x.val * 10 + 3, none⟩ = some (a3 x.val) ∧ z.cell? ⟨bb, oo + x.val * 10 + 4, none⟩ = some (a4 x.val) ∧ z.cell? ⟨bb, oo + x.val * 10 + 5, none⟩ = some (a5 x.val) ∧ z.cell? ⟨bb, oo + x.val * 10 + 6, none⟩ = some (.int .i64 (s.f x.val).kids) ∧ z.cell? ⟨bb, oo + x.val * 10 + 7, none⟩ = some (.string (s.f x.val).name) ∧ z.cell? ⟨bb, oo + x.val * 10 + 8, none⟩ = some (a8 x.val) ∧ z.cell? ⟨bb, oo + x.val * 10 + 9, none⟩ = some (a9 x.val)) (by kernel_rfl) (noDefer_of (by kernel_rfl)) (fun ⟨_, _, h⟩ => h) (hk.out _ fun c _ _ _ => rfl) (fun hHeld => ?_)
    refine take_dst 0 13 (.pointer (some ⟨y.heap.size, 0, none⟩)) rfl (by kernel_rfl) (by kernel_rfl) (by kernel_rfl) (fun _ _ _ h => h) (Or.inl ⟨by rfl, by intro wv hSv; (try dsimp only at hSv); go_simp⟩) hHeld rfl ?_
    try simp only [Act.put, List.setIfInBounds_toArray, List.set_cons_zero, List.set_cons_succ]
    refine take_dst 2 15 (.pointer (some ⟨w.heap.size, 0, none⟩)) rfl (by kernel_rfl) (by kernel_rfl) (by kernel_rfl) (fun _ _ _ h => h) (Or.inl ⟨by rfl, by intro wv hSv; (try dsimp only at hSv); go_simp⟩) hHeld rfl ?_
    try simp only [Act.put, List.setIfInBounds_toArray, List.set_cons_zero, List.set_cons_succ]
    refine take_dst 3 16 (.slice (some ⟨bb, oo, none⟩) s.n cap) rfl (by kernel_rfl) (by kernel_rfl) (by kernel_rfl) (fun _ _ _ h => h) (Or.inl ⟨by rfl, by intro wv hSv; (try dsimp only at hSv); go_simp⟩) hHeld rfl ?_
    try simp only [Act.put, List.setIfInBounds_toArray, List.set_cons_zero, List.set_cons_succ]
    refine take_dst 4 17 (.pointer (some ⟨Bx, 0, none⟩)) rfl (by kernel_rfl) (by kernel_rfl) (by kernel_rfl) (fun _ _ _ h => h) (Or.inl ⟨by rfl, by intro wv hSv; (try dsimp only at hSv); go_simp⟩) hHeld rfl ?_
    try simp only [Act.put, List.setIfInBounds_toArray, List.set_cons_zero, List.set_cons_succ]
    refine take_dst 5 18 (.int .i64 (x.val : Int)) rfl (by kernel_rfl) (by kernel_rfl) (by kernel_rfl) (fun _ _ _ h => h) (Or.inl ⟨by rfl, by intro wv hSv; (try dsimp only at hSv); go_simp⟩) hHeld rfl ?_
    try simp only [Act.put, List.setIfInBounds_toArray, List.set_cons_zero, List.set_cons_succ]
    refine take_dst 6 19 (.pointer (some ⟨bb, oo + x.val * 10, none⟩)) rfl (by kernel_rfl) (by kernel_rfl) (by kernel_rfl) (fun _ _ _ h => h) (Or.inl ⟨by rfl, by intro wv hSv; (try dsimp only at hSv); go_simp⟩) hHeld rfl ?_
    try simp only [Act.put, List.setIfInBounds_toArray, List.set_cons_zero, List.set_cons_succ]
    refine take_dst 7 20 (.agg #[.int .i64 (s.f x.val).params, .bool (s.f x.val).vararg, .int .i64 (s.f x.val).regs, (a3 x.val), (a4 x.val), (a5 x.val), .int .i64 (s.f x.val).kids, .string (s.f x.val).name, (a8 x.val), (a9 x.val)]) rfl (by kernel_rfl) (by kernel_rfl) (by kernel_rfl) (fun _ _ _ h => h) (Or.inl ⟨by rfl, by intro wv hSv; (try dsimp only at hSv); go_simp⟩) hHeld rfl ?_
    try simp only [Act.put, List.setIfInBounds_toArray, List.set_cons_zero, List.set_cons_succ]
    refine wpAnyH_ready (rs := [1, 8]) (by kernel_rfl) (by simp) ?_
    refine AllReadyH.cons rfl (fun K hK => ?_) (AllReadyH.cons rfl (fun K hK => ?_) AllReadyH.nil)
    · have cY := hYc.out _ rfl
      go_simp
      refine hK.out _ _ (hk.out _ fun c _ _ _ => rfl) (fun _ => ?_)
      clear hK K cY
      try simp only [Act.put, List.setIfInBounds_toArray, List.set_cons_zero, List.set_cons_succ]
      refine wpAnyH_ready (rs := [8]) (by kernel_rfl) (by simp) ?_
      refine AllReadyH.cons rfl (fun K hK => ?_) AllReadyH.nil
      go_simp
      refine hstr.mono ?_
      rintro e z1 ⟨b3, b4, b5, b8, b9, B3, B4, B5, B8, B9, rfl, hOwn, by1⟩
      obtain ⟨q3, d3, rfl, -, -⟩ := id hOwn.o3
      obtain ⟨q4, d4, rfl, -, -⟩ := id hOwn.o4
      obtain ⟨q5, d5, rfl, -, -⟩ := id hOwn.o5
      obtain ⟨q8, d8, rfl, -, -⟩ := id hOwn.o8
      obtain ⟨q9, d9, rfl, -, -⟩ := id hOwn.o9
      replace hOwn : Hid _ := hOwn
      try unfold pAgg
      go_wp2_with fail
      refine hK.out _ _ (hk.out _ fun c h1 h2 h3 => by1.block c h1) (fun _ => ?_)
      clear hK K
      try simp only [Act.put, List.setIfInBounds_toArray, List.set_cons_zero, List.set_cons_succ]
      refine wpAnyH_ready (rs := [9]) (by kernel_rfl) (by simp) ?_
      refine AllReadyH.cons rfl (fun K hK => ?_) AllReadyH.nil
      go_simp
      refine hK.out _ _ (hk.out _ fun c h1 h2 h3 => (Below.heap_alloc _ _ _ (Nat.lt_of_lt_of_le h1 by1.size)).trans (by1.block c h1)) (fun _ => ?_)
      clear hK K
      try simp only [Act.put, List.setIfInBounds_toArray, List.set_cons_zero, List.set_cons_succ]
      refine wpAnyH_ready (rs := [10]) (by kernel_rfl) (by simp) ?_
      refine AllReadyH.cons rfl (fun K hK => ?_) AllReadyH.nil
      have sz1 : W.heap.size ≤ z1.heap.size := by1.size
      refine step_append_lies _ rfl (.tmp 14) (.tmp 22) 36 rfl (y.heap.size + 4) 61 i0 _ 10 168 Try.underlying36 hi hz0 hz1 hz2 rfl (by decide) vo pre.length (flat 10 pre.length (pC (fP s pre) (a 3) (a 4) (a 5) (a 8) (a 9))) rfl
        (ownsRow_keepG hS.out.row fun g hg => (Below.heap_alloc _ _ _ (Nat.lt_of_lt_of_le (hS.out.out g hg).2.1 by1.size)).trans (by1.block g (hS.out.out g hg).2.1)) ⟨z1.heap.size, 0, none⟩ 1 1 (pL (stripP (s.f x.val)) (.slice q3 (stripP (s.f x.val)).code.n d3) (.slice q4 (stripP (s.f x.val)).consts.n d4) (.slice q5 (stripP (s.f x.val)).ups.n d5) (.slice q8 (stripP (s.f x.val)).lines.n d8) (.slice q9 (stripP (s.f x.val)).upNames.n d9)) rfl rfl
        (World.news_of_block (World.alloc_heap_new z1 _)) (by intro u hu; simp only [pL, List.mem_cons, List.not_mem_nil, or_false] at hu; rcases hu with rfl | rfl | rfl | rfl | rfl | rfl | rfl | rfl | rfl | rfl <;> rfl) (by omega) (by simp only [maxLen]; omega) (by omega) (by simp only [World.size_alloc]; omega) _ rfl ?_
      intro g cap' w' hrow hgrow hat hglt
      have sz2 := hgrow.size
      rw [World.size_alloc] at sz2
      have kW : ∀ c, c < W.heap.size → vo.ownBlock ≠ some c → w'.heap[c]? = W.heap[c]? := fun c h1 h3 => by
        rw [hgrow.block c (by rw [World.size_alloc]; omega) (fun e => h3 e.symm), Below.heap_alloc _ _ _ (by omega)]
        exact by1.block c h1
      have hYne : vo.ownBlock ≠ some y.heap.size := fun e => by have := (hS.out.out _ e).1; omega
      have hH2 := hk.out w' fun c h1 h2 h3 => kW c h1 h3
      have bY : RowL w' y.heap.size 38 [vo] := World.rowIs.of_block hS.out.box (kW _ hYl hYne)
      have cY := bY.cell 0 rfl
      have fY := bY.frozen 0
      replace hrow : Hid _ := hrow
      replace hgrow : Hid _ := hgrow
      refine hK.out _ _ hH2 (fun _ => ?_)
      clear hK K
      try simp only [Act.put, List.setIfInBounds_toArray, List.set_cons_zero, List.set_cons_succ]
      refine take_dst 11 24 (.pointer (some ⟨y.heap.size, 0, none⟩)) rfl (by kernel_rfl) (by kernel_rfl) (by kernel_rfl) (fun _ _ _ h => h) (Or.inl ⟨by rfl, by intro wv hSv; (try dsimp only at hSv); go_simp⟩) hH2 rfl ?_
      try simp only [Act.put, List.setIfInBounds_toArray, List.set_cons_zero, List.set_cons_succ]
      refine wpAnyH_ready (rs := [12]) (by kernel_rfl) (by simp) ?_
      refine AllReadyH.cons rfl (fun K hK => ?_) AllReadyH.nil
      go_simp
      refine hK.out _ _ (hk.out _ fun c h1 h2 h3 => (Below.heap_setCell _ _ _ _ h2).trans (kW c h1 h3)) (fun _ => ?_)
      clear hK K
      try simp only [Act.put, List.setIfInBounds_toArray, List.set_cons_zero, List.set_cons_succ]
      refine wpAnyH_done (by kernel_rfl) ?_ _
      obtain ⟨U', hg1, hg2⟩ := SI.step hB hbase hS.out (by omega) (by omega) (by omega) hdr rfl by1 hOwn.out hrow.out hgrow.out hat
      exact ⟨U', hg1, .inl hg2⟩
    · go_simp
      refine hstr.mono ?_
      rintro e z1 ⟨b3, b4, b5, b8, b9, B3, B4, B5, B8, B9, rfl, hOwn, by1⟩
      obtain ⟨q3, d3, rfl, -, -⟩ := id hOwn.o3
      obtain ⟨q4, d4, rfl, -, -⟩ := id hOwn.o4
      obtain ⟨q5, d5, rfl, -, -⟩ := id hOwn.o5
      obtain ⟨q8, d8, rfl, -, -⟩ := id hOwn.o8
      obtain ⟨q9, d9, rfl, -, -⟩ := id hOwn.o9
      replace hOwn : Hid _ := hOwn
      try unfold pAgg
      go_wp2_with fail
      refine hK.out _ _ (hk.out _ fun c h1 h2 h3 => by1.block c h1) (fun _ => ?_)
      clear hK K
      try simp only [Act.put, List.setIfInBounds_toArray, List.set_cons_zero, List.set_cons_succ]
      refine wpAnyH_ready (rs := [1, 9]) (by kernel_rfl) (by simp) ?_
      refine AllReadyH.cons rfl (fun K hK => ?_) (AllReadyH.cons rfl (fun K hK => ?_) AllReadyH.nil)
      · have cY := hYc.out _ (by1.block _ hYl)
        go_simp
        refine hK.out _ _ (hk.out _ fun c h1 h2 h3 => by1.block c h1) (fun _ => ?_)
        clear hK K cY
        try simp only [Act.put, List.setIfInBounds_toArray, List.set_cons_zero, List.set_cons_succ]
        refine wpAnyH_ready (rs := [9]) (by kernel_rfl) (by simp) ?_
        refine AllReadyH.cons rfl (fun K hK => ?_) AllReadyH.nil
        go_simp
        refine hK.out _ _ (hk.out _ fun c h1 h2 h3 => (Below.heap_alloc _ _ _ (Nat.lt_of_lt_of_le h1 by1.size)).trans (by1.block c h1)) (fun _ => ?_)
        clear hK K
        try simp only [Act.put, List.setIfInBounds_toArray, List.set_cons_zero, List.set_cons_succ]
        refine wpAnyH_ready (rs := [10]) (by kernel_rfl) (by simp) ?_
        refine AllReadyH.cons rfl (fun K hK => ?_) AllReadyH.nil
        have sz1 : W.heap.size ≤ z1.heap.size := by1.size
        refine step_append_lies _ rfl (.tmp 14) (.tmp 22) 36 rfl (y.heap.size + 4) 61 i0 _ 10 168 Try.underlying36 hi hz0 hz1 hz2 rfl (by decide) vo pre.length (flat 10 pre.length (pC (fP s pre) (a 3) (a 4) (a 5) (a 8) (a 9))) rfl
          (ownsRow_keepG hS.out.row fun g hg => (Below.heap_alloc _ _ _ (Nat.lt_of_lt_of_le (hS.out.out g hg).2.1 by1.size)).trans (by1.block g (hS.out.out g hg).2.1)) ⟨z1.heap.size, 0, none⟩ 1 1 (pL (stripP (s.f x.val)) (.slice q3 (stripP (s.f x.val)).code.n d3) (.slice q4 (stripP (s.f x.val)).consts.n d4) (.slice q5 (stripP (s.f x.val)).ups.n d5) (.slice q8 (stripP (s.f x.val)).lines.n d8) (.slice q9 (stripP (s.f x.val)).upNames.n d9)) rfl rfl
          (World.news_of_block (World.alloc_heap_new z1 _)) (by intro u hu; simp only [pL, List.mem_cons, List.not_mem_nil, or_false] at hu; rcases hu with rfl | rfl | rfl | rfl | rfl | rfl | rfl | rfl | rfl | rfl <;> rfl) (by omega) (by simp only [maxLen]; omega) (by omega) (by simp only [World.size_alloc]; omega) _ rfl ?_
        intro g cap' w' hrow hgrow hat hglt
        have sz2 := hgrow.size
        rw [World.size_alloc] at sz2
        have kW : ∀ c, c < W.heap.size → vo.ownBlock ≠ some c → w'.heap[c]? = W.heap[c]? := fun c h1 h3 => by
          rw [hgrow.block c (by rw [World.size_alloc]; omega) (fun e => h3 e.symm), Below.heap_alloc _ _ _ (by omega)]
          exact by1.block c h1
        have hYne : vo.ownBlock ≠ some y.heap.size := fun e => by have := (hS.out.out _ e).1; omega
        have hH2 := hk.out w' fun c h1 h2 h3 => kW c h1 h3
        have bY : RowL w' y.heap.size 38 [vo] := World.rowIs.of_block hS.out.box (kW _ hYl hYne)
        have cY := bY.cell 0 rfl
        have fY := bY.frozen 0
        replace hrow : Hid _ := hrow
        replace hgrow : Hid _ := hgrow
        refine hK.out _ _ hH2 (fun _ => ?_)
        clear hK K
        try simp only [Act.put, List.setIfInBounds_toArray, List.set_cons_zero, List.set_cons_succ]
        refine take_dst 11 24 (.pointer (some ⟨y.heap.size, 0, none⟩)) rfl (by kernel_rfl) (by kernel_rfl) (by kernel_rfl) (fun _ _ _ h => h) (Or.inl ⟨by rfl, by intro wv hSv; (try dsimp only at hSv); go_simp⟩) hH2 rfl ?_
        try simp only [Act.put, List.setIfInBounds_toArray, List.set_cons_zero, List.set_cons_succ]
        refine wpAnyH_ready (rs := [12]) (by kernel_rfl) (by simp) ?_
        refine AllReadyH.cons rfl (fun K hK => ?_) AllReadyH.nil
        go_simp
        refine hK.out _ _ (hk.out _ fun c h1 h2 h3 => (Below.heap_setCell _ _ _ _ h2).trans (kW c h1 h3)) (fun _ => ?_)
        clear hK K
        try simp only [Act.put, List.setIfInBounds_toArray, List.set_cons_zero, List.set_cons_succ]
        refine wpAnyH_done (by kernel_rfl) ?_ _
        obtain ⟨U', hg1, hg2⟩ := SI.step hB hbase hS.out (by omega) (by omega) (by omega) hdr rfl by1 hOwn.out hrow.out hgrow.out hat
        exact ⟨U', hg1, .inl hg2⟩
      · go_simp
        refine hK.out _ _ (hk.out _ fun c h1 h2 h3 => (Below.heap_alloc _ _ _ (Nat.lt_of_lt_of_le h1 by1.size)).trans (by1.block c h1)) (fun _ => ?_)
        clear hK K
        try simp only [Act.put, List.setIfInBounds_toArray, List.set_cons_zero, List.set_cons_succ]
        refine wpAnyH_ready (rs := [1]) (by kernel_rfl) (by simp) ?_
        refine AllReadyH.cons rfl (fun K hK => ?_) AllReadyH.nil
        have cY : ∀ o, (z1.alloc o).cell? ⟨y.heap.size, 0, none⟩ = some vo := fun o => hYc.out _ ((Below.heap_alloc _ _ _ (Nat.lt_of_lt_of_le hYl by1.size)).trans (by1.block _ hYl))
        go_simp
        refine hK.out _ _ (hk.out _ fun c h1 h2 h3 => (Below.heap_alloc _ _ _ (Nat.lt_of_lt_of_le h1 by1.size)).trans (by1.block c h1)) (fun _ => ?_)
        clear hK K cY
        try simp only [Act.put, List.setIfInBounds_toArray, List.set_cons_zero, List.set_cons_succ]
        refine wpAnyH_ready (rs := [10]) (by kernel_rfl) (by simp) ?_
        refine AllReadyH.cons rfl (fun K hK => ?_) AllReadyH.nil
        have sz1 : W.heap.size ≤ z1.heap.size := by1.size
        refine step_append_lies _ rfl (.tmp 14) (.tmp 22) 36 rfl (y.heap.size + 4) 61 i0 _ 10 168 Try.underlying36 hi hz0 hz1 hz2 rfl (by decide) vo pre.length (flat 10 pre.length (pC (fP s pre) (a 3) (a 4) (a 5) (a 8) (a 9))) rfl
          (ownsRow_keepG hS.out.row fun g hg => (Below.heap_alloc _ _ _ (Nat.lt_of_lt_of_le (hS.out.out g hg).2.1 by1.size)).trans (by1.block g (hS.out.out g hg).2.1)) ⟨z1.heap.size, 0, none⟩ 1 1 (pL (stripP (s.f x.val)) (.slice q3 (stripP (s.f x.val)).code.n d3) (.slice q4 (stripP (s.f x.val)).consts.n d4) (.slice q5 (stripP (s.f x.val)).ups.n d5) (.slice q8 (stripP (s.f x.val)).lines.n d8) (.slice q9 (stripP (s.f x.val)).upNames.n d9)) rfl rfl
          (World.news_of_block (World.alloc_heap_new z1 _)) (by intro u hu; simp only [pL, List.mem_cons, List.not_mem_nil, or_false] at hu; rcases hu with rfl | rfl | rfl | rfl | rfl | rfl | rfl | rfl | rfl | rfl <;> rfl) (by omega) (by simp only [maxLen]; omega) (by omega) (by simp only [World.size_alloc]; omega) _ rfl ?_
        intro g cap' w' hrow hgrow hat hglt
        have sz2 := hgrow.size
        rw [World.size_alloc] at sz2
        have kW : ∀ c, c < W.heap.size → vo.ownBlock ≠ some c → w'.heap[c]? = W.heap[c]? := fun c h1 h3 => by
          rw [hgrow.block c (by rw [World.size_alloc]; omega) (fun e => h3 e.symm), Below.heap_alloc _ _ _ (by omega)]
          exact by1.block c h1
        have hYne : vo.ownBlock ≠ some y.heap.size := fun e => by have := (hS.out.out _ e).1; omega
        have hH2 := hk.out w' fun c h1 h2 h3 => kW c h1 h3
        have bY : RowL w' y.heap.size 38 [vo] := World.rowIs.of_block hS.out.box (kW _ hYl hYne)
        have cY := bY.cell 0 rfl
        have fY := bY.frozen 0
        replace hrow : Hid _ := hrow
        replace hgrow : Hid _ := hgrow
        refine hK.out _ _ hH2 (fun _ => ?_)
        clear hK K
        try simp only [Act.put, List.setIfInBounds_toArray, List.set_cons_zero, List.set_cons_succ]
        refine take_dst 11 24 (.pointer (some ⟨y.heap.size, 0, none⟩)) rfl (by kernel_rfl) (by kernel_rfl) (by kernel_rfl) (fun _ _ _ h => h) (Or.inl ⟨by rfl, by intro wv hSv; (try dsimp only at hSv); go_simp⟩) hH2 rfl ?_
        try simp only [Act.put, List.setIfInBounds_toArray, List.set_cons_zero, List.set_cons_succ]
        refine wpAnyH_ready (rs := [12]) (by kernel_rfl) (by simp) ?_
        refine AllReadyH.cons rfl (fun K hK => ?_) AllReadyH.nil
        go_simp
        refine hK.out _ _ (hk.out _ fun c h1 h2 h3 => (Below.heap_setCell _ _ _ _ h2).trans (kW c h1 h3)) (fun _ => ?_)
        clear hK K
        try simp only [Act.put, List.setIfInBounds_toArray, List.set_cons_zero, List.set_cons_succ]
        refine wpAnyH_done (by kernel_rfl) ?_ _
        obtain ⟨U', hg1, hg2⟩ := SI.step hB hbase hS.out (by omega) (by omega) (by omega) hdr rfl by1 hOwn.out hrow.out hgrow.out hat
        exact ⟨U', hg1, .inl hg2⟩
  case stop =>
    rintro D c pre U W hD hpre h hK
    exact h.elim
  case done =>
    rintro D ys U W hD rfl hI hK
    have hseq : nodeSeq (kidsOf s) s.n = List.finRange s.n := if_pos (wf_tree hwf.out)
    rw [hseq] at hI
    have hI2 : SI s (y.heap.size + 4) y.heap.size (w.heap.size + 2) w0 (List.finRange s.n) U W := by
      rcases hI with h | h
      · exact h
      · have := congrArg List.length h.1
        simp at this
        omega
    clear hI
    obtain ⟨hB, hbase, vo, rng, a, b, hS⟩ := hI2
    have hlen : (List.finRange s.n).length = s.n := by simp
    have hrow := hS.row
    rw [hlen] at hrow
    obtain ⟨g, cp, rfl, hg1, hg2⟩ := hrow.form (by omega)
    have sY := hS.box.cell 0 rfl
    have S1 := R1.below hB (by omega)
    have c1 := S1.cell 0 rfl
    have f1 := S1.frozen 0
    have S1' := S1.set 0 (.slice (some ⟨g, 0, none⟩) s.n cp)
    have hK' : (W.setCell ⟨w.heap.size + 1, 0, none⟩ (.slice (some ⟨g, 0, none⟩) s.n cp)).heap[D]? = some (.deferred (some [])) := (Below.heap_setCell _ _ _ _ (by show D ≠ w.heap.size + 1; omega)).trans hK
    have hbel : Hid (Below w.heap.size w (W.setCell ⟨w.heap.size + 1, 0, none⟩ (.slice (some ⟨g, 0, none⟩) s.n cp))) := (bw'.trans (hB.mono (by omega))).setCell (p := ⟨w.heap.size + 1, 0, none⟩) (by show w.heap.size ≤ w.heap.size + 1; omega) _
    have hCO : Hid (COwn ((W.setCell ⟨w.heap.size + 1, 0, none⟩ (.slice (some ⟨g, 0, none⟩) s.n cp)).putObj D (.deferred none)) (.slice (some ⟨g, 0, none⟩) s.n cp) s.n (fun i => stripP (s.f i)) (y.heap.size + 4) ((W.setCell ⟨w.heap.size + 1, 0, none⟩ (.slice (some ⟨g, 0, none⟩) s.n cp)).putObj D (.deferred none)).heap.size g rng a b) := by
      have hkp : ∀ c, y.heap.size + 4 ≤ c → ((W.setCell ⟨w.heap.size + 1, 0, none⟩ (.slice (some ⟨g, 0, none⟩) s.n cp)).putObj D (.deferred none)).heap[c]? = W.heap[c]? := fun c hc => by
        rw [World.putObj_heap_other (by omega), Below.heap_setCell _ _ _ _ (by show c ≠ w.heap.size + 1; omega)]
      obtain ⟨B, hO, hB2⟩ := own_of_ownsRow hrow (by omega)
      obtain ⟨ao', cap', he, q1, q2⟩ := hO
      obtain ⟨e2, t, mm, gg, q3, q4, q5⟩ := q2 (by omega)
      subst e2
      simp only [Value.slice.injEq, Option.some.injEq, Addr.mk.injEq, true_and, and_true] at he
      obtain ⟨rfl, rfl⟩ := he
      refine ⟨⟨_, _, rfl, q1, fun _ => ⟨rfl, t, mm, gg, q3.of_block (hkp _ hg1), q4, fun i hi j hj => ?_⟩⟩, hg1, ⟨hS.rlo, fun i hi => (hS.out g rfl).2.2 i (by omega)⟩, hS.mono, ?_, fun i hi => ?_⟩
      · rw [q5 i hi j hj]
        simp only [pC, fP_all s hi]
      · have := hS.rhi (2 * s.n)
        simpa using this
      · have h1 := hS.each i (by omega)
        rw [fP_all s hi] at h1
        refine h1.keep fun c k1 k2 k3 => hkp c ?_
        have := rng_le hS.mono 0 (2 * i) (by omega)
        have := hS.rlo
        omega
    clear hS hrow hseq R0 R1 RY RN S1 hkids hv' hc ht hB
    gi_wp2
    refine ⟨by simp, .inl ⟨_, _, rfl, run_takeDeferred hK', ?_⟩⟩
    have hfin := (S1'.putOther (l := D) (by omega) (.deferred none)).cell 0 rfl
    refine ⟨.agg #[.slice (some ⟨g, 0, none⟩) s.n cp], by simp [results, Try.results26, go_sem, hfin], .inl ⟨hwf.out, _, _, _, _, _, _, rfl, by omega, hCO.out⟩, ?_⟩
    exact hbel.out.trans (below_putObj _ (by omega) (Array.getElem?_eq_some_iff.1 hK').1 _)
end Go.Proofs.Ytndpbdpngniepaa

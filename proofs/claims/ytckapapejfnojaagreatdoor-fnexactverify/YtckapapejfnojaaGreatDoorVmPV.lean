import Derived.Test.YtckapapejfnojaaGreatDoorGJV
import Derived.Test.YtckapapejfnojaaGreatDoorGAV
import Derived.Deep.Cut
namespace Go.Proofs.YtckapapejfnojaaGreatDoor
open Go.RowKit Go.Shelf
set_option linter.unusedVariables false
set_option linter.unusedSimpArgs false
set_option maxRecDepth 100000
set_option maxHeartbeats 4000000
theorem run_build4 {P : Program} {a : Act} {o : Oper} (t : TypeId) (x0 x1 x2 x3 : Operand) (ho : o.op = .build t #[(0, x0), (1, x1), (2, x2), (3, x3)]) (v0 v1 v2 v3 : Value) (h0 : a.eval x0 = v0) (h1 : a.eval x1 = v1) (h2 : a.eval x2 = v2) (h3 : a.eval x3 = v3) (cells : Array Value) (hf : P.built t [(0, v0), (1, v1), (2, v2), (3, v3)] = some cells) (w : World) : (execOp a.eval o).run P w = .ok (.value (.agg cells)) w := by
  have hp : (#[(0, x0), (1, x1), (2, x2), (3, x3)].map fun (i, x) => (i, a.eval x)).toList = [(0, v0), (1, v1), (2, v2), (3, v3)] := by
    subst h0 h1 h2 h3; simp
  unfold execOp
  simp only [ho, Sem.run_bind, run_build w t _ cells (by rw [hp]; exact hf), Result.andThen_ok]
  rfl
theorem step_store_row {P : Program} {ops : Array Oper} {o : Oper} {a : Act} {w : World} {K : Act → World → Prop} {Q : Exit → Act → World → Prop} {E : Prop} (ty : TypeId) (x y : Operand) (hgd : o.guard = none) (ho : o.op = .store ty x y)
    (g : Nat) (cells : Array Value) (hx : a.eval x = .pointer (some ⟨g, 0, none⟩)) (hy : a.eval y = .agg cells)
    (t : TypeId) (old : Array Value) (hg : w.heap[g]? = some (.cells old t (0, 0))) (hi : (P.info? ty).map (·.size) = some cells.size)
    (hold : old.size = cells.size) (h1 : cells.all (·.oneCell') = true)
    (h : K (a.put o.dst undef) (w.setRow g cells)) : if Region.wanted o (yielded ops a.tmps) = true then Oper.wp P o a w K Q else E := by
  have hw : Region.wanted o (yielded ops a.tmps) = true := by simp [Region.wanted, hgd]
  rw [if_pos hw]
  exact wp_store_row ty x y ho g cells hx hy t old hg hi hold h1 h
theorem ready_store {P : Program} {md : Region.Mode} {ops : Array Oper} {Q : Exit → Act → World → Prop} {S : World → Prop} {fuel : Nat} {listed : Array Bool} {a : Act} {w : World} (i : Nat) {o : Oper} (hr : Region.ready md ops listed = [i]) (hi : ops[i]? = some o)
    (ty : TypeId) (x y : Operand) (hgd : o.guard = none) (ho : o.op = .store ty x y) (hd : o.dst = none)
    (g : Nat) (cells : Array Value) (hx : a.eval x = .pointer (some ⟨g, 0, none⟩)) (hy : a.eval y = .agg cells)
    (t : TypeId) (old : Array Value) (hg : w.heap[g]? = some (.cells old t (0, 0))) (hin : (P.info? ty).map (·.size) = some cells.size)
    (hold : old.size = cells.size) (h1 : cells.all (·.oneCell') = true) (hS : S (w.setRow g cells))
    (h : wpAnyH P md ops Q S fuel (listed.setIfInBounds i true) a (w.setRow g cells)) : wpAnyH P md ops Q S (fuel + 1) listed a w :=
  wpAnyH_ready hr (by simp) (AllReadyH.cons hi (fun K hK => step_store_row ty x y hgd ho g cells hx hy t old hg hin hold h1 (hK.out _ _ hS (fun _ => by rw [hd]; exact h))) AllReadyH.nil)
theorem implVerify_yes (s : Sl PD) (v : Value) (w : World) (hv : IsProtos (· < w.heap.size) w v s) (hw : Wf s) (hC : CodeB s) (hS : Spans w) :
    Calls Tryz.prog 19 #[.agg #[v]] w fun e w' => SaysR e (Rep (EE (kidsOf s) s.n) s) ∧ Below w.heap.size w w' := by
  have hn0 := hw.low
  have hn2 := hw.high
  obtain ⟨ao, cap, rfl⟩ := hv.slice
  obtain ⟨b, o, rfl, hbb, -⟩ := hv.proto (by omega)
  have hv' : Hid (IsProtos (· < w.heap.size) w (.slice (some ⟨b, o, none⟩) s.n cap) s) := hv
  replace hw : Hid (Wf s) := hw
  replace hC : Hid (CodeB s) := hC
  replace hS : Hid (Spans w) := hS
  clear hv hbb
  go_enter Tryz.func19, Tryz.ntmps19
  go_wp2_with fail
  have R0 := (RowL.new w [.slice (some ⟨b, o, none⟩) s.n cap] 24).alloc (.cells #[.int .i64 0, .int .i64 0, .int .i64 0] 41)
  have Q0 := RowL.new (w.alloc (.cells #[.slice (some ⟨b, o, none⟩) s.n cap] 24)) [.int .i64 0, .int .i64 0, .int .i64 0] 41
  rw [World.size_alloc] at Q0
  have bw : Below w.heap.size w ((w.alloc (.cells #[.slice (some ⟨b, o, none⟩) s.n cap] 24)).alloc (.cells #[.int .i64 0, .int .i64 0, .int .i64 0] 41)) := ((Below.refl _ _).alloc (Nat.le_refl _) _).alloc (by rw [World.size_alloc]; omega) _
  generalize (w.alloc (.cells #[.slice (some ⟨b, o, none⟩) s.n cap] 24)).alloc (.cells #[.int .i64 0, .int .i64 0, .int .i64 0] 41) = w1 at R0 Q0 bw ⊢
  refine (implWF_in s _ w1 (hv'.out.later bw)).mono ?_
  rintro e w2 ⟨⟨r, rfl, hr⟩, b9⟩
  obtain rfl : r = true := hr.2 hw.out
  replace R0 := R0.call b9
  replace Q0 := Q0.call b9
  replace bw := bw.trans (b9.mono bw.size)
  clear b9 hr
  have hp2 : Hid (IsProtos (· < w2.heap.size) w2 (.slice (some ⟨b, o, none⟩) s.n cap) s) := hv'.out.later bw
  have hSpw : Hid (Spans w2) := hS.out.below bw
  have hte : Hid (∀ y, Below w2.heap.size w2 y → Calls Tryz.prog 41 #[.slice (some ⟨b, o, none⟩) s.n cap] y fun e w' => (∃ E : Nat → Nat, e = .returned (.slice (some ⟨y.heap.size, 0, none⟩) s.n s.n) ∧ w'.rowIs y.heap.size 3 s.n (fun j => .int .i64 (E j : Int)) ∧ ∀ i, i < s.n → ∃ h, Fo (kidsOf s) s.n 1 i (E i) h) ∧ Below y.heap.size y w') := fun y hy => ends_of y s b o cap hw.out (hp2.out.later hy)
  have hsk : ∀ y, Below w2.heap.size w2 y → y.cell? ⟨w.heap.size, 0, none⟩ = some (.slice (some ⟨b, o, none⟩) s.n cap) := fun y hy => (R0.call hy).cell 0 rfl
  replace hv' : Hid _ := hv'
  replace Q0 : Hid (RowL w2 (w.heap.size + 1) 41 [.int .i64 0, .int .i64 0, .int .i64 0]) := Q0
  replace R0 : Hid _ := R0
  replace bw : Hid (Below w.heap.size w w2) := bw
  replace hsk : Hid _ := hsk
  go_upto_region 3 with fail
  go_cut [3] from 8 (fun v3 wr => ∃ VB eb cb, v3 = .pointer (some ⟨VB, 0, none⟩) ∧ Hid (Vok wr s VB b o cap eb 0 s.n cb ∧ Below w2.heap.size w2 wr))
  case rest =>
    obtain ⟨VB, eb, cb, rfl, hc9⟩ := hcut
    obtain ⟨hV, bV⟩ := hc9.out
    replace Q0 := Q0.out.call bV
    have bW := bw.out.trans (bV.mono bw.out.size)
    clear hc9 bV R0 hsk hte hp2 hSpw hv' hS bw
    have hn2I : (s.n : Int) ≤ 200 := by omega
    replace hV : Hid _ := hV
    replace Q0 : Hid _ := Q0
    replace bW : Hid _ := bW
    go_wp2_with fail
    have F0 := RowL.new wc (fnL VB) 96
    have b4 : Below wc.heap.size wc (wc.alloc (.cells (fnL VB).toArray 96)) := (Below.refl _ _).alloc (Nat.le_refl _) _
    have s0 : Hid (Rnd w (wc.alloc (.cells (fnL VB).toArray 96)) s VB b o cap eb cb wc.heap.size 0 0) :=
      ⟨Vok.later hV.out b4, F0, RowL.call Q0.out b4, Below.trans bW.out (b4.mono (Below.size bW.out)), fun r' h => absurd h (by omega), fun j h => absurd h (by omega)⟩
    simp only [fnL] at s0
    clear F0 b4 hV Q0 bW
    generalize wc.heap.size = fb at s0 ⊢
    generalize wc.alloc (.cells #[.func (.func 43) #[.pointer (some ⟨VB, 0, none⟩)] #[], .func (.func 44) #[.pointer (some ⟨VB, 0, none⟩)] #[]] 96) = w3 at s0 ⊢
    go_loopw [5, 6, 7, 24] (fun _ _ _ kv wr => ∃ r : Nat, kv = .int .i64 (r : Int) ∧ r ≤ 2 ∧ Hid (Rnd w wr s VB b o cap eb cb fb r 0)) (fun _ _ _ kv _ => 2 - (intOf kv).toNat)
    case atStart => exact ⟨0, rfl, by omega, s0.out⟩
    case round =>
      obtain ⟨r, rfl, hr, hT9⟩ := hrel
      obtain ⟨wA, hwA⟩ : ∃ x, x = wr := ⟨_, rfl⟩
      subst hwA
      clear s0
      by_cases hr2 : r < 2
      · have hrI : (r : Int) < 2 := by omega
        have f0 := fn_cell hT9.out.fn hr2
        have f1 := hT9.out.fn.lt
        have v0 := hT9.out.ok.ver.c0
        have v1 := hT9.out.ok.ver.lt
        go_wp2_with fail
        clear f0 f1 v0 v1
        go_loopw [6, 7, 31] (fun _ _ kv wq => ∃ k : Nat, kv = .int .i64 (k : Int) ∧ k ≤ s.n ∧ Hid (Rnd w wq s VB b o cap eb cb fb r k)) (fun _ _ kv _ => s.n - (intOf kv).toNat)
        case atStart => exact ⟨0, rfl, by omega, hT9.out⟩
        case round =>
          obtain ⟨k, rfl, hk, hT8⟩ := hrel
          obtain ⟨vA, hvA⟩ : ∃ x, x = wr := ⟨_, rfl⟩
          subst hvA
          clear hT9
          by_cases hkn : k < s.n
          · have hkI : (k : Int) < (s.n : Int) := by omega
            have hck : Hid (Calls Tryz.prog (vfF r) #[.pointer (some ⟨VB, 0, none⟩), .int .i64 (k : Int)] vA fun e w' => SaysR e (RR (EE (kidsOf s) s.n) s r k) ∧ Below vA.heap.size vA w') := vf_in hT8.out.ok hw.out hC.out r k hkn
            go_wp2_with fail
            rw [vf_call hr2]
            go_wp2_with fail
            refine Calls.mono hck.out ?_
            rintro e y1 ⟨⟨c, pr, pc, rfl, hR⟩, b9⟩
            have hT7 := hT8.out.later b9
            clear hck b9 hT8
            have b5 : Below y1.heap.size y1 (y1.alloc (.cells #[.int .i64 c, .int .i64 pr, .int .i64 pc] 41)) := (Below.refl _ _).alloc (Nat.le_refl _) _
            have hT6 := hT7.later b5
            by_cases hc : c = 0
            · subst hc
              obtain ⟨rfl, rfl⟩ := hR.zero
              have T1 : Hid (Rnd w (y1.alloc (.cells #[.int .i64 0, .int .i64 0, .int .i64 0] 41)) s VB b o cap eb cb fb r (k + 1)) := ⟨hT6.ok, hT6.fn, hT6.rep, hT6.bel, hT6.old, fun j hj => by by_cases e : j = k; (subst e; exact hR); exact hT6.now j (by omega)⟩
              clear hR hT6 hT7 b5
              go_wp2_with fail
              go_roundw
              case rel => exact ⟨k + 1, by go_num, by omega, T1.out⟩
              case measure => simp [intOf]; omega
            · have hno : Hid (Rep (EE (kidsOf s) s.n) s c pr pc) := rep_of hr2 hkn hc hR hT6.now hT6.old
              have hne : (c != 0) = true := by simpa using hc
              have KB := RowL.new y1 [.int .i64 c, .int .i64 pr, .int .i64 pc] 41
              have Q0 := hT6.rep
              have bW := hT6.bel
              clear hT6 hT7 hR b5
              go_upto_region 11 with fail
              generalize y1.alloc (.cells #[.int .i64 c, .int .i64 pr, .int .i64 pc] 41) = wB at KB Q0 bW ⊢
              generalize y1.heap.size = PK at KB ⊢
              have k0 := KB.cell 0 rfl
              have k1 := KB.cell 1 rfl
              have k2 := KB.cell 2 rfl
              have kl := KB.lt
              have e0 := Q0.cell 0 rfl
              have e1 := Q0.cell 1 rfl
              have e2 := Q0.cell 2 rfl
              have ef := Q0.frozen
              have hq2 := Q0.lt
              have L := (((Q0.set 0 (.int .i64 c)).set 1 (.int .i64 pr)).set 2 (.int .i64 pc))
              have bf := (Below.setCell (Below.setCell (Below.setCell bW (p := ⟨w.heap.size + 1, 0, none⟩) (Nat.le_succ _) (.int .i64 c)) (p := ⟨w.heap.size + 1, 1, none⟩) (Nat.le_succ _) (.int .i64 pr)) (p := ⟨w.heap.size + 1, 2, none⟩) (Nat.le_succ _) (.int .i64 pc))
              have l0 := L.cell 0 rfl
              have l1 := L.cell 1 rfl
              have l2 := L.cell 2 rfl
              replace L : Hid _ := L
              replace Q0 : Hid _ := Q0
              replace KB : Hid _ := KB
              go_wp2_with fail
              refine bodyPost_ret (v := .agg #[.int .i64 c, .int .i64 pr, .int .i64 pc]) ?_ rfl ⟨⟨_, _, _, rfl, hno.out⟩, bf⟩
              simp [results, Tryz.results19, go_sem, l0, l1, l2]
          · have hkI : ¬ ((k : Int) < (s.n : Int)) := by omega
            have T1 : Hid (Rnd w vA s VB b o cap eb cb fb (r + 1) 0) := ⟨hT8.out.ok, hT8.out.fn, hT8.out.rep, hT8.out.bel, fun r' h' j hj => by by_cases e : r' = r; (subst e; exact hT8.out.now j (by omega)); exact hT8.out.old r' (by omega) j hj, fun j h => absurd h (by omega)⟩
            clear hT8
            go_wp2_with fail
            go_roundw
            case rel => exact ⟨r + 1, by go_num, by omega, T1.out⟩
            case measure => simp [intOf]; omega
      · obtain rfl : r = 2 := by omega
        have hyes : Hid (Rep (EE (kidsOf s) s.n) s 0 0 0) := rep_end hT9.out.old
        have hR := hT9.out.rep
        have hB := hT9.out.bel
        have e0 := hR.cell 0 rfl
        have e1 := hR.cell 1 rfl
        have e2 := hR.cell 2 rfl
        have ef := hR.frozen
        have hq2 := hR.lt
        have L := (((hR.set 0 (.int .i64 0)).set 1 (.int .i64 0)).set 2 (.int .i64 0))
        have bf := (Below.setCell (Below.setCell (Below.setCell hB (p := ⟨w.heap.size + 1, 0, none⟩) (Nat.le_succ _) (.int .i64 0)) (p := ⟨w.heap.size + 1, 1, none⟩) (Nat.le_succ _) (.int .i64 0)) (p := ⟨w.heap.size + 1, 2, none⟩) (Nat.le_succ _) (.int .i64 0))
        have l0 := L.cell 0 rfl
        have l1 := L.cell 1 rfl
        have l2 := L.cell 2 rfl
        replace L : Hid _ := L
        replace hR : Hid _ := hR
        clear hT9
        go_wp2_with fail
        refine bodyPost_ret (v := .agg #[.int .i64 0, .int .i64 0, .int .i64 0]) ?_ rfl ⟨⟨_, _, _, rfl, hyes.out⟩, bf⟩
        simp [results, Tryz.results19, go_sem, l0, l1, l2]
  obtain ⟨S, hSe⟩ : ∃ S : World → Prop, S = fun y : World => y.cell? ⟨w.heap.size, 0, none⟩ = some (.slice (some ⟨b, o, none⟩) s.n cap) := ⟨_, rfl⟩
  have hSk : Hid (∀ y, Below w2.heap.size w2 y → S y) := fun y hy => by rw [hSe]; exact hsk.out y hy
  have bY0 : Below w2.heap.size w2 w2.drew := (Below.refl _ _).drew
  have hS0 := hSk.out _ bY0
  refine wp_region_held_drew (S := S) (by kernel_rfl) hS0 (fun hH => ?_)
  generalize w2.drew = yd at bY0 hS0 ⊢
  refine take_dst 0 12 (.pointer (some ⟨w.heap.size, 0, none⟩)) rfl (by kernel_rfl) (by kernel_rfl) (by kernel_rfl) (fun _ _ _ h => h) (Or.inl ⟨by rfl, by intro wv hSv; (try dsimp only at hSv); go_simp⟩) hS0 rfl ?_
  try simp only [tk0, tk1, tk2, tk3, tk4]
  refine take_dst 2 14 (.pointer (some ⟨w.heap.size, 0, none⟩)) rfl (by kernel_rfl) (by kernel_rfl) (by kernel_rfl) (fun _ _ _ h => h) (Or.inl ⟨by rfl, by intro wv hSv; (try dsimp only at hSv); go_simp⟩) hS0 rfl ?_
  try simp only [tk0, tk1, tk2, tk3, tk4]
  refine take_dst 1 13 (.slice (some ⟨b, o, none⟩) s.n cap) rfl (by kernel_rfl) (by kernel_rfl) (by kernel_rfl) (fun _ _ _ h => h) (Or.inl ⟨by rfl, by intro wv hSv; (try dsimp only at hSv); rw [hSe] at hSv; go_simp⟩) hS0 rfl ?_
  try simp only [tk0, tk1, tk2, tk3, tk4]
  refine take_dst 3 15 (.slice (some ⟨b, o, none⟩) s.n cap) rfl (by kernel_rfl) (by kernel_rfl) (by kernel_rfl) (fun _ _ _ h => h) (Or.inl ⟨by rfl, by intro wv hSv; (try dsimp only at hSv); rw [hSe] at hSv; go_simp⟩) hS0 rfl ?_
  try simp only [tk0, tk1, tk2, tk3, tk4]
  refine wpAnyH_ready (rs := [4, 8]) (by kernel_rfl) (by simp) ?_
  refine (AllReadyH.cons rfl (fun K hK => ?_) (AllReadyH.cons rfl (fun K hK => ?_) AllReadyH.nil))
  ·
    go_simp
    refine Calls.mono (hte.out _ bY0) ?_
    rintro e y1 ⟨⟨E, rfl, he1, hE1⟩, b1⟩
    have bY1 := bY0.trans (b1.mono bY0.size)
    have hS1 := hSk.out _ bY1
    have z1 := b1.size
    have ze1 := World.rowIs.lt he1
    go_wp2_with fail
    refine hK.out _ _ hS1 (fun _ => ?_)
    clear hK K
    try simp only [tk0, tk1, tk2, tk3, tk4]
    refine wpAnyH_ready (rs := [5, 8]) (by kernel_rfl) (by simp) ?_
    refine (AllReadyH.cons rfl (fun K hK => ?_) (AllReadyH.cons rfl (fun K hK => ?_) AllReadyH.nil))
    ·
      go_simp
      refine Calls.mono (allUsages_in _) ?_
      rintro e y2 ⟨rfl, b2⟩
      have bY2 := bY1.trans (b2.mono bY1.size)
      have hS2 := hSk.out _ bY2
      have he2 := World.rowIs.of_block he1 (b2.block _ (World.rowIs.lt he1))
      have z2 := b2.size
      go_wp2_with fail
      refine hK.out _ _ hS2 (fun _ => ?_)
      clear hK K
      try simp only [tk0, tk1, tk2, tk3, tk4]
      refine wpAnyH_ready (rs := [6, 8]) (by kernel_rfl) (by simp) ?_
      refine (AllReadyH.cons rfl (fun K hK => ?_) (AllReadyH.cons rfl (fun K hK => ?_) AllReadyH.nil))
      ·
        go_simp
        refine Calls.mono (allChecks_in _) ?_
        rintro e y3 ⟨rfl, hk3, b3⟩
        have bY3 := bY2.trans (b3.mono bY2.size)
        have hS3 := hSk.out _ bY3
        have he3 := World.rowIs.of_block he2 (b3.block _ (World.rowIs.lt he2))
        have z3 := b3.size
        have zk3 := hk3.lt
        go_wp2_with fail
        refine hK.out _ _ hS3 (fun _ => ?_)
        clear hK K
        try simp only [tk0, tk1, tk2, tk3, tk4]
        refine take_dst 7 19 (.agg (vrTab (.slice (some ⟨b, o, none⟩) s.n cap) (.slice (some ⟨(yd).heap.size, 0, none⟩) s.n s.n) (.slice (some ⟨(y2).heap.size, 0, none⟩) 9 9))) rfl (by kernel_rfl) (by kernel_rfl) (by kernel_rfl) (fun _ _ _ h => h) (Or.inl ⟨by rfl, fun wv _ => run_build4 95 (.tmp 13) (.tmp 16) (.tmp 17) (.tmp 18) rfl (.slice (some ⟨b, o, none⟩) s.n cap) (.slice (some ⟨(yd).heap.size, 0, none⟩) s.n s.n) (.agg usTab) (.slice (some ⟨(y2).heap.size, 0, none⟩) 9 9) rfl rfl rfl rfl _ (vr_built _ _ _ _ _ _ _ _ _) wv⟩) hS3 rfl ?_
        try simp only [tk0, tk1, tk2, tk3, tk4]
        obtain ⟨T, hT⟩ : ∃ T, T = vrTab (.slice (some ⟨b, o, none⟩) s.n cap) (.slice (some ⟨(yd).heap.size, 0, none⟩) s.n s.n) (.slice (some ⟨(y2).heap.size, 0, none⟩) 9 9) := ⟨_, rfl⟩
        rw [← hT]
        replace hT : Hid (T = vrTab (.slice (some ⟨b, o, none⟩) s.n cap) (.slice (some ⟨(yd).heap.size, 0, none⟩) s.n s.n) (.slice (some ⟨(y2).heap.size, 0, none⟩) 9 9)) := hT
        refine wpAnyH_ready (rs := [8]) (by kernel_rfl) (by simp) ?_
        refine (AllReadyH.cons rfl (fun K hK => ?_) AllReadyH.nil)
        go_simp
        have b4 : Below (y3).heap.size (y3) ((y3).alloc (.cells Tryz.zeroCells95 95)) := (Below.refl _ _).alloc (Nat.le_refl _) _
        have bY4 := bY3.trans (b4.mono bY3.size)
        have hS4 := hSk.out _ bY4
        have he4 := World.rowIs.of_block he3 (b4.block _ (World.rowIs.lt he3))
        have hk4 := hk3.call b4
        have hz4 : ((y3).alloc (.cells Tryz.zeroCells95 95)).heap[(y3).heap.size]? = some (.cells Tryz.zeroCells95 95 (0, 0)) := heap_alloc_new _ _
        have z4 : (y3).heap.size < ((y3).alloc (.cells Tryz.zeroCells95 95)).heap.size := by rw [World.size_alloc]; omega
        refine hK.out _ _ hS4 (fun _ => ?_)
        clear hK K
        try simp only [tk0, tk1, tk2, tk3, tk4]
        generalize (y3).alloc (.cells Tryz.zeroCells95 95) = y4 at bY4 hS4 hz4 z4 b4 he4 hk4 ⊢
        have i1 : (Tryz.prog.info? 95).map (·.size) = some T.size := by rw [hT.out]; exact vr_info _ _ _
        have i2 : Tryz.zeroCells95.size = T.size := by rw [hT.out]; exact vr_zero _ _ _
        have i3 : T.all (·.oneCell') = true := by rw [hT.out]; exact vr_one _ _ _ _ _ _ _ _ _
        have z0 := bY0.size
        obtain ⟨hV9, hB9⟩ := vok_fin bY4 (by omega) hz4 hp2.out hn0 hSpw.out he4 hE1 hk4 (by omega) (by omega)
        rw [← hT.out] at hV9 hB9
        have hS9 := hSk.out _ hB9
        refine ready_store 9 (by kernel_rfl) rfl 95 (.tmp 3) (.tmp 19) rfl rfl rfl ((y3).heap.size) T rfl rfl 95 Tryz.zeroCells95 hz4 i1 i2 i3 hS9 ?_
        refine wpAnyH_done (by kernel_rfl) ?_ _
        go_wp2_with fail
        go_meet
        case rel => exact ⟨_, _, _, rfl, hV9, hB9⟩
      ·
        go_simp
        have b5 : Below (y2).heap.size (y2) ((y2).alloc (.cells Tryz.zeroCells95 95)) := (Below.refl _ _).alloc (Nat.le_refl _) _
        have bY5 := bY2.trans (b5.mono bY2.size)
        have hS5 := hSk.out _ bY5
        have he5 := World.rowIs.of_block he2 (b5.block _ (World.rowIs.lt he2))
        have hz5 : ((y2).alloc (.cells Tryz.zeroCells95 95)).heap[(y2).heap.size]? = some (.cells Tryz.zeroCells95 95 (0, 0)) := heap_alloc_new _ _
        have z5 : (y2).heap.size < ((y2).alloc (.cells Tryz.zeroCells95 95)).heap.size := by rw [World.size_alloc]; omega
        refine hK.out _ _ hS5 (fun _ => ?_)
        clear hK K
        try simp only [tk0, tk1, tk2, tk3, tk4]
        generalize (y2).alloc (.cells Tryz.zeroCells95 95) = y5 at bY5 hS5 hz5 z5 b5 he5 ⊢
        refine wpAnyH_ready (rs := [6]) (by kernel_rfl) (by simp) ?_
        refine (AllReadyH.cons rfl (fun K hK => ?_) AllReadyH.nil)
        go_simp
        refine Calls.mono (allChecks_in _) ?_
        rintro e y6 ⟨rfl, hk6, b6⟩
        have bY6 := bY5.trans (b6.mono bY5.size)
        have hS6 := hSk.out _ bY6
        have hz6 : (y6).heap[(y2).heap.size]? = some (.cells Tryz.zeroCells95 95 (0, 0)) := (b6.block _ (Array.getElem?_eq_some_iff.1 hz5).1).trans hz5
        have he6 := World.rowIs.of_block he5 (b6.block _ (World.rowIs.lt he5))
        have z6 := b6.size
        have zk6 := hk6.lt
        go_wp2_with fail
        refine hK.out _ _ hS6 (fun _ => ?_)
        clear hK K
        try simp only [tk0, tk1, tk2, tk3, tk4]
        refine take_dst 7 19 (.agg (vrTab (.slice (some ⟨b, o, none⟩) s.n cap) (.slice (some ⟨(yd).heap.size, 0, none⟩) s.n s.n) (.slice (some ⟨(y5).heap.size, 0, none⟩) 9 9))) rfl (by kernel_rfl) (by kernel_rfl) (by kernel_rfl) (fun _ _ _ h => h) (Or.inl ⟨by rfl, fun wv _ => run_build4 95 (.tmp 13) (.tmp 16) (.tmp 17) (.tmp 18) rfl (.slice (some ⟨b, o, none⟩) s.n cap) (.slice (some ⟨(yd).heap.size, 0, none⟩) s.n s.n) (.agg usTab) (.slice (some ⟨(y5).heap.size, 0, none⟩) 9 9) rfl rfl rfl rfl _ (vr_built _ _ _ _ _ _ _ _ _) wv⟩) hS6 rfl ?_
        try simp only [tk0, tk1, tk2, tk3, tk4]
        obtain ⟨T, hT⟩ : ∃ T, T = vrTab (.slice (some ⟨b, o, none⟩) s.n cap) (.slice (some ⟨(yd).heap.size, 0, none⟩) s.n s.n) (.slice (some ⟨(y5).heap.size, 0, none⟩) 9 9) := ⟨_, rfl⟩
        rw [← hT]
        replace hT : Hid (T = vrTab (.slice (some ⟨b, o, none⟩) s.n cap) (.slice (some ⟨(yd).heap.size, 0, none⟩) s.n s.n) (.slice (some ⟨(y5).heap.size, 0, none⟩) 9 9)) := hT
        have i1 : (Tryz.prog.info? 95).map (·.size) = some T.size := by rw [hT.out]; exact vr_info _ _ _
        have i2 : Tryz.zeroCells95.size = T.size := by rw [hT.out]; exact vr_zero _ _ _
        have i3 : T.all (·.oneCell') = true := by rw [hT.out]; exact vr_one _ _ _ _ _ _ _ _ _
        have z0 := bY0.size
        obtain ⟨hV9, hB9⟩ := vok_fin bY6 (by omega) hz6 hp2.out hn0 hSpw.out he6 hE1 hk6 (by omega) (by omega)
        rw [← hT.out] at hV9 hB9
        have hS9 := hSk.out _ hB9
        refine ready_store 9 (by kernel_rfl) rfl 95 (.tmp 3) (.tmp 19) rfl rfl rfl ((y2).heap.size) T rfl rfl 95 Tryz.zeroCells95 hz6 i1 i2 i3 hS9 ?_
        refine wpAnyH_done (by kernel_rfl) ?_ _
        go_wp2_with fail
        go_meet
        case rel => exact ⟨_, _, _, rfl, hV9, hB9⟩
    ·
      go_simp
      have b7 : Below (y1).heap.size (y1) ((y1).alloc (.cells Tryz.zeroCells95 95)) := (Below.refl _ _).alloc (Nat.le_refl _) _
      have bY7 := bY1.trans (b7.mono bY1.size)
      have hS7 := hSk.out _ bY7
      have he7 := World.rowIs.of_block he1 (b7.block _ (World.rowIs.lt he1))
      have hz7 : ((y1).alloc (.cells Tryz.zeroCells95 95)).heap[(y1).heap.size]? = some (.cells Tryz.zeroCells95 95 (0, 0)) := heap_alloc_new _ _
      have z7 : (y1).heap.size < ((y1).alloc (.cells Tryz.zeroCells95 95)).heap.size := by rw [World.size_alloc]; omega
      refine hK.out _ _ hS7 (fun _ => ?_)
      clear hK K
      try simp only [tk0, tk1, tk2, tk3, tk4]
      generalize (y1).alloc (.cells Tryz.zeroCells95 95) = y7 at bY7 hS7 hz7 z7 b7 he7 ⊢
      refine wpAnyH_ready (rs := [5]) (by kernel_rfl) (by simp) ?_
      refine (AllReadyH.cons rfl (fun K hK => ?_) AllReadyH.nil)
      go_simp
      refine Calls.mono (allUsages_in _) ?_
      rintro e y8 ⟨rfl, b8⟩
      have bY8 := bY7.trans (b8.mono bY7.size)
      have hS8 := hSk.out _ bY8
      have hz8 : (y8).heap[(y1).heap.size]? = some (.cells Tryz.zeroCells95 95 (0, 0)) := (b8.block _ (Array.getElem?_eq_some_iff.1 hz7).1).trans hz7
      have he8 := World.rowIs.of_block he7 (b8.block _ (World.rowIs.lt he7))
      have z8 := b8.size
      go_wp2_with fail
      refine hK.out _ _ hS8 (fun _ => ?_)
      clear hK K
      try simp only [tk0, tk1, tk2, tk3, tk4]
      refine wpAnyH_ready (rs := [6]) (by kernel_rfl) (by simp) ?_
      refine (AllReadyH.cons rfl (fun K hK => ?_) AllReadyH.nil)
      go_simp
      refine Calls.mono (allChecks_in _) ?_
      rintro e y9 ⟨rfl, hk9, b9⟩
      have bY9 := bY8.trans (b9.mono bY8.size)
      have hS9 := hSk.out _ bY9
      have hz9 : (y9).heap[(y1).heap.size]? = some (.cells Tryz.zeroCells95 95 (0, 0)) := (b9.block _ (Array.getElem?_eq_some_iff.1 hz8).1).trans hz8
      have he9 := World.rowIs.of_block he8 (b9.block _ (World.rowIs.lt he8))
      have z9 := b9.size
      have zk9 := hk9.lt
      go_wp2_with fail
      refine hK.out _ _ hS9 (fun _ => ?_)
      clear hK K
      try simp only [tk0, tk1, tk2, tk3, tk4]
      refine take_dst 7 19 (.agg (vrTab (.slice (some ⟨b, o, none⟩) s.n cap) (.slice (some ⟨(yd).heap.size, 0, none⟩) s.n s.n) (.slice (some ⟨(y8).heap.size, 0, none⟩) 9 9))) rfl (by kernel_rfl) (by kernel_rfl) (by kernel_rfl) (fun _ _ _ h => h) (Or.inl ⟨by rfl, fun wv _ => run_build4 95 (.tmp 13) (.tmp 16) (.tmp 17) (.tmp 18) rfl (.slice (some ⟨b, o, none⟩) s.n cap) (.slice (some ⟨(yd).heap.size, 0, none⟩) s.n s.n) (.agg usTab) (.slice (some ⟨(y8).heap.size, 0, none⟩) 9 9) rfl rfl rfl rfl _ (vr_built _ _ _ _ _ _ _ _ _) wv⟩) hS9 rfl ?_
      try simp only [tk0, tk1, tk2, tk3, tk4]
      obtain ⟨T, hT⟩ : ∃ T, T = vrTab (.slice (some ⟨b, o, none⟩) s.n cap) (.slice (some ⟨(yd).heap.size, 0, none⟩) s.n s.n) (.slice (some ⟨(y8).heap.size, 0, none⟩) 9 9) := ⟨_, rfl⟩
      rw [← hT]
      replace hT : Hid (T = vrTab (.slice (some ⟨b, o, none⟩) s.n cap) (.slice (some ⟨(yd).heap.size, 0, none⟩) s.n s.n) (.slice (some ⟨(y8).heap.size, 0, none⟩) 9 9)) := hT
      have i1 : (Tryz.prog.info? 95).map (·.size) = some T.size := by rw [hT.out]; exact vr_info _ _ _
      have i2 : Tryz.zeroCells95.size = T.size := by rw [hT.out]; exact vr_zero _ _ _
      have i3 : T.all (·.oneCell') = true := by rw [hT.out]; exact vr_one _ _ _ _ _ _ _ _ _
      have z0 := bY0.size
      obtain ⟨hV9, hB9⟩ := vok_fin bY9 (by omega) hz9 hp2.out hn0 hSpw.out he9 hE1 hk9 (by omega) (by omega)
      rw [← hT.out] at hV9 hB9
      have hS9 := hSk.out _ hB9
      refine ready_store 9 (by kernel_rfl) rfl 95 (.tmp 3) (.tmp 19) rfl rfl rfl ((y1).heap.size) T rfl rfl 95 Tryz.zeroCells95 hz9 i1 i2 i3 hS9 ?_
      refine wpAnyH_done (by kernel_rfl) ?_ _
      go_wp2_with fail
      go_meet
      case rel => exact ⟨_, _, _, rfl, hV9, hB9⟩
  ·
    go_simp
    have b10 : Below (yd).heap.size (yd) ((yd).alloc (.cells Tryz.zeroCells95 95)) := (Below.refl _ _).alloc (Nat.le_refl _) _
    have bY10 := bY0.trans (b10.mono bY0.size)
    have hS10 := hSk.out _ bY10
    have hz10 : ((yd).alloc (.cells Tryz.zeroCells95 95)).heap[(yd).heap.size]? = some (.cells Tryz.zeroCells95 95 (0, 0)) := heap_alloc_new _ _
    have z10 : (yd).heap.size < ((yd).alloc (.cells Tryz.zeroCells95 95)).heap.size := by rw [World.size_alloc]; omega
    refine hK.out _ _ hS10 (fun _ => ?_)
    clear hK K
    try simp only [tk0, tk1, tk2, tk3, tk4]
    generalize (yd).alloc (.cells Tryz.zeroCells95 95) = y10 at bY10 hS10 hz10 z10 b10 ⊢
    refine wpAnyH_ready (rs := [4]) (by kernel_rfl) (by simp) ?_
    refine (AllReadyH.cons rfl (fun K hK => ?_) AllReadyH.nil)
    go_simp
    refine Calls.mono (hte.out _ bY10) ?_
    rintro e y11 ⟨⟨E, rfl, he11, hE11⟩, b11⟩
    have bY11 := bY10.trans (b11.mono bY10.size)
    have hS11 := hSk.out _ bY11
    have hz11 : (y11).heap[(yd).heap.size]? = some (.cells Tryz.zeroCells95 95 (0, 0)) := (b11.block _ (Array.getElem?_eq_some_iff.1 hz10).1).trans hz10
    have z11 := b11.size
    have ze11 := World.rowIs.lt he11
    go_wp2_with fail
    refine hK.out _ _ hS11 (fun _ => ?_)
    clear hK K
    try simp only [tk0, tk1, tk2, tk3, tk4]
    refine wpAnyH_ready (rs := [5]) (by kernel_rfl) (by simp) ?_
    refine (AllReadyH.cons rfl (fun K hK => ?_) AllReadyH.nil)
    go_simp
    refine Calls.mono (allUsages_in _) ?_
    rintro e y12 ⟨rfl, b12⟩
    have bY12 := bY11.trans (b12.mono bY11.size)
    have hS12 := hSk.out _ bY12
    have hz12 : (y12).heap[(yd).heap.size]? = some (.cells Tryz.zeroCells95 95 (0, 0)) := (b12.block _ (Array.getElem?_eq_some_iff.1 hz11).1).trans hz11
    have he12 := World.rowIs.of_block he11 (b12.block _ (World.rowIs.lt he11))
    have z12 := b12.size
    go_wp2_with fail
    refine hK.out _ _ hS12 (fun _ => ?_)
    clear hK K
    try simp only [tk0, tk1, tk2, tk3, tk4]
    refine wpAnyH_ready (rs := [6]) (by kernel_rfl) (by simp) ?_
    refine (AllReadyH.cons rfl (fun K hK => ?_) AllReadyH.nil)
    go_simp
    refine Calls.mono (allChecks_in _) ?_
    rintro e y13 ⟨rfl, hk13, b13⟩
    have bY13 := bY12.trans (b13.mono bY12.size)
    have hS13 := hSk.out _ bY13
    have hz13 : (y13).heap[(yd).heap.size]? = some (.cells Tryz.zeroCells95 95 (0, 0)) := (b13.block _ (Array.getElem?_eq_some_iff.1 hz12).1).trans hz12
    have he13 := World.rowIs.of_block he12 (b13.block _ (World.rowIs.lt he12))
    have z13 := b13.size
    have zk13 := hk13.lt
    go_wp2_with fail
    refine hK.out _ _ hS13 (fun _ => ?_)
    clear hK K
    try simp only [tk0, tk1, tk2, tk3, tk4]
    refine take_dst 7 19 (.agg (vrTab (.slice (some ⟨b, o, none⟩) s.n cap) (.slice (some ⟨(y10).heap.size, 0, none⟩) s.n s.n) (.slice (some ⟨(y12).heap.size, 0, none⟩) 9 9))) rfl (by kernel_rfl) (by kernel_rfl) (by kernel_rfl) (fun _ _ _ h => h) (Or.inl ⟨by rfl, fun wv _ => run_build4 95 (.tmp 13) (.tmp 16) (.tmp 17) (.tmp 18) rfl (.slice (some ⟨b, o, none⟩) s.n cap) (.slice (some ⟨(y10).heap.size, 0, none⟩) s.n s.n) (.agg usTab) (.slice (some ⟨(y12).heap.size, 0, none⟩) 9 9) rfl rfl rfl rfl _ (vr_built _ _ _ _ _ _ _ _ _) wv⟩) hS13 rfl ?_
    try simp only [tk0, tk1, tk2, tk3, tk4]
    obtain ⟨T, hT⟩ : ∃ T, T = vrTab (.slice (some ⟨b, o, none⟩) s.n cap) (.slice (some ⟨(y10).heap.size, 0, none⟩) s.n s.n) (.slice (some ⟨(y12).heap.size, 0, none⟩) 9 9) := ⟨_, rfl⟩
    rw [← hT]
    replace hT : Hid (T = vrTab (.slice (some ⟨b, o, none⟩) s.n cap) (.slice (some ⟨(y10).heap.size, 0, none⟩) s.n s.n) (.slice (some ⟨(y12).heap.size, 0, none⟩) 9 9)) := hT
    have i1 : (Tryz.prog.info? 95).map (·.size) = some T.size := by rw [hT.out]; exact vr_info _ _ _
    have i2 : Tryz.zeroCells95.size = T.size := by rw [hT.out]; exact vr_zero _ _ _
    have i3 : T.all (·.oneCell') = true := by rw [hT.out]; exact vr_one _ _ _ _ _ _ _ _ _
    have z0 := bY0.size
    obtain ⟨hV9, hB9⟩ := vok_fin bY13 (by omega) hz13 hp2.out hn0 hSpw.out he13 hE11 hk13 (by omega) (by omega)
    rw [← hT.out] at hV9 hB9
    have hS9 := hSk.out _ hB9
    refine ready_store 9 (by kernel_rfl) rfl 95 (.tmp 3) (.tmp 19) rfl rfl rfl ((yd).heap.size) T rfl rfl 95 Tryz.zeroCells95 hz13 i1 i2 i3 hS9 ?_
    refine wpAnyH_done (by kernel_rfl) ?_ _
    go_wp2_with fail
    go_meet
    case rel => exact ⟨_, _, _, rfl, hV9, hB9⟩
end Go.Proofs.YtckapapejfnojaaGreatDoor

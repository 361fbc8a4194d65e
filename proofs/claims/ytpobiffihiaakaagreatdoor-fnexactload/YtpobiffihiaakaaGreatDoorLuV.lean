import Derived.Test.YtpobiffihiaakaaGreatDoorLuW
namespace Go.Proofs.YtpobiffihiaakaaGreatDoor
open Go.RowKit
set_option linter.unusedVariables false
set_option linter.unusedSimpArgs false
set_option maxRecDepth 100000
set_option maxHeartbeats 4000000
theorem infC1 : (Tryz.prog.info? 24).map (·.size) = some 1 := by kernel_rfl
theorem none_protos (w : World) (f : Nat → PD) : IsProtos (· < w.heap.size) w (.slice none 0 0) ⟨0, f⟩ :=
  ⟨fun _ => .slice none 0 0, fun _ => .slice none 0 0, fun _ => .slice none 0 0, fun _ => .slice none 0 0, fun _ => .slice none 0 0, ⟨none, 0, rfl, Nat.zero_le _, fun h => absurd h (by simp)⟩, fun i h => absurd h (by simp)⟩
theorem load_short (s : ByteArray) (h : s.size < 6) (w : World) :
    Calls Tryz.prog 4 #[.string s] w fun e w' => e = .returned (.tuple #[.agg #[.slice none 0 0], .int .i64 1]) ∧ Below w.heap.size w w' := by
  have h6 : (s.size : Int) < 6 := by omega
  go_enter Tryz.func4, Tryz.ntmps4
  go_wp2_with fail
  refine bodyPost_ret (v := .tuple #[.agg #[.slice none 0 0], .int .i64 1]) ?_ rfl ⟨rfl, by go_grown⟩
  simp [results, Tryz.results4, go_sem]
theorem load_other (s : ByteArray) (h : 6 ≤ s.size) (hh : (s.extract 0 6).toList ≠ [27, 76, 82, 86, 1, 0]) (w : World) :
    Calls Tryz.prog 4 #[.string s] w fun e w' => e = .returned (.tuple #[.agg #[.slice none 0 0], .int .i64 1]) ∧ Below w.heap.size w w' := by
  have h6 : ¬ (s.size : Int) < 6 := by omega
  have h6b : (6 : Int) ≤ (s.size : Int) := by omega
  have hsl : ∀ wx, (Instr.slice 9 (.string s) none (some (.int .i64 6)) none).run Tryz.prog wx = .ok (.string (s.extract 0 6)) wx := fun wx => WPut.sl_head s 6 wx h6b
  have he : ((s.extract 0 6).toList == [27, 76, 82, 86, 1, 0]) = false := by simpa using hh
  go_enter Tryz.func4, Tryz.ntmps4
  go_wp2_with fail
  refine bodyPost_ret (v := .tuple #[.agg #[.slice none 0 0], .int .i64 1]) ?_ rfl ⟨rfl, by go_grown⟩
  simp [results, Tryz.results4, go_sem]
theorem specLoad_hdr (s : ByteArray) (V : Nat → Option (Int × Nat)) (hV : VrOk s V) (hs : s.size ≤ 1048576) (hh : HdrOk s) (w : World) : Calls Tryz.prog 4 #[.string s] w fun e w' =>
    (∃ v, e = .returned (.tuple #[.agg #[v], .int .i64 (rdCode s V)]) ∧ IsProtos (· < w'.heap.size) w' v (ldS s V)) ∧ Below w.heap.size w w' := by
  have h6 : ¬ (s.size : Int) < 6 := by have := hh.1; omega
  have h6b : (6 : Int) ≤ (s.size : Int) := by omega
  have hsl : ∀ wx, (Instr.slice 9 (.string s) none (some (.int .i64 6)) none).run Tryz.prog wx = .ok (.string (s.extract 0 6)) wx := fun wx => WPut.sl_head s 6 wx h6b
  have he : ((s.extract 0 6).toList == [27, 76, 82, 86, 1, 0]) = true := by simpa using hh.2
  replace hh := hidR hh
  obtain ⟨code, hcode⟩ : ∃ z, rdCode s V = z := ⟨_, rfl⟩
  obtain ⟨S, hS⟩ : ∃ z, ldS s V = z := ⟨_, rfl⟩
  rw [hcode, hS]
  replace hcode := hidR hcode
  replace hS := hidR hS
  go_enter Tryz.func4, Tryz.ntmps4
  go_upto_region 6 with fail
  have H := hidR (LdW.start w s)
  generalize (((w.alloc (.cells #[.slice none 0 0] 24)).alloc (.cells #[.string s, .int .i64 6, .int .i64 0] 31)).alloc (.cells #[.slice none 0 0] 24)).alloc (.cells #[] 3) = y0 at H ⊢
  clear h6 h6b hsl he
  go_wp2_with fail
  go_loopw [6, 7] (fun lv pv wr => ∃ (x : LS) (v : Value) (its : List MI) (n : Nat), pv = .int .i64 x.an ∧ Hid (LInv s x ∧ Rnds s V ld0 x n ∧ LdW w wr s x.r x.c x.L lv v its)) (fun _ _ wr => 200 - cLen (w.heap.size + 1 + 1) wr)
  case atStart => exact ⟨ld0, .slice none 0 0, [], 0, rfl, LInv.start hh.out, .here _, H.out⟩
  case round =>
    obtain ⟨x, v, its, n, rfl, hq⟩ := hrel
    have I := hq.out.1
    have Rn := hidR hq.out.2.1
    have D := hidR hq.out.2.2
    obtain ⟨ov, kv, rfl⟩ := own_slice hq.out.2.2.prot
    have hlv := own_slice hq.out.2.2.left
    obtain ⟨ol, kl, rfl⟩ := hlv
    have hlen := hidR hq.out.2.2.len
    have hc := hq.out.2.2.hC.cell 0 rfl
    have hcf := hq.out.2.2.hC.frozen
    have hcl := hq.out.2.2.hC.lt
    have ha0 : (0 : Int) ≤ x.an := by have := I.an; omega
    have ha1 := I.an.2
    have hl63 := I.len
    have hpx := I.pos
    have hbx := hidR I.bad
    replace I := hidR I
    clear hq H
    by_cases hl : (x.c.length : Int) < x.an
    · have hlI : x.an > (its.length : Int) := by have := hlen.out.2; omega
      obtain ⟨most, hm⟩ : ∃ m : Int, (if (x.L.length : Int) = 63 then (0 : Int) else 200 - x.an) = m := ⟨_, rfl⟩
      have hn : nxt s V x = rdPro s V gi0 most x.r := by unfold nxt; rw [hm]
      have hcall := hidR (l3ReadProto_in s V hV gi0 giOk x.r most wr hs hpx)
      rw [← hn] at hcall
      obtain ⟨z, hz⟩ : ∃ z, nxt s V x = z := ⟨_, rfl⟩
      rw [hz] at hcall
      obtain ⟨p1, r1⟩ := z
      dsimp only at hcall
      unfold rV at hcall
      replace hz := hidR hz
      clear hn
      go_upto_region 9 with fail
      go_upto_if 33 with fail
      go_cut [8] from 74 (fun sx wz => wr = wz ∧ sx = .int .i64 most)
      case first =>
        by_cases h63 : x.L.length = 63
        · have h63I : (x.L.length : Int) = 63 := by omega
          rw [if_pos h63I] at hm
          replace hm := hidR hm
          have hge : (x.L.length : Int) ≥ 63 := by omega
          clear h63 h63I
          go_wp2_with fail
          go_meet
          case rel => exact ⟨rfl, by first | rfl | rw [hm.out]⟩
        · have h63I : ¬ (x.L.length : Int) = 63 := by omega
          rw [if_neg h63I] at hm
          replace hm := hidR hm
          have hge : ¬ (x.L.length : Int) ≥ 63 := by omega
          clear h63 h63I
          go_wp2_with fail
          go_meet
          case rel => exact ⟨rfl, by first | rfl | rw [hm.out]⟩
      obtain ⟨hw9, hs9⟩ := hcut
      subst hw9
      subst hs9
      have c0 := D.out.hR.cell 0 rfl
      have c1 := D.out.hR.cell 1 rfl
      have c2 := D.out.hR.cell 2 rfl
      have cf := D.out.hR.frozen
      have cl := D.out.hR.lt
      go_upto_region 11 with fail
      go_wp2_with fail
      refine Calls.mono hcall.out ?_
      rintro e y1 ⟨⟨i0, i2, i6, b1, t, o3, o4, o5, o8, o9, n3, n4, n5, n8, n9, k3, k4, k5, k8, k9, rfl, hmr⟩, b9⟩
      clear hcall c0 c1 c2 cf cl hc hcf hcl
      have D1 := hidR (D.out.call b9)
      have c0 := D1.out.hR.cell 0 rfl
      have c1 := D1.out.hR.cell 1 rfl
      have c2 := D1.out.hR.cell 2 rfl
      have cf := D1.out.hR.frozen
      have cl := D1.out.hR.lt
      replace hmr := hidR hmr
      replace b9 := hidR b9
      go_upto_region 12 with fail
      clear c0 c1 c2 cf cl
      have bb : Below y1.heap.size y1 ((y1.alloc (.cells #[.int .i64 i0, .bool b1, .int .i64 i2, .slice o3 n3 k3, .slice o4 n4 k4, .slice o5 n5 k5, .int .i64 i6, .string t, .slice o8 n8 k8, .slice o9 n9 k9] 38)).alloc (.cells #[.string s, .int .i64 (r1.pos : Int), .int .i64 r1.bad] 31)) := ((Below.refl _ _).alloc (Nat.le_refl _) _).alloc (by rw [World.size_alloc]; omega) _
      have hP : RowL ((y1.alloc (.cells #[.int .i64 i0, .bool b1, .int .i64 i2, .slice o3 n3 k3, .slice o4 n4 k4, .slice o5 n5 k5, .int .i64 i6, .string t, .slice o8 n8 k8, .slice o9 n9 k9] 38)).alloc (.cells #[.string s, .int .i64 (r1.pos : Int), .int .i64 r1.bad] 31)) y1.heap.size 38 [.int .i64 i0, .bool b1, .int .i64 i2, .slice o3 n3 k3, .slice o4 n4 k4, .slice o5 n5 k5, .int .i64 i6, .string t, .slice o8 n8 k8, .slice o9 n9 k9] := (RowL.new y1 [.int .i64 i0, .bool b1, .int .i64 i2, .slice o3 n3 k3, .slice o4 n4 k4, .slice o5 n5 k5, .int .i64 i6, .string t, .slice o8 n8 k8, .slice o9 n9 k9] 38).alloc _
      have hN : RowL ((y1.alloc (.cells #[.int .i64 i0, .bool b1, .int .i64 i2, .slice o3 n3 k3, .slice o4 n4 k4, .slice o5 n5 k5, .int .i64 i6, .string t, .slice o8 n8 k8, .slice o9 n9 k9] 38)).alloc (.cells #[.string s, .int .i64 (r1.pos : Int), .int .i64 r1.bad] 31)) (y1.heap.size + 1) 31 (rC s r1) := by
        have := RowL.new (y1.alloc (.cells #[.int .i64 i0, .bool b1, .int .i64 i2, .slice o3 n3 k3, .slice o4 n4 k4, .slice o5 n5 k5, .int .i64 i6, .string t, .slice o8 n8 k8, .slice o9 n9 k9] 38)) (rC s r1) 31
        rw [World.size_alloc] at this
        exact this
      have D2 := D1.out.call bb
      have hRl := D1.out.hR.lt
      have hzw := D.out.big
      have hz9 := b9.out.size
      replace bb := hidR bb
      generalize ((y1.alloc (.cells #[.int .i64 i0, .bool b1, .int .i64 i2, .slice o3 n3 k3, .slice o4 n4 k4, .slice o5 n5 k5, .int .i64 i6, .string t, .slice o8 n8 k8, .slice o9 n9 k9] 38)).alloc (.cells #[.string s, .int .i64 (r1.pos : Int), .int .i64 r1.bad] 31)) = y2 at bb hP hN D2 ⊢
      obtain ⟨PB, hPB⟩ : ∃ n, y1.heap.size = n := ⟨_, rfl⟩
      rw [hPB] at hP hN ⊢
      have c0 := D2.hR.cell 0 rfl
      have c1 := D2.hR.cell 1 rfl
      have c2 := D2.hR.cell 2 rfl
      have cf := D2.hR.frozen
      have cl := D2.hR.lt
      have d0 := hN.cell 0 rfl
      have d1 := hN.cell 1 rfl
      have d2 := hN.cell 2 rfl
      have dl := hN.lt
      have hne : ¬ PB + 1 = (w.heap.size + 1) := by omega
      have hne2 : ¬ PB = (w.heap.size + 1) := by omega
      have D3 := hidR (D2.setR r1)
      replace hP := hidR (hP.put (R := (w.heap.size + 1)) hne2 (.string s) (.int .i64 (r1.pos : Int)) (.int .i64 r1.bad))
      have bs : Hid (∀ {it : MI}, MOk (w.heap.size + 3) y2 it → MOk (w.heap.size + 3) (((y2.setCell ⟨(w.heap.size + 1), 0, none⟩ (.string s)).setCell ⟨(w.heap.size + 1), 1, none⟩ (.int .i64 (r1.pos : Int))).setCell ⟨(w.heap.size + 1), 2, none⟩ (.int .i64 r1.bad)) it) := fun h => ((h.set (a := ⟨(w.heap.size + 1), 0, none⟩) (by simp only []; omega) _).set (a := ⟨(w.heap.size + 1), 1, none⟩) (by simp only []; omega) _).set (a := ⟨(w.heap.size + 1), 2, none⟩) (by simp only []; omega) _
      replace D2 := hidR D2
      replace hN := hidR hN
      go_upto_region 13 with fail
      clear c0 c1 c2 cf cl d0 d1 d2 dl hne
      generalize ((y2.setCell ⟨(w.heap.size + 1), 0, none⟩ (.string s)).setCell ⟨(w.heap.size + 1), 1, none⟩ (.int .i64 (r1.pos : Int))).setCell ⟨(w.heap.size + 1), 2, none⟩ (.int .i64 r1.bad) = y3 at D3 hP bs ⊢
      have hst := hidR (fun h : (nxt s V x).2.bad = 0 => LInv.step hV I.out hl h)
      by_cases hb : r1.bad = 0
      · obtain ⟨rp, rb⟩ := r1
        dsimp only at hb
        subst hb
        obtain ⟨⟨rfl, rfl, rfl, rfl, rfl⟩, hmo⟩ := hmr.out rfl
        have m1 : MOk wr.heap.size y1 (⟨p1, .slice o3 n3 k3, .slice o4 n4 k4, .slice o5 n5 k5, .slice o8 n8 k8, .slice o9 n9 k9⟩ : MI) := hmo
        have offs := hidR (D.out.offs m1)
        have m3 : MOk (w.heap.size + 3) y3 (⟨p1, .slice o3 n3 k3, .slice o4 n4 k4, .slice o5 n5 k5, .slice o8 n8 k8, .slice o9 n9 k9⟩ : MI) := bs.out ((m1.low hzw).below bb.out)
        have hz0 := hz.out
        obtain ⟨S1, S2, S3⟩ := hst.out (by rw [hz0])
        have hk0 : 0 ≤ p1.kids := by rw [hz0] at S2; exact S2
        have hk1 : p1.kids ≤ 200 := by rw [hz0] at S3; exact S3
        have e1 : (stp s V x).an = x.an + p1.kids := by show x.an + (nxt s V x).1.kids = x.an + p1.kids; rw [hz0]
        have e2 : (stp s V x).r = ⟨rp, 0⟩ := by show (nxt s V x).2 = ⟨rp, 0⟩; rw [hz0]
        have e3 : (stp s V x).c = x.c ++ [p1] := by show x.c ++ [(nxt s V x).1] = x.c ++ [p1]; rw [hz0]
        have e4 : (stp s V x).L = if 0 < p1.kids then p1.kids.toNat :: x.L else upL x.L := by show (if 0 < (nxt s V x).1.kids then (nxt s V x).1.kids.toNat :: x.L else upL x.L) = _; rw [hz0]
        have ha2 : x.an + p1.kids ≤ 200 := by have := S1.an.2; rw [e1] at this; exact this
        have R2 := hidR (Rn.out.snoc hl (show (nxt s V x).2.bad = 0 by rw [hz0]))
        replace e1 := hidR e1
        replace e2 := hidR e2
        replace e3 := hidR e3
        replace e4 := hidR e4
        replace S1 := hidR S1
        replace m3 := hidR m3
        have hvq : ∀ q, (Value.slice ov its.length kv).ownBlock = some q → q < PB := fun q h => by have := (D.out.prot.lt q h).2; omega
        replace hvq := hidR hvq
        clear hmr hmo m1 bs bb hst D D1 D2 b9 hz0 S2 S3 hN
        have c2 := D3.out.hR.cell 2 rfl
        have cf := D3.out.hR.frozen
        go_upto_region 15 with fail
        clear c2 cf
        have hc := D3.out.hC.cell 0 rfl
        have hcl := D3.out.hC.lt
        have g0 := hP.out.cell 0 rfl
        have g1 := hP.out.cell 1 rfl
        have g2 := hP.out.cell 2 rfl
        have g3 := hP.out.cell 3 rfl
        have g4 := hP.out.cell 4 rfl
        have g5 := hP.out.cell 5 rfl
        have g6 := hP.out.cell 6 rfl
        have g7 := hP.out.cell 7 rfl
        have g8 := hP.out.cell 8 rfl
        have g9 := hP.out.cell 9 rfl
        have hpl := hP.out.lt
        obtain ⟨i9, hi, hz0, hz1, hz2⟩ := info_of infProto
        go_wp2_with (at_builtin; refine wpList_append_own_at _ rfl (.tmp 48) (.tmp 50) 22 rfl (w.heap.size + 3) 38 i9 (.agg #[.int .i64 0, .bool false, .int .i64 0, .slice none 0 0, .slice none 0 0, .slice none 0 0, .int .i64 0, .string ⟨#[]⟩, .slice none 0 0, .slice none 0 0]) 10 168 Tryz.underlying22 hi hz0 hz1 hz2 rfl (by decide) (.slice ov its.length kv) its.length _ rfl (D3.out.prot.alloc _) ⟨y3.heap.size, 0, none⟩ 1 1 (mC (⟨p1, .slice o3 n3 k3, .slice o4 n4 k4, .slice o5 n5 k5, .slice o8 n8 k8, .slice o9 n9 k9⟩ : MI)) rfl rfl ?c1 ?c2 ?c3 ?c4 ?c5 ?_)
        case c1 => exact World.news_of_block (heap_alloc_new _ _)
        case c2 => intro u hu; simp only [mC, List.mem_cons, List.not_mem_nil, or_false] at hu; rcases hu with rfl | rfl | rfl | rfl | rfl | rfl | rfl | rfl | rfl | rfl <;> rfl
        case c3 => have := hlen.out.2; simp only [maxLen]; omega
        case c4 => have := hlen.out.2; omega
        case c5 => have := D3.out.big; simp only [World.size_alloc]; omega
        intro v' w4 hown2 hg _ hat
        have bl : Below y3.heap.size y3 (y3.alloc (.cells #[.int .i64 p1.params, .bool p1.vararg, .int .i64 p1.regs, .slice o3 n3 k3, .slice o4 n4 k4, .slice o5 n5 k5, .int .i64 p1.kids, .string p1.name, .slice o8 n8 k8, .slice o9 n9 k9] 38)) := (Below.refl _ _).alloc (Nat.le_refl _) _
        have D3a := D3.out.call bl
        have D4 := hidR (D3a.app (it := (⟨p1, .slice o3 n3 k3, .slice o4 n4 k4, .slice o5 n5 k5, .slice o8 n8 k8, .slice o9 n9 k9⟩ : MI)) (m3.out.below bl) offs.out.1 offs.out.2 hown2 hg (hat.imp id (fun h => ⟨_, h, by first | exact Nat.le_refl _ | (rw [World.size_alloc]; exact Nat.le_refl _)⟩)))
        obtain ⟨ow, kw, rfl⟩ := own_slice hown2
        have hb9 := own_base D3a.prot
        have hC4 := row_grown D3a.hC hg (fun e => by have := hb9 _ e; omega)
        have hc4 := hC4.cell 0 rfl
        have hcf4 := hC4.frozen
        have hcl4 := hC4.lt
        have hP4 := hidR ((row_grown (hP.out.alloc _) hg (fun e => by have := hvq.out _ e; omega)).other (a := ⟨(w.heap.size + 1 + 1), 0, none⟩) (show PB ≠ (w.heap.size + 1 + 1) by omega) (.slice ow (its.length + 1) kw))
        clear hc hcl g0 g1 g2 g3 g4 g5 g6 g7 g8 g9 hpl hi hz0 hz1 hz2 hown2 hg hat bl D3a D3 hP hC4 hb9 m3 offs
        go_upto_region 16 with fail
        clear hc4 hcf4 hcl4
        generalize w4.setCell ⟨(w.heap.size + 1 + 1), 0, none⟩ (.slice ow (its.length + 1) kw) = y5 at D4 hP4 ⊢
        have g6 := hP4.out.cell 6 rfl
        have hpl := hP4.out.lt
        go_upto_if 59 with fail
        by_cases hk : 0 < p1.kids
        · rw [if_pos hk] at e4
          obtain ⟨i8, hi, hz0, hz1, hz2⟩ := info_of infInt
          go_wp2_with (at_builtin; refine wpList_append_own_at _ rfl (.tmp 60) (.tmp 63) 32 rfl (w.heap.size + 3) 3 i8 (.int .i64 0) 1 8 Tryz.underlying32 hi hz0 hz1 hz2 rfl (by decide) (.slice ol x.L.length kl) x.L.length _ rfl (D4.out.left.alloc _) ⟨y5.heap.size, 0, none⟩ 1 1 [.int .i64 p1.kids] rfl rfl ?c1 ?c2 ?c3 ?c4 ?c5 ?_)
          case c2 => first | rfl | (intro u hu; simp only [List.mem_cons, List.not_mem_nil, or_false] at hu; subst hu; rfl)
          case c3 => simp only [maxLen]; omega
          case c4 => omega
          case c5 => have := D4.out.big; first | omega | (simp only [World.size_alloc]; omega)
          intro lw w6 hown3 hg3 _ hat3
          have bl : Below y5.heap.size y5 (y5.alloc (.cells #[.int .i64 p1.kids] 3)) := (Below.refl _ _).alloc (Nat.le_refl _) _
          have hkI : (p1.kids.toNat : Int) = p1.kids := by omega
          have D5 := (D4.out.call bl).turn (L' := p1.kids.toNat :: x.L) (by rw [lfC_cons, List.length_cons, hkI]; exact hown3) hg3 (hat3.imp id (fun h => ⟨_, h, by first | exact Nat.le_refl _ | (rw [World.size_alloc]; exact Nat.le_refl _)⟩))
          obtain ⟨om, km, rfl⟩ := own_slice hown3
          have hm2 : cLen (w.heap.size + 1 + 1) w6 = x.c.length + 1 := by rw [D5.len.1, List.length_append]; rfl
          have hrel : Hid (LInv s (stp s V x) ∧ Rnds s V ld0 (stp s V x) (n + 1) ∧ LdW w w6 s (stp s V x).r (stp s V x).c (stp s V x).L (.slice om (x.L.length + 1) km) (.slice ow (its.length + 1) kw) (its ++ [(⟨p1, .slice o3 n3 k3, .slice o4 n4 k4, .slice o5 n5 k5, .slice o8 n8 k8, .slice o9 n9 k9⟩ : MI)])) := ⟨S1.out, R2.out, by rw [e2.out, e3.out, e4.out]; exact D5⟩
          replace hm2 := hidR hm2
          clear hi hz0 hz1 hz2 hown3 hg3 hat3 bl D5 D4 hP4 g6 hpl S1 R2
          go_wp2_with fail
          go_roundw
          case rel => exact ⟨stp s V x, _, _, n + 1, by rw [e1.out], hrel.out⟩
          case measure => have h1 := hm2.out; have h2 := hlen.out.1; rw [h1, h2]; omega
        · rw [if_neg hk] at e4
          have hup := hidR (l3Up_at (w.heap.size + 3) (.slice ol x.L.length kl) x.L y5 D4.out.left (by omega) (fun k hk => by have := I.out.all k hk; omega) (by have := D4.out.big; omega))
          go_wp2_with fail
          refine Calls.mono hup.out ?_
          rintro e y6 ⟨lw, rfl, hown3, hg3, hat3⟩
          have D5 := D4.out.turn hown3 hg3 hat3
          obtain ⟨om, km, rfl⟩ := own_slice hown3
          have hm2 : cLen (w.heap.size + 1 + 1) y6 = x.c.length + 1 := by rw [D5.len.1, List.length_append]; rfl
          have hrel : Hid (LInv s (stp s V x) ∧ Rnds s V ld0 (stp s V x) (n + 1) ∧ LdW w y6 s (stp s V x).r (stp s V x).c (stp s V x).L (.slice om (upL x.L).length km) (.slice ow (its.length + 1) kw) (its ++ [(⟨p1, .slice o3 n3 k3, .slice o4 n4 k4, .slice o5 n5 k5, .slice o8 n8 k8, .slice o9 n9 k9⟩ : MI)])) := ⟨S1.out, R2.out, by rw [e2.out, e3.out, e4.out]; exact D5⟩
          replace hm2 := hidR hm2
          clear hup hown3 hg3 hat3 D5 D4 hP4 g6 hpl S1 R2
          go_wp2_with fail
          go_roundw
          case rel => exact ⟨stp s V x, _, _, n + 1, by rw [e1.out], hrel.out⟩
          case measure => have h1 := hm2.out; have h2 := hlen.out.1; rw [h1, h2]; omega
      · have hbI : (r1.bad == 0) = false := by simpa using hb
        have hco : code = r1.bad := by
          have h1 := code_fails hV hh.out Rn.out hl (by rw [hz.out]; exact hb)
          rw [hcode.out, hz.out] at h1
          exact h1
        have hS0 : S = ⟨0, fun _ => pdOf ⟨0, 0, 0, false, [], [], [], ByteArray.empty, [], []⟩⟩ := by
          rw [← hS.out]
          exact if_neg (by rw [hcode.out, hco]; exact hb)
        have c2 := D3.out.hR.cell 2 rfl
        have cf := D3.out.hR.frozen
        clear hmr bs bb hst D D1 D2 b9 hN hP
        replace hco := hidR hco
        replace hS0 := hidR hS0
        go_upto_region 14 with fail
        clear c2 cf
        have kO := hidR (D3.out.hO.call (Below.refl _ _).drew)
        have kR := hidR (show RowL y3.drew (w.heap.size + 1) 31 (rC s r1) from D3.out.hR.call (Below.refl _ _).drew)
        have bf := hidR (D3.out.bw.drew)
        refine wp_region_held_drew (S := fun wv => RowL wv (w.heap.size + 1) 31 (rC s r1)) (by kernel_rfl) kR.out (fun hH => ?_)
        generalize y3.drew = yz at kO kR bf hH ⊢
        refine take_dst 0 44 (.agg #[.slice none 0 0]) rfl (by kernel_rfl) (by kernel_rfl) (by kernel_rfl) (fun _ _ _ h => h) (Or.inl ⟨by rfl, by intro wv hSv; clear hSv; go_simp⟩) hH rfl ?_
        try simp only [Act.put, List.setIfInBounds_toArray, List.set_cons_zero, List.set_cons_succ]
        refine take_dst 1 45 (.pointer (some ⟨(w.heap.size + 1), 2, none⟩)) rfl (by kernel_rfl) (by kernel_rfl) (by kernel_rfl) (fun _ _ _ h => h) (Or.inl ⟨by rfl, by intro wv hSv; clear hSv; go_simp⟩) hH rfl ?_
        try simp only [Act.put, List.setIfInBounds_toArray, List.set_cons_zero, List.set_cons_succ]
        refine take_dst 2 46 (.int .i64 r1.bad) rfl (by kernel_rfl) (by kernel_rfl) (by kernel_rfl) (fun _ _ _ h => h) (Or.inl ⟨by rfl, by intro wv hSv; have g0 := hSv.cell 2 rfl; clear hSv; go_simp⟩) hH rfl ?_
        try simp only [Act.put, List.setIfInBounds_toArray, List.set_cons_zero, List.set_cons_succ]
        have s1 := hidR (show RowL (yz.setRow w.heap.size ([.slice none 0 0] : List Value).toArray) (w.heap.size + 1) 31 (rC s r1) from kR.out.rowOther (by omega) _)
        refine ready_storeL 3 (by kernel_rfl) rfl 24 (.tmp 2) (.tmp 44) rfl rfl rfl w.heap.size _ [.slice none 0 0] rfl rfl _ kO.out infC1 rfl (by simp [Value.oneCell']) s1.out ?_
        have kO2 := hidR (kO.out.setRow [.slice none 0 0] rfl)
        have bf2 := hidR (below_row bf.out (Nat.le_refl _) ([.slice none 0 0] : List Value).toArray)
        generalize yz.setRow w.heap.size ([.slice none 0 0] : List Value).toArray = yy at kO2 bf2 s1 ⊢
        refine wpAnyH_ready (rs := [4]) (by kernel_rfl) (by simp) ?_
        refine AllReadyH.cons rfl (fun K hK => ?_) AllReadyH.nil
        go_simp
        refine hK.out _ _ s1.out (fun hzz => ?_)
        clear hK K hzz
        try simp only [Act.put, List.setIfInBounds_toArray, List.set_cons_zero, List.set_cons_succ]
        refine wpAnyH_done (by kernel_rfl) ?_ _
        have l0 := kO2.out.cell 0 rfl
        go_wp2_with fail
        refine bodyPost_ret (v := .tuple #[.agg #[.slice none 0 0], .int .i64 r1.bad]) ?_ rfl ?_
        · simp [results, Tryz.results4, go_sem, l0]
        · refine ⟨⟨_, by rw [hco.out], ?_⟩, bf2.out⟩
          rw [hS0.out]
          exact none_protos _ _
    · have hlI : ¬ x.an > (its.length : Int) := by have := hlen.out.2; omega
      obtain ⟨E1, E2, E3, E4⟩ := code_ends hV hh.out Rn.out hl
      rw [hcode.out] at E4
      have c1 := D.out.hR.cell 1 rfl
      have cf := D.out.hR.frozen
      have o0 := D.out.hO.cell 0 rfl
      have of := D.out.hO.frozen
      have ol_ := D.out.hO.lt
      have bo := Below.setCell D.out.bw (p := ⟨w.heap.size, 0, none⟩) (Nat.le_refl _) (.slice none 0 0)
      by_cases hpe : x.r.pos = s.size
      · rw [if_neg (by omega)] at E4
        have hpI : ((x.r.pos : Int) == (s.size : Int)) = true := by simp [hpe]
        have hS1 : S = ⟨its.length, fun i => pdOf ((its.map (·.p)).getD i ⟨0, 0, 0, false, [], [], [], ByteArray.empty, [], []⟩)⟩ := by
          rw [← hS.out]
          unfold ldS
          rw [if_pos (by rw [hcode.out]; exact E4), E1, D.out.ps, hlen.out.2]
        have hT := ldS_text s V hs
        rw [hS.out, hS1] at hT
        have hI := hidR (protos_is D.out.prot (fun it h => (D.out.all it h).1) hT)
        rw [← hS1] at hI
        have B2 := hidR (Below.setCell D.out.bw (p := ⟨w.heap.size, 0, none⟩) (Nat.le_refl _) (.slice ov its.length kv))
        have I2 := hidR (show IsProtos (· < (wr.setCell ⟨w.heap.size, 0, none⟩ (.slice ov its.length kv)).heap.size) (wr.setCell ⟨w.heap.size, 0, none⟩ (.slice ov its.length kv)) (.slice ov its.length kv) S from by
          rw [hS1]
          have D9 : ∀ it ∈ its, MOk (w.heap.size + 3) (wr.setCell ⟨w.heap.size, 0, none⟩ (.slice ov its.length kv)) it := fun it h => (D.out.all it h).1.set (a := ⟨w.heap.size, 0, none⟩) (by simp only []; omega) _
          exact protos_is (own_set D.out.prot (a := ⟨w.heap.size, 0, none⟩) (by simp only []; omega) _) D9 hT)
        have O2 := D.out.hO.set 0 (.slice ov its.length kv)
        have l0 := O2.cell 0 rfl
        replace E4 := hidR E4
        replace hpe := hidR hpe
        clear O2 hI hT hS1 E1 E2 E3 bo D I Rn
        go_wp2_with fail
        refine bodyPost_ret (v := .tuple #[.agg #[.slice ov its.length kv], .int .i64 0]) ?_ rfl ?_
        · simp [results, Tryz.results4, go_sem, l0]
        · exact ⟨⟨_, by rw [E4.out], I2.out⟩, B2.out⟩
      · rw [if_pos (by omega)] at E4
        have hpI : ((x.r.pos : Int) == (s.size : Int)) = false := by
          have : (x.r.pos : Int) ≠ (s.size : Int) := by omega
          simpa using this
        have hS0 : S = ⟨0, fun _ => pdOf ⟨0, 0, 0, false, [], [], [], ByteArray.empty, [], []⟩⟩ := by
          rw [← hS.out]
          exact if_neg (by rw [hcode.out, E4]; decide)
        have O2 := D.out.hO.set 0 (.slice none 0 0)
        have l0 := O2.cell 0 rfl
        replace E4 := hidR E4
        replace hS0 := hidR hS0
        replace bo := hidR bo
        replace hpe := hidR hpe
        clear O2 E1 E2 E3 D I Rn
        go_wp2_with fail
        refine bodyPost_ret (v := .tuple #[.agg #[.slice none 0 0], .int .i64 5]) ?_ rfl ?_
        · simp [results, Tryz.results4, go_sem, l0]
        · refine ⟨⟨_, by rw [E4.out], ?_⟩, bo.out⟩
          rw [hS0.out]
          exact none_protos _ _
theorem spOk (s : ByteArray) (V : Nat → Option (Int × Nat)) (hV : VrOk s V) (hs : s.size ≤ 1048576) : SpOk s V := fun w => by
  by_cases hh : HdrOk s
  · exact specLoad_hdr s V hV hs hh w
  · have hc : rdCode s V = 1 := code_nohdr hh
    have hS : ldS s V = ⟨0, fun _ => pdOf ⟨0, 0, 0, false, [], [], [], ByteArray.empty, [], []⟩⟩ := if_neg (by rw [hc]; decide)
    have h : Calls Tryz.prog 4 #[.string s] w fun e w' => e = .returned (.tuple #[.agg #[.slice none 0 0], .int .i64 1]) ∧ Below w.heap.size w w' := by
      by_cases h6 : s.size < 6
      · exact load_short s h6 w
      · exact load_other s (by omega) (fun e => hh ⟨by omega, e⟩) w
    refine h.mono fun e w' ⟨he, hb⟩ => ⟨⟨_, by rw [hc]; exact he, ?_⟩, hb⟩
    rw [hS]
    exact none_protos _ _
end Go.Proofs.YtpobiffihiaakaaGreatDoor

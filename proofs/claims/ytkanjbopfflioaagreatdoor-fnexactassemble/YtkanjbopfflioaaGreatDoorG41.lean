import Derived.Test.YtkanjbopfflioaaGreatDoorG40
import Derived.Test.YtkanjbopfflioaaGreatDoorG18
namespace Go.Proofs.YtkanjbopfflioaaGreatDoor
section
open Go.RowKit Go.Shelf
set_option linter.unusedVariables false
set_option linter.unusedSimpArgs false
set_option maxRecDepth 100000
set_option maxHeartbeats 4000000
theorem infSPr : (Tryz.prog.info? 53).map (fun i => (i.zero, i.size, i.bytes)) = some (some (.agg #[.int .i64 0, .bool false, .int .i64 0, .slice none 0 0, .slice none 0 0, .slice none 0 0, .int .i64 0, .string ⟨#[]⟩, .slice none 0 0, .slice none 0 0]), 10, 168) := by kernel_rfl
theorem lineNil (s : ByteArray) (hs : s.size ≤ 100000) (p0 : ByteArray) (r : List ByteArray) (hcut : cutB 32 s = p0 :: r) (n1 : p0 ≠ protoB') (B : Nat) (w : World) (hB : B ≤ w.heap.size) (so : Option Addr) (sc : Nat) :
    Calls Tryz.prog 10 #[.agg #[.slice so 0 sc], .string s] w fun e w' => LineEnds [] s B e w' ∧ Fram B w w' (.slice so 0 sc) [] ∧ OneV e := by
  have hcu : Hid (∀ y : World, Calls Tryz.prog 9 #[.string s, .int .u8 32] y fun e w' => (∃ gp c, e = .returned (.slice (some ⟨gp, 0, none⟩) (r.length + 1) c) ∧ y.heap.size ≤ gp ∧ gp < w'.heap.size ∧ (∀ (j : Nat) x, (p0 :: r)[j]? = some x → w'.cell? ⟨gp, j, none⟩ = some (.string x))) ∧ Below y.heap.size y w') := fun y => by
    have := l6Cut_in s hs 32 y
    rw [hcut] at this
    exact this
  have hE : Hid (LineEnds [] s B (.returned (.tuple #[.agg #[.slice so 0 sc], .bool false])) w) := ⟨_, false, none, rfl, ⟨p0, r, hcut, LStep.none n1⟩, by simp, fun _ => rfl⟩
  have hE2 : Hid (∀ y, LineEnds [] s B (.returned (.tuple #[.agg #[.slice so 0 sc], .bool false])) y) := fun y => ⟨_, false, none, rfl, ⟨p0, r, hcut, LStep.none n1⟩, by simp, fun _ => rfl⟩
  have l1 : (p0.toList == [112, 114, 111, 116, 111]) = false := lit_no (q := protoB') rfl n1
  clear hE
  replace n1 := hidR n1
  replace hcut := hidR hcut
  go_enter Tryz.func10, Tryz.ntmps10
  go_upto_region 1 with fail
  have RC := (RowL.new w [.slice so 0 sc] 24).alloc (.cells #[.slice none 0 0] 24)
  have RR := RowL.new (w.alloc (.cells #[.slice so 0 sc] 24)) [.slice none 0 0] 24
  have bw : Below w.heap.size w ((w.alloc (.cells #[.slice so 0 sc] 24)).alloc (.cells #[.slice none 0 0] 24)) := by go_grown
  rw [World.size_alloc] at RR
  generalize (w.alloc (.cells #[.slice so 0 sc] 24)).alloc (.cells #[.slice none 0 0] 24) = w2 at RC RR bw ⊢
  obtain ⟨C, hC⟩ : ∃ C, w.heap.size = C := ⟨_, rfl⟩
  rw [hC] at RC RR bw hB ⊢
  have hz2 := RR.lt
  replace RC := hidR RC
  replace RR := hidR RR
  replace hC := hidR hC
  go_wp2_with fail
  refine Calls.mono (hcu.out _) ?_
  rintro e y1 ⟨⟨gp, cp, rfl, hgp, hgl, hcell⟩, b1⟩
  clear hcu
  have c0 := hcell 0 p0 rfl
  clear hcell
  replace RC := RC.out.call b1
  replace RR := RR.out.call b1
  have bw1 := bw.trans (b1.mono (by omega))
  have sC := RC.cell 0 rfl
  have r6 := RR.cell 0 rfl
  have f6 := RR.frozen 0
  have R7 := hidR ((RR.set 0 (.slice so 0 sc)).cell 0 rfl)
  have hbel := hidR ((bw1.mono hB).setCell (p := ⟨C + 1, 0, none⟩) (show B ≤ C + 1 by omega) (.slice so 0 sc))
  have hfra : Hid (∀ k, k < w.heap.size → some k ∉ (Value.slice so 0 sc).ownBlock :: ([] : List PV).flatMap PV.blks → (y1.setCell ⟨C + 1, 0, none⟩ (.slice so 0 sc)).heap[k]? = w.heap[k]?) := fun k hk _ => by
    rw [hC.out] at hk
    exact (heap_setCell_other _ ⟨C + 1, 0, none⟩ k _ (show k ≠ C + 1 by omega)).trans (bw1.block k hk)
  clear bw b1 RC RR
  go_wp2_with fail
  exact bodyPost_ret (v := .tuple #[.agg #[.slice so 0 sc], .bool false]) (by simp [results, Tryz.results10, go_sem, R7.out]) rfl ⟨hE2.out _, ⟨hbel.out, hfra.out⟩, oneV_slice⟩
theorem lineProto (s : ByteArray) (hs : s.size ≤ 100000) (r : List ByteArray) (hcut : cutB 32 s = protoB' :: r) (sv : Value) (Q : List PV) (B : Nat) (w : World) (hM : Mk w B sv Q) (hB : B ≤ w.heap.size) (hQ : Q.length ≤ 100000) :
    Calls Tryz.prog 10 #[.agg #[sv], .string s] w fun e w' => LineEnds (Q.map (·.p)) s B e w' ∧ Fram B w w' sv Q ∧ OneV e := by
  obtain ⟨so, sc, rfl⟩ := own_slice9 hM.row
  have hlen := cutB_len 32 s
  have hmem := cutB_mem 32 s
  have hcu : Hid (∀ y : World, Calls Tryz.prog 9 #[.string s, .int .u8 32] y fun e w' => (∃ gp c, e = .returned (.slice (some ⟨gp, 0, none⟩) (r.length + 1) c) ∧ y.heap.size ≤ gp ∧ gp < w'.heap.size ∧ (∀ (j : Nat) x, (protoB' :: r)[j]? = some x → w'.cell? ⟨gp, j, none⟩ = some (.string x))) ∧ Below y.heap.size y w') := fun y => by
    have := l6Cut_in s hs 32 y
    rw [hcut] at this
    exact this
  rw [hcut] at hlen hmem
  simp only [List.length_cons] at hlen
  have hrz : ∀ x ∈ r, x.size ≤ 100000 := fun x hx => Nat.le_trans (hmem x (List.mem_cons_of_mem _ hx)) hs
  have hrl : r.length ≤ 100000 := by omega
  have hLine := hidR hcut
  have hMq := hidR hM
  obtain ⟨n, hn⟩ : ∃ n, Q.length = n := ⟨_, rfl⟩
  have hnl : n ≤ 100000 := by omega
  have hrow0 := hM.row
  rw [hn] at hrow0 ⊢
  replace hrow0 := hidR hrow0
  replace hn := hidR hn
  obtain ⟨p0, hp0⟩ : ∃ p0, p0 = protoB' := ⟨_, rfl⟩
  rw [← hp0] at hcu
  have l1 : (p0.toList == [112, 114, 111, 116, 111]) = true := by rw [lit_is (p := p0) (q := protoB') (l := [112, 114, 111, 116, 111]) rfl, hp0]; simp
  replace hp0 := hidR hp0
  replace hmem := hidR hmem
  replace hrz := hidR hrz
  obtain ⟨i0, hi, hz0, hzz1, hzz2⟩ := info_parts infSPr
  clear hM hQ hcut hlen
  go_enter Tryz.func10, Tryz.ntmps10
  go_upto_region 1 with fail
  have RC := (RowL.new w [.slice so n sc] 24).alloc (.cells #[.slice none 0 0] 24)
  have RR := RowL.new (w.alloc (.cells #[.slice so n sc] 24)) [.slice none 0 0] 24
  have bw : Below w.heap.size w ((w.alloc (.cells #[.slice so n sc] 24)).alloc (.cells #[.slice none 0 0] 24)) := by go_grown
  rw [World.size_alloc] at RR
  generalize (w.alloc (.cells #[.slice so n sc] 24)).alloc (.cells #[.slice none 0 0] 24) = w2 at RC RR bw ⊢
  have hz2 := RR.lt
  obtain ⟨C, hC⟩ : ∃ C, w.heap.size = C := ⟨_, rfl⟩
  rw [hC] at RC RR bw hB hz2 ⊢
  replace hC := hidR hC
  replace RC := hidR RC
  replace RR := hidR RR
  go_wp2_with fail
  refine Calls.mono (hcu.out _) ?_
  rintro e y1 ⟨⟨gp, cp, rfl, hgp, hgl, hcell⟩, b1⟩
  clear hcu
  have c0 := hcell 0 p0 rfl
  replace RC := hidR (RC.out.call b1)
  replace RR := hidR (RR.out.call b1)
  have bw1 := bw.trans (b1.mono (by omega))
  have hz1 := RR.out.lt
  have hrd := hidR (l6ReadHead_in p0 r gp cp y1 hcell hgl hrl hrz.out)
  clear hcell bw b1
  go_wp2_with fail
  refine Calls.mono hrd.out ?_
  rintro e y8 ⟨⟨a, b, d, v, bo, rfl, htr, hfa⟩, b8⟩
  clear hrd
  replace htr := hidR htr
  replace hfa := hidR hfa
  go_upto_region 4 with (refine wpList_store_row rfl 53 (.tmp 7) (.tmp 27) rfl y8.heap.size #[.int .i64 a, .bool v, .int .i64 b, .slice none 0 0, .slice none 0 0, .slice none 0 0, .int .i64 d, .string ⟨#[]⟩, .slice none 0 0, .slice none 0 0] rfl rfl 53 _ (heap_alloc_new _ _) (by simpa using infP1) rfl (by simp [Value.oneCell']) ?_)
  try simp only [Act.put]
  have RV : RowL ((y8.alloc (.cells #[.int .i64 0, .bool false, .int .i64 0, .slice none 0 0, .slice none 0 0, .slice none 0 0, .int .i64 0, .string ⟨#[]⟩, .slice none 0 0, .slice none 0 0] 53)).setRow y8.heap.size #[.int .i64 a, .bool v, .int .i64 b, .slice none 0 0, .slice none 0 0, .slice none 0 0, .int .i64 d, .string ⟨#[]⟩, .slice none 0 0, .slice none 0 0]) y8.heap.size 53 [.int .i64 a, .bool v, .int .i64 b, .slice none 0 0, .slice none 0 0, .slice none 0 0, .int .i64 d, .string ⟨#[]⟩, .slice none 0 0, .slice none 0 0] := (RowL.new y8 [.int .i64 0, .bool false, .int .i64 0, .slice none 0 0, .slice none 0 0, .slice none 0 0, .int .i64 0, .string ⟨#[]⟩, .slice none 0 0, .slice none 0 0] 53).setRow [.int .i64 a, .bool v, .int .i64 b, .slice none 0 0, .slice none 0 0, .slice none 0 0, .int .i64 d, .string ⟨#[]⟩, .slice none 0 0, .slice none 0 0] rfl
  have b9 : Below y8.heap.size y8 ((y8.alloc (.cells #[.int .i64 0, .bool false, .int .i64 0, .slice none 0 0, .slice none 0 0, .slice none 0 0, .int .i64 0, .string ⟨#[]⟩, .slice none 0 0, .slice none 0 0] 53)).setRow y8.heap.size #[.int .i64 a, .bool v, .int .i64 b, .slice none 0 0, .slice none 0 0, .slice none 0 0, .int .i64 d, .string ⟨#[]⟩, .slice none 0 0, .slice none 0 0]) := below_row ((Below.refl _ _).alloc (Nat.le_refl _) _) (Nat.le_refl _) _
  generalize (y8.alloc (.cells #[.int .i64 0, .bool false, .int .i64 0, .slice none 0 0, .slice none 0 0, .slice none 0 0, .int .i64 0, .string ⟨#[]⟩, .slice none 0 0, .slice none 0 0] 53)).setRow y8.heap.size #[.int .i64 a, .bool v, .int .i64 b, .slice none 0 0, .slice none 0 0, .slice none 0 0, .int .i64 d, .string ⟨#[]⟩, .slice none 0 0, .slice none 0 0] = y3 at RV b9 ⊢
  have b3 := b8.trans (b9.mono b8.size)
  clear b8 b9 c0
  obtain ⟨vB, hvB⟩ : ∃ vB, y8.heap.size = vB := ⟨_, rfl⟩
  rw [hvB] at RV ⊢
  clear hvB
  have bw3 := bw1.trans (b3.mono (by omega))
  have hy3 := b3.size
  replace RC := hidR (RC.out.call b3)
  replace RR := hidR (RR.out.call b3)
  have hch : Hid (∀ k, Value.ownBlock (.slice so n sc) = some k → k < C ∧ B ≤ k) := fun k hk => by rw [← hC.out]; exact ownsRow_lt hrow0.out k hk
  have hO3 := hidR (ownsRow_keep hrow0.out (w' := y3) fun k hk => bw3.block k (hch.out k hk).1)
  have sC := RC.out.cell 0 rfl
  have hrv := hidR (RowL.rangeAt RV)
  clear b3 RV
  go_upto_region 5 with (first | (refine wpList_load_mid rfl 53 (.tmp 7) rfl vB 0 rfl [.int .i64 a, .bool v, .int .i64 b, .slice none 0 0, .slice none 0 0, .slice none 0 0, .int .i64 d, .string ⟨#[]⟩, .slice none 0 0, .slice none 0 0] _ hrv.out Tryz.underlying53 rfl infP1 ?_) | (at_builtin; refine wpList_append_lies _ rfl (.tmp 30) (.tmp 32) 22 rfl B 53 i0 (.agg #[.int .i64 0, .bool false, .int .i64 0, .slice none 0 0, .slice none 0 0, .slice none 0 0, .int .i64 0, .string ⟨#[]⟩, .slice none 0 0, .slice none 0 0]) 10 168 Tryz.underlying22 hi hz0 hzz1 hzz2 rfl (by decide) (.slice so n sc) n _ rfl (hO3.out.alloc _) ⟨y3.heap.size, 0, none⟩ 1 1 [.int .i64 a, .bool v, .int .i64 b, .slice none 0 0, .slice none 0 0, .slice none 0 0, .int .i64 d, .string ⟨#[]⟩, .slice none 0 0, .slice none 0 0] rfl rfl ?c1 ?c2 ?c6 ?c3 ?c4 ?c5 _ rfl ?_))
  case c1 => exact World.news_of_block (heap_alloc_new _ _)
  case c2 => intro u hu; simp only [List.mem_cons, List.not_mem_nil, or_false] at hu; rcases hu with rfl | rfl | rfl | rfl | rfl | rfl | rfl | rfl | rfl | rfl <;> rfl
  case c3 => simp only [maxLen]; omega
  case c4 => omega
  case c5 => simp only [World.size_alloc]; omega
  case c6 => omega
  intro g9 c9 w1 hrow hg hat hlt
  have hg3 : y3.grownBy w1 (Value.ownBlock (.slice so n sc)) := grown_preA ((Below.refl _ _).alloc (Nat.le_refl _) _) hg
  have nC : Value.ownBlock (.slice so n sc) ≠ some C := fun e => by have := (hch.out _ e).1; omega
  have nC1 : Value.ownBlock (.slice so n sc) ≠ some (C + 1) := fun e => by have := (hch.out _ e).1; omega
  have RC1 := RowL.grown RC.out hg3 nC
  have RR1 := RowL.grown RR.out hg3 nC1
  have n9 : g9 < C ∨ C + 2 ≤ g9 := by
    rcases hat with e | e
    · exact .inl (hch.out _ e).1
    · right; (try rw [World.size_alloc] at e); omega
  have hat2 : Value.ownBlock (.slice so n sc) = some g9 ∨ C + 2 ≤ g9 := by
    rcases hat with e | e
    · exact .inl e
    · right; (try rw [World.size_alloc] at e); omega
  have hg5 : w.grownBy w1 (Value.ownBlock (.slice so n sc)) := grown_preA (show Below w.heap.size w y3 by rw [hC.out]; exact bw3) hg3
  have hM1 : Mk w1 B (.slice (some ⟨g9, 0, none⟩) (n + 1) c9) (Q ++ [⟨bareP a b d v, .slice none 0 0, .slice none 0 0, .slice none 0 0⟩]) := by
    have hr2 := hrow
    rw [← hn.out] at hr2 hg5 ⊢
    exact hMq.out.snoc (q := ⟨bareP a b d v, .slice none 0 0, .slice none 0 0, .slice none 0 0⟩) hr2 hg5 (hat2.elim (fun e => .inl (by rw [← hn.out] at e; exact e.symm)) fun e => .inr ⟨g9, rfl, by rw [hC.out]; omega⟩) (by intro x hx; simpa [PV.blks, Value.ownBlock] using hx) ⟨World.ownsRow_nil _ _ _ _, World.ownsRow_nil _ _ _ _, World.ownsRow_nil _ _ _ _, rfl, rfl, Nat.zero_le _, fun i hi => absurd hi (Nat.not_lt_zero _)⟩
  have hfin : Hid (Mk ((w1.setCell ⟨C, 0, none⟩ (.slice (some ⟨g9, 0, none⟩) (n + 1) c9)).setCell ⟨C + 1, 0, none⟩ (.slice (some ⟨g9, 0, none⟩) (n + 1) c9)) B (.slice (some ⟨g9, 0, none⟩) (n + 1) c9) (Q ++ [⟨bareP a b d v, .slice none 0 0, .slice none 0 0, .slice none 0 0⟩])) := hM1.keepB fun k hk => by
    have hkn : k ≠ C ∧ k ≠ C + 1 := by
      rcases List.mem_cons.1 hk with e | hk
      · have e2 : k = g9 := Option.some.inj e
        omega
      · rw [List.flatMap_append] at hk
        rcases List.mem_append.1 hk with hk | hk
        · have := (hMq.out.blkLt k (List.mem_cons_of_mem _ hk)).1
          rw [hC.out] at this
          omega
        · simp [PV.blks, Value.ownBlock] at hk
    exact (heap_setCell_other _ ⟨C + 1, 0, none⟩ k _ hkn.2).trans (heap_setCell_other w1 ⟨C, 0, none⟩ k _ hkn.1)
  have hbel : Hid (Below B w ((w1.setCell ⟨C, 0, none⟩ (.slice (some ⟨g9, 0, none⟩) (n + 1) c9)).setCell ⟨C + 1, 0, none⟩ (.slice (some ⟨g9, 0, none⟩) (n + 1) c9))) := (((Below.refl B w).grown hg5 (by rw [hC.out]; exact hB) (fun k e => (hch.out k e).2)).setCell (p := ⟨C, 0, none⟩) (show B ≤ C by omega) _).setCell (p := ⟨C + 1, 0, none⟩) (show B ≤ C + 1 by omega) _
  have hfra : Hid (∀ k, k < w.heap.size → some k ∉ Value.ownBlock (.slice so n sc) :: Q.flatMap PV.blks → ((w1.setCell ⟨C, 0, none⟩ (.slice (some ⟨g9, 0, none⟩) (n + 1) c9)).setCell ⟨C + 1, 0, none⟩ (.slice (some ⟨g9, 0, none⟩) (n + 1) c9)).heap[k]? = w.heap[k]?) := fun k hk hn9 => by
    have hk2 := hk
    rw [hC.out] at hk2
    exact (heap_setCell_other _ ⟨C + 1, 0, none⟩ k _ (show k ≠ C + 1 by omega)).trans ((heap_setCell_other w1 ⟨C, 0, none⟩ k _ (show k ≠ C by omega)).trans (hg5.block k hk (fun e => hn9 (by rw [e]; exact List.mem_cons_self ..))))
  have eC := RC1.cell 0 rfl
  have fC := RC1.frozen 0
  have RC2 := RC1.set 0 (.slice (some ⟨g9, 0, none⟩) (n + 1) c9)
  have RR2 := RR1.other (a := ⟨C, 0, none⟩) (show C + 1 ≠ C by omega) (.slice (some ⟨g9, 0, none⟩) (n + 1) c9)
  have hLs : Hid (LineTo (Q.map (·.p)) s ((headP r).map fun p => Q.map (·.p) ++ [p])) := ⟨_, r, hLine.out, LStep.proto⟩
  clear hrow hg hat hg3 RC1 RR1 RC RR hO3 hi hz0 hzz1 hzz2 nC nC1 hM1 hg5 sC hlt
  replace hat2 := hidR hat2
  replace n9 := hidR n9
  replace RC2 := hidR RC2
  replace RR2 := hidR RR2
  go_upto_region 5 with fail
  clear eC fC
  have c6 := RC2.out.cell 0 rfl
  have r6 := RR2.out.cell 0 rfl
  have f6 := RR2.out.frozen 0
  have R7 := hidR ((RR2.out.set 0 (.slice (some ⟨g9, 0, none⟩) (n + 1) c9)).cell 0 rfl)
  generalize w1.setCell ⟨C, 0, none⟩ (.slice (some ⟨g9, 0, none⟩) (n + 1) c9) = w5 at hfin hbel hfra c6 r6 f6 R7 ⊢
  clear RC2 RR2
  go_wp2_with fail
  refine bodyPost_ret (v := .tuple #[.agg #[.slice (some ⟨g9, 0, none⟩) (n + 1) c9], .bool bo]) (by simp [results, Tryz.results10, go_sem, R7.out]) rfl ⟨⟨_, bo, _, rfl, hLs.out, fun hb => ⟨_, ?_, hfin.out⟩, fun hb => ?_⟩, ⟨hbel.out, hfra.out⟩, oneV_slice⟩
  · rw [htr.out hb]; simp
  · rw [hfa.out hb]; rfl
end
section
open Go.RowKit
set_option linter.unusedVariables false
set_option linter.unusedSimpArgs false
set_option maxRecDepth 100000
set_option maxHeartbeats 2000000
theorem l6Cut_cap (s : ByteArray) (hs : s.size ≤ 100000) (b : UInt8) (w : World) :
    Calls Tryz.prog 9 #[.string s, .int .u8 (b.toNat : Int)] w fun e w' => (∃ g c, e = .returned (.slice (some ⟨g, 0, none⟩) (cutB b s).length c) ∧ w.heap.size ≤ g ∧ g < w'.heap.size ∧ (∀ (j : Nat) x, (cutB b s)[j]? = some x → w'.cell? ⟨g, j, none⟩ = some (.string x)) ∧ (cutB b s).length ≤ c) ∧ Below w.heap.size w w' := by
  obtain ⟨i0, hi, he0⟩ := Option.map_eq_some_iff.1 infS1
  simp only [Prod.mk.injEq] at he0
  obtain ⟨hz0, hz1, hz2⟩ := he0
  have hb8 : (b.toNat : Int) ≤ 255 := by have := b.toNat_lt; omega
  go_enter Tryz.func9, Tryz.ntmps9
  go_upto_region 2 with fail
  have hrel0 : Hid ((w.alloc (.cells #[] 9)).ownsRow w.heap.size 9 1 (.slice (some ⟨w.heap.size, 0, none⟩) 0 0) 0 (([] : List ByteArray).map Value.string) ∧ Below w.heap.size w (w.alloc (.cells #[] 9)) ∧ CutAt b s 0 0 []) :=
    ⟨⟨rfl, .inr ⟨w.heap.size, 0, #[], rfl, Nat.le_refl _, heap_alloc_new _ _, Nat.le_refl _, by simp [maxLen], rfl, rfl⟩⟩, (Below.refl _ _).alloc (Nat.le_refl _) _, CutAt.start b s⟩
  generalize w.alloc (.cells #[] 9) = w1 at hrel0 ⊢
  obtain ⟨B, hBe⟩ : ∃ B, w.heap.size = B := ⟨_, rfl⟩
  rw [hBe] at hrel0 ⊢
  replace hBe := hidR hBe
  go_wp2_with fail
  go_loopw [5, 6, 7] (fun ov fv iv wr => ∃ (f i : Nat) (P : List ByteArray) (oa : Option Addr) (ca : Nat), ov = .slice oa P.length ca ∧ fv = .int .i64 (f : Int) ∧ iv = .int .i64 (i : Int) ∧ f ≤ i ∧ i ≤ s.size ∧ P.length ≤ i ∧ Hid (wr.ownsRow B 9 1 (.slice oa P.length ca) P.length (P.map Value.string) ∧ Below B w wr ∧ CutAt b s f i P)) (fun _ _ iv _ => s.size - (intOf iv).toNat)
  case atStart => exact ⟨0, 0, [], some ⟨B, 0, none⟩, 0, rfl, rfl, rfl, by omega, by omega, by simp, hrel0.out⟩
  case round =>
    obtain ⟨f, i, P, oa, ca, rfl, rfl, rfl, hfi, his, hPl, hq⟩ := hrel
    obtain ⟨wz, hwz⟩ : ∃ x, x = wr := ⟨_, rfl⟩
    subst hwz
    clear hrel0
    by_cases hlt : i < s.size
    · have hlI : (i : Int) < (s.size : Int) := by omega
      have hc8 : (s[i].toNat : Int) ≤ 255 := by have := s[i].toNat_lt; omega
      by_cases he : s[i] = b
      · have hbe : ((s[i].toNat : Int) == (b.toNat : Int)) = true := by rw [he]; simp
        have hnx := hidR (hq.out.2.2.hit hfi hlt he)
        have hown := hidR hq.out.1
        have hbel := hidR hq.out.2.1
        clear hq he
        have hfI : (f : Int) ≤ (i : Int) := by omega
        obtain ⟨X, hX⟩ : ∃ X, s.extract f i = X := ⟨_, rfl⟩
        rw [hX] at hnx
        go_wp2_with (at_builtin; refine wpList_append_own_at _ rfl (.tmp 20) (.tmp 25) 30 rfl B 9 i0 (.string ⟨#[]⟩) 1 16 Tryz.underlying30 hi hz0 hz1 hz2 rfl (by decide) (.slice oa P.length ca) P.length _ rfl (hown.out.alloc _) ⟨wz.heap.size, 0, none⟩ 1 1 [.string X] rfl rfl ?c1 ?c2 ?c3 ?c4 ?c5 ?_)
        case c1 => exact World.news_of_block (heap_alloc_new _ _)
        case c2 => intro u hu; simp only [List.mem_cons, List.not_mem_nil, or_false] at hu; subst hu; rfl
        case c3 => simp only [maxLen]; omega
        case c4 => omega
        case c5 => have := hbel.out.size; rw [hBe.out] at this; simp only [World.size_alloc]; omega
        intro v' w' hown2 hg _ hat
        have hbel2 := hidR (own_grown hbel.out hown.out hg (by have := hbel.out.size; rw [hBe.out] at this; exact this))
        rcases hown2.2 with ⟨_, hz⟩ | ⟨g9, cap9, cur, rfl, hbg, hgg, hc1, hc2, hcs, htk⟩
        · exact absurd hz (by omega)
        have hown3 := hidR hown2
        have hgl : g9 < w'.heap.size := (Array.getElem?_eq_some_iff.1 hgg).1
        clear hat hg hown2 hgg hcs htk hi hz0 hz1 hz2 hown hbel
        have hrel : Hid (w'.ownsRow B 9 1 (.slice (some ⟨g9, 0, none⟩) (P ++ [X]).length cap9) (P ++ [X]).length ((P ++ [X]).map Value.string) ∧ Below B w w' ∧ CutAt b s (i + 1) (i + 1) (P ++ [X])) := by
          refine ⟨?_, hbel2.out, hnx.out⟩
          rw [List.length_append, List.map_append]
          exact hown3.out
        clear hown3 hbel2 hnx hX
        go_wp2_with fail
        go_roundw
        case rel => exact ⟨i + 1, i + 1, P ++ [X], some ⟨g9, 0, none⟩, cap9, by simp, by go_num, by go_num, by omega, by omega, by simp; omega, hrel.out⟩
        case measure => clear hrel; simp only [intOf]; omega
      · have hbe : ((s[i].toNat : Int) == (b.toNat : Int)) = false := by
          have h9 : s[i].toNat ≠ b.toNat := fun e => he (UInt8.toNat_inj.1 e)
          have : (s[i].toNat : Int) ≠ (b.toNat : Int) := by omega
          simpa using this
        have hnx : Hid (wz.ownsRow B 9 1 (.slice oa P.length ca) P.length (P.map Value.string) ∧ Below B w wz ∧ CutAt b s f (i + 1) P) := ⟨hq.out.1, hq.out.2.1, hq.out.2.2.on hlt he⟩
        clear hq he
        go_wp2_with fail
        go_roundw
        case rel => exact ⟨f, i + 1, P, oa, ca, rfl, rfl, by go_num, by omega, by omega, by omega, hnx.out⟩
        case measure => simp only [intOf]; omega
    · obtain rfl : i = s.size := by omega
      have hlI : ¬ ((s.size : Nat) : Int) < (s.size : Int) := by omega
      have hfin := hidR (hq.out.2.2.fin hfi)
      have hown := hidR hq.out.1
      have hbel := hidR hq.out.2.1
      clear hq
      have hfI : (f : Int) ≤ (s.size : Int) := by omega
      obtain ⟨X, hX⟩ : ∃ X, s.extract f s.size = X := ⟨_, rfl⟩
      rw [hX] at hfin
      go_wp2_with (at_builtin; refine wpList_append_own_at _ rfl (.tmp 29) (.tmp 33) 30 rfl B 9 i0 (.string ⟨#[]⟩) 1 16 Tryz.underlying30 hi hz0 hz1 hz2 rfl (by decide) (.slice oa P.length ca) P.length _ rfl (hown.out.alloc _) ⟨wz.heap.size, 0, none⟩ 1 1 [.string X] rfl rfl ?c1 ?c2 ?c3 ?c4 ?c5 ?_)
      case c2 => rfl
      case c3 => simp only [maxLen]; omega
      case c4 => omega
      case c5 => have := hbel.out.size; rw [hBe.out] at this; omega
      intro v' w' hown2 hg _ hat
      have hbel2 := hidR (own_grown hbel.out hown.out hg (by have := hbel.out.size; rw [hBe.out] at this; exact this))
      rcases hown2.2 with ⟨_, hz⟩ | ⟨g9, cap9, cur, rfl, hbg, hgg, hc1, hc2, hcs, htk⟩
      · exact absurd hz (by omega)
      have hown3 := hidR hown2
      have hgl : g9 < w'.heap.size := (Array.getElem?_eq_some_iff.1 hgg).1
      clear hat hg hown2 hgg hcs htk hi hz0 hz1 hz2 hown hbel
      have hcells := hidR (hown3.out.cells (g := g9) rfl)
      have hlen : Hid ((cutB b s).length = P.length + 1) := by show _ = _; rw [hfin.out]; simp
      go_wp2_with fail
      refine bodyPost_ret (v := .slice (some ⟨g9, 0, none⟩) (P.length + 1) cap9) (by simp [results, Tryz.results9, go_sem]) rfl ⟨⟨g9, cap9, by rw [hlen.out], by rw [hBe.out]; exact hbg, hgl, fun j x hx => ?_, by rw [hlen.out]; exact hc1⟩, by rw [hBe.out]; exact hbel2.out⟩
      rw [hfin.out] at hx
      have := hcells.out j (.string x) (by
        rw [← List.map_singleton, ← List.map_append, List.getElem?_map, hx]
        rfl)
      by_cases h0 : j = 0
      · subst h0; simpa [Addr.add] using this
      · simpa [Addr.add, h0] using this
end
end Go.Proofs.YtkanjbopfflioaaGreatDoor

import Derived.Test.YtkanjbopfflioaaGreatDoorG37
import Derived.Deep.AppendLies
namespace Go.Proofs.YtkanjbopfflioaaGreatDoor
section
open Go.RowKit Go.Shelf
set_option linter.unusedVariables false
set_option linter.unusedSimpArgs false
set_option maxRecDepth 100000
set_option maxHeartbeats 4000000
theorem infS32 : (Tryz.prog.info? 64).map (fun i => (i.zero, i.size, i.bytes)) = some (some (.int .u32 0), 1, 4) := by kernel_rfl
theorem infSVal : (Tryz.prog.info? 57).map (fun i => (i.zero, i.size, i.bytes)) = some (some (.agg #[.int .i64 0, .int .i64 0, .string ⟨#[]⟩]), 3, 32) := by kernel_rfl
theorem infSUp2 : (Tryz.prog.info? 61).map (fun i => (i.zero, i.size, i.bytes)) = some (some (.agg #[.bool false, .int .i64 0]), 2, 16) := by kernel_rfl
theorem grown_preA {w w0 w1 : World} {ch : Option Nat} (hb : Below w.heap.size w w0) (hg : w0.grownBy w1 ch) : w.grownBy w1 ch :=
  ⟨hg.os.trans hb.os, hg.tape.trans hb.tape, hg.output.trans hb.output, Nat.le_trans hb.size hg.size, fun k hk hne => (hg.block k (Nat.lt_of_lt_of_le hk hb.size) hne).trans (hb.block k hk)⟩
theorem setCells_other (g : Nat) : ∀ (vs : List Value) (o : Nat) (w : World) (k : Nat), k ≠ g → (w.setCells g o vs).heap[k]? = w.heap[k]?
  | [], _, _, _, _ => rfl
  | v :: vs, o, w, k, hk => by rw [World.setCells, setCells_other g vs _ _ k hk]; exact heap_setCell_other w ⟨g, o, none⟩ k v hk
def OneV (e : Ending) : Prop := ∀ v b, e = .returned (.tuple #[.agg #[v], .bool b]) → v.oneCell' = true
theorem oneV_slice {a : Option Addr} {n c : Nat} {b : Bool} : OneV (.returned (.tuple #[.agg #[.slice a n c], .bool b])) := by
  intro v b' h
  simp only [Ending.returned.injEq, Value.tuple.injEq, Array.mk.injEq, List.cons.injEq, Value.agg.injEq] at h
  rw [← h.1.1]
  rfl
/-- what a line may turn. -/
structure Fram (B : Nat) (w w' : World) (sv : Value) (Q : List PV) : Prop where
  bel : Below B w w'
  block : ∀ k, k < w.heap.size → some k ∉ sv.ownBlock :: Q.flatMap PV.blks → w'.heap[k]? = w.heap[k]?
theorem line_frame {w w5 : World} {g o n cap C : Nat} {K : List PV} {q : PV} {ch : Option Nat} {v : Value} {vs : List Value} (hC : w.heap.size = C) (hg : w.grownBy w5 ch) (hch : ch ∈ q.blks) :
    ∀ k, k < w.heap.size → some k ∉ (Value.slice (some ⟨g, 0, none⟩) n cap).ownBlock :: (K ++ [q]).flatMap PV.blks → ((w5.setCells g o vs).setCell ⟨C + 1, 0, none⟩ v).heap[k]? = w.heap[k]? := fun k hk hn => by
  have h1 : k ≠ g := fun e => hn (by simp [Value.ownBlock, e])
  have h2 : some k ≠ ch := fun e => hn (List.mem_cons_of_mem _ (List.mem_flatMap.2 ⟨q, by simp, e ▸ hch⟩))
  rw [heap_setCell_other _ ⟨C + 1, 0, none⟩ k v (show k ≠ C + 1 by omega), setCells_other g vs o w5 k h1, hg.block k hk h2]
theorem RowL.grown {w w1 : World} {b : Nat} {t : TypeId} {L : List Value} {ch : Option Nat} (h : RowL w b t L) (hg : w.grownBy w1 ch) (hne : ch ≠ some b) : RowL w1 b t L := World.rowIs.of_block h (hg.block b h.lt (fun e => hne e.symm))
theorem lineWord (s : ByteArray) (hs : s.size ≤ 100000) (p0 : ByteArray) (r : List ByteArray) (hcut : cutB 32 s = p0 :: r) (n1 : p0 ≠ protoB') (n2 : p0 ≠ constB') (n3 : p0 ≠ upB') (sv : Value) (K : List PV) (q : PV) (B : Nat) (w : World) (hM : Mk w B sv (K ++ [q])) (hB : B ≤ w.heap.size) (hK : K.length ≤ 100000) (hq : q.p.code.n ≤ 100000 ∧ q.p.consts.n ≤ 100000 ∧ q.p.ups.n ≤ 100000) :
    Calls Tryz.prog 10 #[.agg #[sv], .string s] w fun e w' => LineEnds ((K ++ [q]).map (·.p)) s B e w' ∧ Fram B w w' sv (K ++ [q]) ∧ OneV e := by
  obtain ⟨g, cap, rfl, hg, hBg, hcap⟩ := hM.form
  have hlen := cutB_len 32 s
  have hmem := cutB_mem 32 s
  have hcu : Hid (∀ y : World, Calls Tryz.prog 9 #[.string s, .int .u8 32] y fun e w' => (∃ gp c, e = .returned (.slice (some ⟨gp, 0, none⟩) (r.length + 1) c) ∧ y.heap.size ≤ gp ∧ gp < w'.heap.size ∧ (∀ (j : Nat) x, (p0 :: r)[j]? = some x → w'.cell? ⟨gp, j, none⟩ = some (.string x))) ∧ Below y.heap.size y w') := fun y => by
    have := l6Cut_in s hs 32 y
    rw [hcut] at this
    exact this
  rw [hcut] at hlen hmem
  simp only [List.length_cons] at hlen
  have hrz : ∀ x ∈ r, x.size ≤ 100000 := fun x hx => Nat.le_trans (hmem x (List.mem_cons_of_mem _ hx)) hs
  have hrl : r.length ≤ 100000 := by omega
  have hLine := hidR hcut
  have hMq := hidR hM
  have hPq := hidR (hM.each q (by simp))
  have hrg := hidR hM.lastRange
  obtain ⟨N, hN⟩ : ∃ N, K.length = N := ⟨_, rfl⟩
  have hNl : N ≤ 100000 := by omega
  have hw1 : IntKind.i64.wrap (((N + 1 : Nat) : Int) - 1) = (N : Int) := by
    rw [show (((N + 1 : Nat) : Int) - 1) = (N : Int) by omega]
    rw [IntKind.wrap_i64]; omega
  rw [hN] at hrg hcap ⊢
  replace hN := hidR hN
  replace hmem := hidR hmem
  replace hrz := hidR hrz
  clear hM hK hcut hlen
  have l1 : (p0.toList == [112, 114, 111, 116, 111]) = false := lit_no (q := protoB') rfl n1
  have l2 : (p0.toList == [99, 111, 110, 115, 116]) = false := lit_no (q := constB') rfl n2
  have l3 : (p0.toList == [117, 112]) = false := lit_no (q := upB') rfl n3
  replace n1 := hidR n1
  replace n2 := hidR n2
  replace n3 := hidR n3
  go_enter Tryz.func10, Tryz.ntmps10
  go_upto_region 1 with fail
  have RC := (RowL.new w [.slice (some ⟨g, 0, none⟩) (N + 1) cap] 24).alloc (.cells #[.slice none 0 0] 24)
  have RR := RowL.new (w.alloc (.cells #[.slice (some ⟨g, 0, none⟩) (N + 1) cap] 24)) [.slice none 0 0] 24
  have bw : Below w.heap.size w ((w.alloc (.cells #[.slice (some ⟨g, 0, none⟩) (N + 1) cap] 24)).alloc (.cells #[.slice none 0 0] 24)) := by go_grown
  rw [World.size_alloc] at RR
  generalize (w.alloc (.cells #[.slice (some ⟨g, 0, none⟩) (N + 1) cap] 24)).alloc (.cells #[.slice none 0 0] 24) = w2 at RC RR bw ⊢
  have hz2 := RR.lt
  obtain ⟨C, hC⟩ : ∃ C, w.heap.size = C := ⟨_, rfl⟩
  rw [hC] at RC RR bw hg hB hz2 ⊢
  replace hC := hidR hC
  replace RC := hidR RC
  replace RR := hidR RR
  go_wp2_with fail
  refine Calls.mono (hcu.out _) ?_
  rintro e y1 ⟨⟨gp, cp, rfl, hgp, hgl, hcell⟩, b1⟩
  clear hcu
  have c0 := hcell 0 p0 rfl
  replace hcell := hidR hcell
  replace RC := hidR (RC.out.call b1)
  replace RR := hidR (RR.out.call b1)
  have bw1 := bw.trans (b1.mono (by omega))
  clear bw b1
  have hz1 := RR.out.lt
  have sC := RC.out.cell 0 rfl
  go_upto_region 9 with fail
  have hM1 := hidR (hMq.out.later (w' := y1) (by rw [hC.out]; exact bw1))
  have hrg1 : y1.rangeAt g (N * 10) q.cells := fun j v hj => by
    rw [bw1.cell (p := ⟨g, N * 10 + j, none⟩) hg]
    exact hrg.out j v hj
  replace hrg1 := hidR hrg1
  have hone := hidR (one_cells q (ownsRow_one hPq.out.code) (ownsRow_one hPq.out.consts) (ownsRow_one hPq.out.ups))
  clear hrg
  go_upto_region 10 with (first | (refine wpList_load_mid rfl 53 (.tmp 47) rfl g _ rfl q.cells _ (by simpa using hrg1.out) Tryz.underlying53 rfl (infPc q) ?_) | (refine wpList_store_row rfl 53 (.tmp 10) (.tmp 48) rfl y1.heap.size q.cells.toArray rfl rfl 53 _ (heap_alloc_new _ _) (infPa q) rfl hone.out ?_))
  try simp only [Act.put]
  have RP : RowL ((y1.alloc (.cells #[.int .i64 0, .bool false, .int .i64 0, .slice none 0 0, .slice none 0 0, .slice none 0 0, .int .i64 0, .string ⟨#[]⟩, .slice none 0 0, .slice none 0 0] 53)).setRow y1.heap.size q.cells.toArray) y1.heap.size 53 q.cells := (RowL.new y1 [.int .i64 0, .bool false, .int .i64 0, .slice none 0 0, .slice none 0 0, .slice none 0 0, .int .i64 0, .string ⟨#[]⟩, .slice none 0 0, .slice none 0 0] 53).setRow q.cells rfl
  have b2 : Below y1.heap.size y1 ((y1.alloc (.cells #[.int .i64 0, .bool false, .int .i64 0, .slice none 0 0, .slice none 0 0, .slice none 0 0, .int .i64 0, .string ⟨#[]⟩, .slice none 0 0, .slice none 0 0] 53)).setRow y1.heap.size q.cells.toArray) := below_row ((Below.refl _ _).alloc (Nat.le_refl _) _) (Nat.le_refl _) _
  generalize (y1.alloc (.cells #[.int .i64 0, .bool false, .int .i64 0, .slice none 0 0, .slice none 0 0, .slice none 0 0, .int .i64 0, .string ⟨#[]⟩, .slice none 0 0, .slice none 0 0] 53)).setRow y1.heap.size q.cells.toArray = y2 at RP b2 ⊢
  replace RC := hidR (RC.out.call b2)
  replace RR := hidR (RR.out.call b2)
  have bw2 := bw1.trans (b2.mono (by omega))
  replace hcell : Hid (∀ (j : Nat) x, (p0 :: r)[j]? = some x → y2.cell? ⟨gp, j, none⟩ = some (.string x)) := fun j x hj => (b2.cell (p := ⟨gp, j, none⟩) hgl).trans (hcell.out j x hj)
  have hgl2 : gp < y2.heap.size := Nat.lt_of_lt_of_le hgl b2.size
  have hPl := RP.lt
  obtain ⟨PB, hPB⟩ : ∃ PB, y1.heap.size = PB := ⟨_, rfl⟩
  rw [hPB] at RP hPl hz1 ⊢
  clear hPB b2 hM1 hrg1 hone sC c0
  have c0 := hcell.out 0 p0 rfl
  replace RP := hidR RP
  have hrd := hidR (l6ReadWord_in p0 r gp cp y2 hcell.out hgl2 hrl hrz.out)
  have hqc := hq.1
  go_wp2_with fail
  refine Calls.mono hrd.out ?_
  rintro e y3 ⟨⟨x, bo, R, rfl, hx, hst, htr, hfa⟩, b3⟩
  clear hrd
  replace hst := hidR hst
  replace htr := hidR htr
  replace hfa := hidR hfa
  have bw3 := bw2.trans (b3.mono (by omega))
  have hy3 := b3.size
  replace RC := hidR (RC.out.call b3)
  replace RR := hidR (RR.out.call b3)
  replace RP := hidR (RP.out.call b3)
  have hO3 := hidR (ownsRow_keep hPq.out.code (w' := y3) fun k hk => bw3.block k (by rw [← hC.out]; exact (hPq.out.lt k (by simp [PV.blks, hk])).1))
  have hch : Hid (∀ k, q.a3.ownBlock = some k → k < C ∧ B ≤ k) := fun k hk => by rw [← hC.out]; exact hPq.out.lt k (by simp [PV.blks, hk])
  obtain ⟨i0, hi, hz0, hzz1, hzz2⟩ := info_parts infS32
  clear b3 c0
  go_upto_region 21 with fail
  have cP := RP.out.cell 3 rfl
  go_upto_region 22 with (at_builtin; refine wpList_append_lies _ rfl (.tmp 106) (.tmp 108) 48 rfl B 64 i0 (.int .u32 0) 1 4 Tryz.underlying48 hi hz0 hzz1 hzz2 rfl (by decide) q.a3 q.p.code.n _ rfl (hO3.out.alloc _) ⟨y3.heap.size, 0, none⟩ 1 1 [.int .u32 x] rfl rfl ?c1 ?c2 ?c6 ?c3 ?c4 ?c5 _ rfl ?_)
  case c1 => exact World.news_of_block (heap_alloc_new _ _)
  case c2 => intro u hu; simp only [List.mem_cons, List.not_mem_nil, or_false] at hu; subst hu; rfl
  case c3 => simp only [maxLen]; omega
  case c4 => omega
  case c5 => simp only [World.size_alloc]; omega
  case c6 => omega
  intro g9 c9 w1 hrow hg hat hlt
  have hg3 : y3.grownBy w1 q.a3.ownBlock := grown_preA ((Below.refl _ _).alloc (Nat.le_refl _) _) hg
  have nPB : q.a3.ownBlock ≠ some PB := fun e => by have := (hch.out _ e).1; omega
  have nC : q.a3.ownBlock ≠ some C := fun e => by have := (hch.out _ e).1; omega
  have nC1 : q.a3.ownBlock ≠ some (C + 1) := fun e => by have := (hch.out _ e).1; omega
  have RP1 := RowL.grown RP.out hg3 nPB
  have RC1 := RowL.grown RC.out hg3 nC
  have RR1 := RowL.grown RR.out hg3 nC1
  have n9 : g9 < C ∨ C + 2 ≤ g9 := by
    rcases hat with e | e
    · exact .inl (hch.out _ e).1
    · right; (try rw [World.size_alloc] at e); omega
  have hat2 : q.a3.ownBlock = some g9 ∨ C + 2 ≤ g9 := by
    rcases hat with e | e
    · exact .inl e
    · right; (try rw [World.size_alloc] at e); omega
  have n9p : g9 ≠ PB := by
    rcases hat with e | e
    · exact fun e2 => nPB (e2 ▸ e)
    · (try rw [World.size_alloc] at e); omega
  have hrow2 := ownsRow_setCell_other hrow (a := ⟨PB, 3, none⟩) (fun e => n9p (Option.some.inj e)) (.slice (some ⟨g9, 0, none⟩) (q.p.code.n + 1) c9)
  have eP := RP1.cell 3 rfl
  have fP := RP1.frozen 3
  have RP2 := RP1.set 3 (.slice (some ⟨g9, 0, none⟩) (q.p.code.n + 1) c9)
  have RC2 := RC1.other (a := ⟨PB, 3, none⟩) (show C ≠ PB by omega) (.slice (some ⟨g9, 0, none⟩) (q.p.code.n + 1) c9)
  have RR2 := RR1.other (a := ⟨PB, 3, none⟩) (show C + 1 ≠ PB by omega) (.slice (some ⟨g9, 0, none⟩) (q.p.code.n + 1) c9)
  have hg5 : w.grownBy (w1.setCell ⟨PB, 3, none⟩ (.slice (some ⟨g9, 0, none⟩) (q.p.code.n + 1) c9)) q.a3.ownBlock := by
    have h1 := grown_preA (show Below w.heap.size w y3 by rw [hC.out]; exact bw3) hg3
    exact ⟨h1.os, h1.tape, h1.output, by rw [World.size_setCell]; exact h1.size, fun k hk hne => (heap_setCell_other w1 ⟨PB, 3, none⟩ k _ (show k ≠ PB by rw [hC.out] at hk; omega)).trans (h1.block k hk hne)⟩
  replace hrow2 := hidR hrow2
  replace RP2 := hidR RP2
  replace RC2 := hidR RC2
  replace RR2 := hidR RR2
  replace hg5 := hidR hg5
  clear hrow hg hat hg3 RP1 RC1 RR1 RC RR RP hO3 hi hz0 hzz1 hzz2 n9p nPB nC nC1 cP
  replace hat2 := hidR hat2
  replace n9 := hidR n9
  have hlt2 := hlt
  clear hlt hlt2
  go_upto_region 22 with fail
  clear eP fP
  generalize w1.setCell ⟨PB, 3, none⟩ (.slice (some ⟨g9, 0, none⟩) (q.p.code.n + 1) c9) = w5 at hrow2 RP2 RC2 RR2 hg5 ⊢
  have hM5 := hidR (hMq.out.addWord hg5.out hrow2.out (hat2.out.elim (fun e => .inl e.symm) fun e => .inr ⟨g9, rfl, by rw [hC.out]; omega⟩) (Stored.all w5 B q ⟨q.p.addWord x, .slice (some ⟨g9, 0, none⟩) (q.p.code.n + 1) c9, q.a4, q.a5⟩ rfl))
  have hM5a : Hid (w5.there g (N * 10) 10) := fun j hj => by
    have hbk : w5.heap[g]? = w.heap[g]? := hg5.out.block g (by rw [hC.out]; exact hg) (fun e => by
      have ha := hMq.out.apart
      rw [List.pairwise_cons] at ha
      rcases ha.1 q.a3.ownBlock (by rw [List.flatMap_append]; exact List.mem_append_right _ (by simp [PV.blks])) with e1 | e1
      · cases e1
      · exact e1 e)
    have h1 := hMq.out.lastThere j hj
    rw [hN.out] at h1
    rw [World.cell?_of_block (a := ⟨g, N * 10 + j, none⟩) hbk, World.frozen?_of_block (a := ⟨g, N * 10 + j, none⟩) hbk]
    exact h1
  have cC := RC2.out.cell 0 rfl
  have hone := hidR (one_cells ⟨q.p.addWord x, .slice (some ⟨g9, 0, none⟩) (q.p.code.n + 1) c9, q.a4, q.a5⟩ (ownsRow_one hrow2.out) (ownsRow_one hPq.out.consts) (ownsRow_one hPq.out.ups))
  have hrgP : Hid (w5.rangeAt PB 0 (PV.cells ⟨q.p.addWord x, .slice (some ⟨g9, 0, none⟩) (q.p.code.n + 1) c9, q.a4, q.a5⟩)) := RowL.rangeAt RP2.out
  go_upto_region 23 with (first | (refine wpList_load_mid rfl 53 (.tmp 10) rfl PB 0 rfl (PV.cells ⟨q.p.addWord x, .slice (some ⟨g9, 0, none⟩) (q.p.code.n + 1) c9, q.a4, q.a5⟩) _ hrgP.out Tryz.underlying53 rfl (infPc ⟨q.p.addWord x, .slice (some ⟨g9, 0, none⟩) (q.p.code.n + 1) c9, q.a4, q.a5⟩) ?_) | (refine wpList_store_mid rfl 53 (.tmp 116) (.tmp 115) rfl g (N * 10) (PV.cells ⟨q.p.addWord x, .slice (some ⟨g9, 0, none⟩) (q.p.code.n + 1) c9, q.a4, q.a5⟩).toArray rfl rfl hM5a.out (infPa ⟨q.p.addWord x, .slice (some ⟨g9, 0, none⟩) (q.p.code.n + 1) c9, q.a4, q.a5⟩) hone.out ?_))
  try simp only [Act.put]
  have hoth : ∀ k, k ≠ g → (w5.setCells g (N * 10) (PV.cells ⟨q.p.addWord x, .slice (some ⟨g9, 0, none⟩) (q.p.code.n + 1) c9, q.a4, q.a5⟩)).heap[k]? = w5.heap[k]? := fun k hk => setCells_other g _ _ _ k hk
  have RC6 := World.rowIs.of_block RC2.out (hoth C (by omega))
  have RR6 := World.rowIs.of_block RR2.out (hoth (C + 1) (by omega))
  replace RC6 : RowL (w5.setCells g (N * 10) (PV.cells ⟨q.p.addWord x, .slice (some ⟨g9, 0, none⟩) (q.p.code.n + 1) c9, q.a4, q.a5⟩)) C 24 [.slice (some ⟨g, 0, none⟩) (N + 1) cap] := RC6
  replace RR6 : RowL (w5.setCells g (N * 10) (PV.cells ⟨q.p.addWord x, .slice (some ⟨g9, 0, none⟩) (q.p.code.n + 1) c9, q.a4, q.a5⟩)) (C + 1) 24 [.slice none 0 0] := RR6
  have hend := line_end (v := .slice (some ⟨g, 0, none⟩) (N + 1) cap) hMq.out (show B ≤ w.heap.size by rw [hC.out]; exact hB) hg5.out (fun k e => (hch.out k e).2) hM5.out (fun k hk => by
    rw [hC.out]
    simp only [PV.blks, List.mem_cons, List.not_mem_nil, or_false] at hk
    rcases hk with e | e | e
    · exact (by have e2 : k = g9 := Option.some.inj e; subst e2; exact n9.out)
    · exact .inl (by rw [← hC.out]; exact (hPq.out.lt k (by rw [e]; simp [PV.blks])).1)
    · exact .inl (by rw [← hC.out]; exact (hPq.out.lt k (by rw [e]; simp [PV.blks])).1))
  rw [hN.out, hC.out] at hend
  replace hend := hidR hend
  have hfra := hidR (line_frame (g := g) (o := N * 10) (n := N + 1) (cap := cap) (K := K) (q := q) (v := .slice (some ⟨g, 0, none⟩) (N + 1) cap) (vs := PV.cells ⟨q.p.addWord x, .slice (some ⟨g9, 0, none⟩) (q.p.code.n + 1) c9, q.a4, q.a5⟩) hC.out hg5.out (show q.a3.ownBlock ∈ q.blks by simp [PV.blks]))
  generalize w5.setCells g (N * 10) (PV.cells ⟨q.p.addWord x, .slice (some ⟨g9, 0, none⟩) (q.p.code.n + 1) c9, q.a4, q.a5⟩) = w6 at RC6 RR6 hend hfra ⊢
  have c6 := RC6.cell 0 rfl
  have r6 := RR6.cell 0 rfl
  have f6 := RR6.frozen 0
  have R7 := (RR6.set 0 (.slice (some ⟨g, 0, none⟩) (N + 1) cap)).cell 0 rfl
  have hLs : Hid (LineTo (K.map (·.p) ++ [q.p]) s (R.map fun x => K.map (·.p) ++ [q.p.addWord x])) := ⟨p0, r, hLine.out, LStep.word n1.out n2.out n3.out hst.out⟩
  clear hoth cC hM5 hM5a hone hrgP hrow2 RC2 RR2 RP2 hg5
  replace RC6 := hidR RC6
  replace RR6 := hidR RR6
  replace R7 := hidR R7
  go_wp2_with fail
  refine bodyPost_ret (v := .tuple #[.agg #[.slice (some ⟨g, 0, none⟩) (N + 1) cap], .bool bo]) (by simp [results, Tryz.results10, go_sem, R7.out]) rfl ⟨⟨_, bo, _, rfl, (by first | exact hLs.out | (rw [List.map_append]; exact hLs.out)), fun hb => ⟨_, ?_, hend.out.1⟩, fun hb => ?_⟩, ⟨hend.out.2, hfra.out⟩, oneV_slice⟩
  · rw [htr.out hb]; simp
  · rw [hfa.out hb]; rfl
end
section
open Go.RowKit Go.Shelf
set_option linter.unusedVariables false
set_option linter.unusedSimpArgs false
set_option maxRecDepth 100000
set_option maxHeartbeats 4000000
theorem own_slice9 {w : World} {B z n : Nat} {e : TypeId} {v : Value} {xs : List Value} (h : w.ownsRow B e z v n xs) : ∃ oa ca, v = .slice oa n ca := by
  rcases h.2 with ⟨rfl, rfl⟩ | ⟨g, cap, cur, rfl, _⟩
  · exact ⟨none, 0, rfl⟩
  · exact ⟨_, _, rfl⟩
theorem line_below {w w5 : World} {B g o : Nat} {ch : Option Nat} {v : Value} {vs : List Value} (hgB : B ≤ g) (hB : B ≤ w.heap.size) (hg : w.grownBy w5 ch) (hch : ∀ k, ch = some k → B ≤ k) : Below B w ((w5.setCells g o vs).setCell ⟨w.heap.size + 1, 0, none⟩ v) := by
  have b5 : Below B w w5 := (Below.refl B w).grown hg hB hch
  have b6 : Below B w (w5.setCells g o vs) := b5.trans ⟨by
    clear b5 hg hch
    induction vs generalizing w5 o with
    | nil => rfl
    | cons u vs ih => rw [World.setCells, ih]; rfl, by
    clear b5 hg hch
    induction vs generalizing w5 o with
    | nil => rfl
    | cons u vs ih => rw [World.setCells, ih]; rfl, by
    clear b5 hg hch
    induction vs generalizing w5 o with
    | nil => rfl
    | cons u vs ih => rw [World.setCells, ih]; rfl, by rw [setCells_size']; exact Nat.le_refl _, fun k hk => setCells_other g vs o w5 k (by omega)⟩
  exact b6.setCell (show B ≤ w.heap.size + 1 by omega) _
end
end Go.Proofs.YtkanjbopfflioaaGreatDoor

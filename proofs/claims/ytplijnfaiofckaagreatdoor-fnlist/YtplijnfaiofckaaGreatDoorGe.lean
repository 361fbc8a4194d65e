import Derived.Test.YtplijnfaiofckaaGreatDoorGd
import Derived.Deep.Cut
namespace Go.Proofs.YtplijnfaiofckaaGreatDoor
open Go.RowKit Go.Shelf
set_option linter.unusedVariables false
set_option linter.unusedSimpArgs false
set_option maxRecDepth 100000
set_option maxHeartbeats 9000000
attribute [local go_sem] Oper.semAt_some
theorem protos_list {av : Nat → Prop} {w : World} {u : Value} {PS : List PD} (h : qa0 av w u (slOf PS)) : ∃ X : List PV, X.map PV.p = PS ∧ (∀ x ∈ X, IsProto av w x.a3 x.a4 x.a5 x.a8 x.a9 x.p) ∧ ∃ ao cap, u = .slice ao PS.length cap ∧ (0 < PS.length → ∃ b o, ao = some ⟨b, o, none⟩ ∧ av b ∧ ∀ i x, X[i]? = some x → ∀ j, j < 10 → w.cell? ⟨b, o + i * 10 + j, none⟩ = x.cells[j]?) := by
 obtain ⟨a3, a4, a5, a8, a9, ⟨ao, cap, hu, -, hc⟩, hp⟩ := h
 have hg : ∀ i x, ((List.range PS.length).map fun i => (⟨(slOf PS).f i, a3 i, a4 i, a5 i, a8 i, a9 i⟩ : PV))[i]? = some x → i < PS.length ∧ x = ⟨(slOf PS).f i, a3 i, a4 i, a5 i, a8 i, a9 i⟩ := fun i x hx => by
  rw [List.getElem?_map] at hx;by_cases hi : i < PS.length
  ·rw [List.getElem?_range hi] at hx;simp at hx;exact ⟨hi, hx.symm⟩
  ·rw [List.getElem?_eq_none (by simp; omega)] at hx;simp at hx
 refine ⟨(List.range PS.length).map fun i => ⟨(slOf PS).f i, a3 i, a4 i, a5 i, a8 i, a9 i⟩, ?_, fun x hx => ?_, ao, cap, hu, fun h0 => ?_⟩
 ·refine List.ext_getElem (by simp) fun i h1 h2 => ?_;simp [slOf, h2]
 ·obtain ⟨i, hi⟩ := List.getElem?_of_mem hx;obtain ⟨h1, rfl⟩ := hg i x hi;exact hp i h1
 ·obtain ⟨b, o, e, hb, hcc⟩ := hc h0;refine ⟨b, o, e, hb, fun i x hx j hj => ?_⟩;obtain ⟨h1, rfl⟩ := hg i x hx;rw [hcc i h1 j hj]
  match j, hj with
  | 0, _ => rfl
  | 1, _ => rfl
  | 2, _ => rfl
  | 3, _ => rfl
  | 4, _ => rfl
  | 5, _ => rfl
  | 6, _ => rfl
  | 7, _ => rfl
  | 8, _ => rfl
  | 9, _ => rfl
structure CpI (w : World) (u : Value) (X : List PV) (k : Nat) (vo : Value) (y : World) : Prop where
 b0 : RowL y w.heap.size 25 [u]
 b1 : RowL y (w.heap.size + 1) 25 [.slice none 0 0]
 b2 : RowL y (w.heap.size + 2) 25 [vo]
 row : y.ownsRow w.heap.size 63 10 vo k (qa5 (X.take k))
 bel : Below w.heap.size w y
theorem CpI.later {w : World} {u : Value} {X : List PV} {k : Nat} {vo : Value} {y y' : World} (h : CpI w u X k vo y) (hb : Below y.heap.size y y') : CpI w u X k vo y' :=
 ⟨h.b0.call hb, h.b1.call hb, h.b2.call hb, qb0 h.row hb, h.bel.trans (hb.mono h.bel.size)⟩
theorem CpI.app {w : World} {u : Value} {X : List PV} {k : Nat} {vo v' : Value} {y w' : World} (h : CpI w u X k vo y) {x : PV} (hx : X[k]? = some x) (hrow : w'.ownsRow w.heap.size 63 10 v' (k + 1) (qa5 (X.take k) ++ x.cells)) (hg : y.grownBy w' vo.ownBlock) :
  CpI w u X (k + 1) v' (w'.setCell ⟨w.heap.size + 2, 0, none⟩ v') ∧ RowL w' (w.heap.size + 2) 25 [vo] := by
 have n0 := qa3 h.row h.b0 (by decide);have n1 := qa3 h.row h.b1 (by decide);have n2 := qa3 h.row h.b2 (by decide);have c0 : RowL w' _ 25 _ := World.rowIs.of_block h.b0 (hg.block _ h.b0.lt fun e => n0 e.symm);have c1 : RowL w' _ 25 _ := World.rowIs.of_block h.b1 (hg.block _ h.b1.lt fun e => n1 e.symm);have c2 : RowL w' _ 25 _ := World.rowIs.of_block h.b2 (hg.block _ h.b2.lt fun e => n2 e.symm);have n4 := qa3 hrow c2 (by decide);have hlt : k < X.length := (List.getElem?_eq_some_iff.1 hx).1
 have htk : qa5 (X.take (k + 1)) = qa5 (X.take k) ++ x.cells := by
  rw [List.take_add_one, hx, qf1];simp [qa5]
 refine ⟨⟨c0.other (a := ⟨w.heap.size + 2, 0, none⟩) (by show w.heap.size ≠ w.heap.size + 2; omega) _, c1.other (a := ⟨w.heap.size + 2, 0, none⟩) (by show w.heap.size + 1 ≠ w.heap.size + 2; omega) _, c2.set 0 _, ?_, ?_⟩, c2⟩
 ·rw [htk];exact qa7 hrow fun k hk => Below.heap_setCell _ _ _ _ (by rintro rfl; exact n4 hk)
 ·exact (Below.grown h.bel hg h.bel.size (fun q hq => (h.row.lt q hq).1)).setCell (p := ⟨w.heap.size + 2, 0, none⟩) (by show w.heap.size ≤ w.heap.size + 2; omega) _
theorem l2Copy_in {av : Nat → Prop} (PS : List PD) (u : Value) (w : World) (hav : ∀ b, av b → b < w.heap.size) (hu : qa0 av w u (slOf PS)) (hl : PS.length ≤ 1000) :
  Calls Tryz.prog 85 #[.agg #[u]] w fun e w' => ∃ v X, e = .returned (.agg #[v]) ∧ Below w.heap.size w w' ∧ w'.ownsRow w.heap.size 63 10 v PS.length (qa5 X) ∧ X.map PV.p = PS ∧ ∀ x ∈ X, IsProto av w x.a3 x.a4 x.a5 x.a8 x.a9 x.p := by
 obtain ⟨X, hXp, hX, ao, cap, rfl, hsrc⟩ := protos_list hu;have hXl : X.length = PS.length := by rw [← hXp]; simp
 have I0 : Hid (CpI w (.slice ao PS.length cap) X 0 (.slice none 0 0) (((w.alloc (.cells #[.slice ao PS.length cap] 25)).alloc (.cells #[.slice none 0 0] 25)).alloc (.cells #[.slice none 0 0] 25))) := by
  have R0 := (RowL.new w [.slice ao PS.length cap] 25);have R1 := (RowL.new (w.alloc (.cells #[.slice ao PS.length cap] 25)) [.slice none 0 0] 25);have R2 := (RowL.new ((w.alloc (.cells #[.slice ao PS.length cap] 25)).alloc (.cells #[.slice none 0 0] 25)) [.slice none 0 0] 25);rw [World.size_alloc] at R1;rw [World.size_alloc, World.size_alloc] at R2;exact ⟨(R0.alloc _).alloc _, R1.alloc _, R2, World.ownsRow_nil _ _ _ _, by go_grown⟩
 replace hsrc : Hid _ := hsrc;replace hX : Hid _ := hX;clear hu;go_enter Tryz.func85, Tryz.ntmps85;go_wp2_with fail;generalize ((w.alloc (.cells #[.slice ao PS.length cap] 25)).alloc (.cells #[.slice none 0 0] 25)).alloc (.cells #[.slice none 0 0] 25) = y0 at I0 ⊢
 go_loopw [4] (fun iv wr => ∃ k : Nat, iv = .int .i64 (k : Int) ∧ k ≤ PS.length ∧ Hid (∃ vo, CpI w (.slice ao PS.length cap) X k vo wr))
  (fun iv _ => PS.length - (intOf iv).toNat)
 case atStart => exact ⟨0, rfl, by omega, ⟨_, I0.out⟩⟩
 case round =>
  obtain ⟨k, rfl, hk, hT⟩ := hrel;obtain ⟨wz, hwz⟩ : ∃ x, x = wr := ⟨_, rfl⟩;subst hwz;clear I0;obtain ⟨vo, hI⟩ := hT.out;have q0 := hI.b0.cell 0 rfl;by_cases hlt : k < PS.length
  ·have hkX : k < X.length := by omega
   have hkk : (k : Int) < (PS.length : Int) := by omega
   obtain ⟨b, o, rfl, hb, hcc⟩ := hsrc.out (by omega);replace hb := hav b hb;obtain ⟨x, hx⟩ : ∃ x, X[k]? = some x := ⟨X[k], List.getElem?_eq_getElem hkX⟩;have hpx := hX.out x (List.mem_of_getElem? hx)
   have hcx : ∀ j, j < 10 → wz.cell? ⟨b, o + k * 10 + j, none⟩ = x.cells[j]? := fun j hj => by
    rw [World.cell?_of_block (w := w) (hI.bel.block b hb)];exact hcc k x hx j hj
   replace hI : Hid _ := hI;obtain ⟨⟨params, vararg, regs, code, consts, ups', kids', name, lines, upNames⟩, a3, a4, a5, a8, a9⟩ := x;obtain ⟨o3, c3, rfl⟩ : ∃ o c, a3 = .slice o code.n c := IsArr.slice hpx.code;obtain ⟨o4, c4, rfl⟩ : ∃ o c, a4 = .slice o consts.n c := IsArr.slice hpx.consts.1;obtain ⟨o5, c5, rfl⟩ : ∃ o c, a5 = .slice o ups'.n c := IsArr.slice hpx.ups;obtain ⟨o8, c8, rfl⟩ : ∃ o c, a8 = .slice o lines.n c := IsArr.slice hpx.lines;obtain ⟨o9, c9, rfl⟩ : ∃ o c, a9 = .slice o upNames.n c := IsArr.slice hpx.upNames.1;have e0 := hcx 0 (by omega);have e1 := hcx 1 (by omega);have e2 := hcx 2 (by omega);have e3 := hcx 3 (by omega);have e4 := hcx 4 (by omega);have e5 := hcx 5 (by omega);have e6 := hcx 6 (by omega);have e7 := hcx 7 (by omega);have e8 := hcx 8 (by omega);have e9 := hcx 9 (by omega);simp only [PV.cells, List.getElem?_cons_zero, List.getElem?_cons_succ, Nat.add_zero] at e0 e1 e2 e3 e4 e5 e6 e7 e8 e9;replace hx : Hid _ := hx;have hbl : Hid (b < w.heap.size) := hb;clear hT hcx hpx hcc hb;go_wp2_with fail;obtain ⟨S, hS⟩ : ∃ S : World → Prop, S = fun y : World => y.cell? ⟨w.heap.size, 0, none⟩ = some (.slice (some ⟨b, o, none⟩) PS.length cap) ∧ y.cell? ⟨b, o + k * 10, none⟩ = some (.int .i64 params) ∧ y.cell? ⟨b, o + k * 10 + 1, none⟩ = some (.bool vararg) ∧ y.cell? ⟨b, o + k * 10 + 2, none⟩ = some (.int .i64 regs) ∧ y.cell? ⟨b, o + k * 10 + 3, none⟩ = some (.slice o3 code.n c3) ∧ y.cell? ⟨b, o + k * 10 + 4, none⟩ = some (.slice o4 consts.n c4) ∧ y.cell? ⟨b, o + k * 10 + 5, none⟩ = some (.slice o5 ups'.n c5) ∧ y.cell? ⟨b, o + k * 10 + 6, none⟩ = some (.int .i64 kids') ∧ y.cell? ⟨b, o + k * 10 + 7, none⟩ = some (.string name) ∧ y.cell? ⟨b, o + k * 10 + 8, none⟩ = some (.slice o8 lines.n c8) ∧ y.cell? ⟨b, o + k * 10 + 9, none⟩ = some (.slice o9 upNames.n c9) := ⟨_, rfl⟩
   have hSk : Hid (∀ y, Below w.heap.size w y → y.cell? ⟨w.heap.size, 0, none⟩ = some (.slice (some ⟨b, o, none⟩) PS.length cap) → S y) := fun y hy h0 => by
    have hq : ∀ j, y.cell? ⟨b, j, none⟩ = wz.cell? ⟨b, j, none⟩ := fun j => (World.cell?_of_block (w := w) (hy.block b hbl.out)).trans (World.cell?_of_block (w := w) (hI.out.bel.block b hbl.out)).symm;rw [hS];exact ⟨h0, (hq _).trans e0, (hq _).trans e1, (hq _).trans e2, (hq _).trans e3, (hq _).trans e4, (hq _).trans e5, (hq _).trans e6, (hq _).trans e7, (hq _).trans e8, (hq _).trans e9⟩
   have hd : CpI w (.slice (some ⟨b, o, none⟩) PS.length cap) X k vo wz.drew := hI.out.later (Below.refl _ _).drew;have hSd := hSk.out _ hd.bel (hd.b0.cell 0 rfl);refine wp_region_held_drew (S := S) (by kernel_rfl) hSd (fun hH => ?_);refine tkd 0 13 (.pointer (some ⟨w.heap.size + 2, 0, none⟩)) hSd ?_;refine tkd 2 15 (.pointer (some ⟨w.heap.size, 0, none⟩)) hSd ?_;refine tkd 4 17 (.int .i64 (k : Int)) hSd ?_;refine tkd 3 16 (.slice (some ⟨b, o, none⟩) PS.length cap) hSd ?_ (hy := Or.inl ⟨by rfl, by intro wv hSv; (try dsimp only at hSv); rw [hS] at hSv; obtain ⟨h0, h1, h2, h3, h4, h5, h6, h7, h8, h9, h10⟩ := hSv; go_simp⟩);refine tkd 5 18 (.pointer (some ⟨b, o + k * 10, none⟩)) hSd ?_;refine tkd 6 19 (.agg #[.int .i64 params, .bool vararg, .int .i64 regs, .slice o3 code.n c3, .slice o4 consts.n c4, .slice o5 ups'.n c5, .int .i64 kids', .string name, .slice o8 lines.n c8, .slice o9 upNames.n c9]) hSd ?_ (hy := Or.inl ⟨by rfl, by intro wv hSv; (try dsimp only at hSv); rw [hS] at hSv; obtain ⟨h0, h1, h2, h3, h4, h5, h6, h7, h8, h9, h10⟩ := hSv; go_simp⟩);have hda : CpI w (.slice (some ⟨b, o, none⟩) PS.length cap) X k vo (wz.drew.alloc (.cells #[.int .i64 params, .bool vararg, .int .i64 regs, .slice o3 code.n c3, .slice o4 consts.n c4, .slice o5 ups'.n c5, .int .i64 kids', .string name, .slice o8 lines.n c8, .slice o9 upNames.n c9] 63)) := hd.later ((Below.refl _ _).alloc (Nat.le_refl _) _);have hSa := hSk.out _ hda.bel (hda.b0.cell 0 rfl);refine rdy2 1 7 (fun KK hKK => ?_) (fun KK hKK => ?_)
   focus
    have q := hd.b2.cell 0 rfl;go_simp;clear q;refine hKK.out _ _ hSd (fun _ => ?_);clear hKK KK;try simp only [tK]
    refine rdy1 7 (fun KK hKK => ?_);go_simp
   rotate_left
   focus
    go_simp;refine hKK.out _ _ hSa (fun _ => ?_);clear hKK KK;try simp only [tK]
    refine rdy1 1 (fun KK hKK => ?_);have q := (hI.out.b2.alloc (.cells #[.int .i64 params, .bool vararg, .int .i64 regs, .slice o3 code.n c3, .slice o4 consts.n c4, .slice o5 ups'.n c5, .int .i64 kids', .string name, .slice o8 lines.n c8, .slice o9 upNames.n c9] 63)).cell 0 rfl;go_simp;clear q
   all_goals
    refine hKK.out _ _ hSa (fun _ => ?_);clear hKK KK;try simp only [tK]
    refine rdy1 8 (fun KK hKK => ?_);obtain ⟨i0, hi, hz0, hz1, hz2⟩ := info_parts infoPro;refine step_append_lies _ rfl (.tmp 14) (.tmp 20) 23 rfl w.heap.size 63 i0 _ 10 168 Tryz.underlying23 hi hz0 hz1 hz2 rfl (by decide) vo k (qa5 (X.take k)) rfl hda.row ⟨wz.drew.heap.size, 0, none⟩ 1 1 [.int .i64 params, .bool vararg, .int .i64 regs, .slice o3 code.n c3, .slice o4 consts.n c4, .slice o5 ups'.n c5, .int .i64 kids', .string name, .slice o8 lines.n c8, .slice o9 upNames.n c9] rfl rfl (World.news_of_block (heap_alloc_new _ _)) (by intro u hu; simp only [List.mem_cons, List.not_mem_nil, or_false] at hu; rcases hu with rfl | rfl | rfl | rfl | rfl | rfl | rfl | rfl | rfl | rfl <;> rfl) (by omega) (by simp only [maxLen]; omega) (by omega) hda.bel.size _ rfl ?_;intro g cp w' hrow hg hat hlt';obtain ⟨hQ1, bx⟩ := hda.app (x := ⟨⟨params, vararg, regs, code, consts, ups', kids', name, lines, upNames⟩, .slice o3 code.n c3, .slice o4 consts.n c4, .slice o5 ups'.n c5, .slice o8 lines.n c8, .slice o9 upNames.n c9⟩) hx.out hrow hg;have q2 := bx.cell 0 rfl;have f2 := bx.frozen 0
    have hS8 : S w' := by
     have n0 := qa3 hda.row hda.b0 (by decide);refine hSk.out _ (Below.grown hda.bel hg hda.bel.size (fun q hq => (hda.row.lt q hq).1)) ?_;exact RowL.cell (World.rowIs.of_block hda.b0 (hg.block _ hda.b0.lt fun e => n0 e.symm)) 0 rfl
    have hS10 : S (w'.setCell ⟨w.heap.size + 2, 0, none⟩ (.slice (some ⟨g, 0, none⟩) (k + 1) cp)) := hSk.out _ hQ1.bel (hQ1.b0.cell 0 rfl);replace hQ1 : Hid _ := hQ1;clear hrow hg hat hi hz0 hz1 hz2 bx;refine hKK.out _ _ hS8 (fun _ => ?_);clear hKK KK;try simp only [tK]
    refine tkd 9 22 (.pointer (some ⟨w.heap.size + 2, 0, none⟩)) hS8 ?_;refine rdy1 10 (fun KK hKK => ?_);go_simp;clear q2 f2;refine hKK.out _ _ hS10 (fun _ => ?_);clear hKK KK;try simp only [tK]
    refine wpAnyH_done (by kernel_rfl) ?_ _;have hT1 : Hid (∃ vo, CpI w (.slice (some ⟨b, o, none⟩) PS.length cap) X (k + 1) vo (w'.setCell ⟨w.heap.size + 2, 0, none⟩ (.slice (some ⟨g, 0, none⟩) (k + 1) cp))) := ⟨_, hQ1.out⟩;clear hQ1 hI hd hda hSd hSk hS8 hS10 hS hH e0 e1 e2 e3 e4 e5 e6 e7 e8 e9 q0 hSa;go_wp2_with fail;go_roundw;case rel => exact ⟨k + 1, by go_num, by omega, hT1.out⟩
    case measure => simp [intOf]; omega
  ·obtain rfl : k = PS.length := by omega
   have q1 := hI.b1.cell 0 rfl;have f1 := hI.b1.frozen 0;have q2 := hI.b2.cell 0 rfl;have hfin := (hI.b1.set 0 vo).cell 0 rfl;obtain ⟨av, cv, rfl⟩ := qf3 hI.row;replace hI : Hid _ := hI;clear hT;go_wp2_with fail;refine bodyPost_ret (v := .agg #[.slice av PS.length cv]) (by simp [results, Tryz.results85, go_sem, hfin]) rfl ⟨_, X, rfl, ?_, ?_, hXp, hX.out⟩
   ·exact hI.out.bel.setCell (p := ⟨w.heap.size + 1, 0, none⟩) (by show w.heap.size ≤ w.heap.size + 1; omega) _
   ·have n4 := qa3 hI.out.row hI.out.b1 (by decide);have hr := hI.out.row;rw [List.take_of_length_le (by omega)] at hr;exact qa7 hr fun k hk => Below.heap_setCell _ _ _ _ (by rintro rfl; exact n4 hk)
end Go.Proofs.YtplijnfaiofckaaGreatDoor
namespace Go.Proofs.YtplijnfaiofckaaGreatDoor
open Go.RowKit Go.Shelf
set_option linter.unusedVariables false
set_option linter.unusedSimpArgs false
theorem own_mono {y : World} {b b' : Nat} {e : TypeId} {z n : Nat} {v : Value} {xs : List Value} (h : y.ownsRow b e z v n xs) (hb : b' ≤ b) : y.ownsRow b' e z v n xs := by
 refine ⟨h.1, ?_⟩;rcases h.2 with h1 | ⟨g, cap, cur, hv, hbb, rest⟩
 ·exact .inl h1
 ·exact .inr ⟨g, cap, cur, hv, Nat.le_trans hb hbb, rest⟩
theorem made_arr (y : World) (z : Value) (n size : Nat) (e : TypeId) (hz : z.cells.size = size) (h0 : 0 < size) (hn : n ≤ 9223372036854775807) : IsArr (· = y.heap.size) (madeW y z n size e) (.slice (some ⟨y.heap.size, 0, none⟩) n n) size n (fun _ j => z.cells[j]!) := by
 refine ⟨_, _, rfl, hn, fun _ => ⟨y.heap.size, 0, rfl, rfl, fun i hi j hj => ?_⟩⟩;have hlt := lt_mul_of hi hj;rw [Nat.zero_add];show (y.alloc (.cells (madeCells z.cells (n * size)) e)).cell? ⟨y.heap.size, i * size + j, none⟩ = _;rw [cell_of_row _ y.heap.size (i * size + j) _ e (0, 0) (heap_alloc_new y _)];unfold madeCells;rw [Array.getElem?_map, Array.getElem?_range, if_pos hlt];simp only [Option.map_some];rw [hz, Nat.add_comm, Nat.add_mul_mod_self_right, Nat.mod_eq_of_lt hj]
theorem made_ints (k : IntKind) (v : Int) {av : Nat → Prop} {w : World} {u : Value} {n : Nat} (h : IsArr av w u 1 n (fun _ j => (Value.int k v).cells[j]!)) : IsArr av w u 1 n (iC k fun _ => v) := by
 obtain ⟨a, c, h1, h2, h3⟩ := h;refine ⟨a, c, h1, h2, fun h0 => ?_⟩;obtain ⟨b, o, e, hb, hc⟩ := h3 h0;refine ⟨b, o, e, hb, fun i hi j hj => ?_⟩;rw [hc i hi j hj]
 match j, hj with
 | 0, _ => rfl
theorem made_vals {av : Nat → Prop} {w : World} {u : Value} {n : Nat} (h : IsArr av w u 3 n (fun _ j => (Value.agg #[.int .i64 0, .int .i64 0, .string ⟨#[]⟩]).cells[j]!)) : IsArr av w u 3 n (vC fun _ => ⟨0, 0, ⟨#[]⟩⟩) := by
 obtain ⟨a, c, h1, h2, h3⟩ := h;refine ⟨a, c, h1, h2, fun h0 => ?_⟩;obtain ⟨b, o, e, hb, hc⟩ := h3 h0;refine ⟨b, o, e, hb, fun i hi j hj => ?_⟩;rw [hc i hi j hj]
 match j, hj with
 | 0, _ => rfl
 | 1, _ => rfl
 | 2, _ => rfl
theorem made_ups {av : Nat → Prop} {w : World} {u : Value} {n : Nat} (h : IsArr av w u 2 n (fun _ j => (Value.agg #[.bool false, .int .i64 0]).cells[j]!)) : IsArr av w u 2 n (uC fun _ => ⟨false, 0⟩) := by
 obtain ⟨a, c, h1, h2, h3⟩ := h;refine ⟨a, c, h1, h2, fun h0 => ?_⟩;obtain ⟨b, o, e, hb, hc⟩ := h3 h0;refine ⟨b, o, e, hb, fun i hi j hj => ?_⟩;rw [hc i hi j hj]
 match j, hj with
 | 0, _ => rfl
 | 1, _ => rfl
def consS {α : Type} (d : α) (s : Sl α) : Sl α := ⟨1 + s.n, fun i => if i = 0 then d else s.f (i - 1)⟩
theorem IsArr.congr {av : Nat → Prop} {w : World} {v : Value} {z n : Nat} {C C' : Nat → Nat → Value} (h : IsArr av w v z n C) (he : ∀ i, i < n → ∀ j, j < z → C i j = C' i j) : IsArr av w v z n C' := by
 obtain ⟨a, c, h1, h2, h3⟩ := h;refine ⟨a, c, h1, h2, fun h0 => ?_⟩;obtain ⟨b, o, e, hb, hc⟩ := h3 h0;exact ⟨b, o, e, hb, fun i hi j hj => by rw [hc i hi j hj, he i hi j hj]⟩
theorem made_set (y : World) (n : Nat) (e : TypeId) (a0 : Addr) (v0 : Value) (t : Int) (h0 : y.heap.size ≠ a0.block) (hn : n ≤ 9223372036854775807) : IsArr (· = y.heap.size) (((madeW y (.int .i64 0) n 1 e).setCell a0 v0).setCell ⟨y.heap.size, 0, none⟩ (.int .i64 t)) (.slice (some ⟨y.heap.size, 0, none⟩) n n) 1 n (iC .i64 fun i => if i = 0 then t else 0) := by
 have r := World.rowIs_made y (.int .i64 0) n e;have hm : y.alloc (.cells (madeCells #[.int .i64 0] n) e) = madeW y (.int .i64 0) n 1 e := by unfold madeW; rw [Nat.mul_one]; rfl
 rw [hm] at r;have r2 := World.rowIs.set (World.rowIs.setOther r h0 v0) 0 (.int .i64 t);refine ⟨_, _, rfl, hn, fun _ => ⟨y.heap.size, 0, rfl, rfl, fun i hi j hj => ?_⟩⟩;obtain rfl : j = 0 := by omega
 have hc := r2.cell hi;rw [Nat.zero_add, Nat.mul_one, Nat.add_zero, hc];by_cases h : i = 0
 ·subst h; simp [iC]
 ·simp [iC, h]
theorem run_append_zero {P : Program} {w : World} {base : Nat} {t ty e : TypeId} {i : TypeInfo} {size : Nat} (ht : P.underlying t = some (.slice e)) (hi : P.info? e = some i) {v : Value} {n : Nat} {xs : List Value} (hown : w.ownsRow base e size v n xs) (ao : Option Addr) (cap : Nat) :
  (Builtin.append_ #[t, t] ty #[v, .slice ao 0 cap]).run P w = .ok v w := by
 rcases hown.2 with ⟨rfl, rfl⟩ | ⟨g, cp, cur, rfl, _, _, hnc, _⟩
 ·cases ao with
  | none => simp [Builtin.append_, run_underlying ht, sizeOf, typeInfo, hi, Builtin.lenOf, Builtin.firstCells]
  | some ad =>
   have hl : (loadCells ad 0).run P w = .ok #[] w := run_loadCells_list (P := P) w ad [] (by simp);simp [Builtin.append_, run_underlying ht, sizeOf, typeInfo, hi, Builtin.lenOf, Builtin.firstCells, hl]
 ·cases ao with
  | none => simp [Builtin.append_, run_underlying ht, sizeOf, typeInfo, hi, Builtin.lenOf, Builtin.firstCells, hnc, storeCells]
  | some ad =>
   have hl : (loadCells ad 0).run P w = .ok #[] w := run_loadCells_list (P := P) w ad [] (by simp);simp [Builtin.append_, run_underlying ht, sizeOf, typeInfo, hi, Builtin.lenOf, Builtin.firstCells, hnc, storeCells, hl]
def flatC (C : Nat → Nat → Value) (size m : Nat) : List Value := (List.range (m * size)).map fun q => C (q / size) (q % size)
theorem app_list {P : Program} {ops : Array Oper} {rest : List Oper} {o : Oper} {a : Act} {Q : Exit → Act → World → Prop} {w : World} {av : Nat → Prop} (hgd : o.guard = none) (s x : Operand) (t : TypeId)
  (ho : o.op = .call { callee := .builtin .append, args := #[s, x], argTypes := #[t, t] })
  (base : Nat) (e : TypeId) (i : TypeInfo) (z : Value) (size bytes : Nat) (ht : P.underlying t = some (.slice e)) (hi : P.info? e = some i) (hz : i.zero = some z)
  (hsize : i.size = size) (hby : i.bytes = bytes) (hzs : z.cells.size = size) (hsz : 0 < size)
  (v : Value) (n : Nat) (xs : List Value) (hs : a.eval s = v) (hown : w.ownsRow base e size v n xs)
  (u : Value) (m : Nat) (C : Nat → Nat → Value) (hx : a.eval x = u) (hu : IsArr av w u size m C) (h1 : ∀ i j, (C i j).oneCell' = true)
  (h63 : n + m ≤ maxLen) (hbytes : (n + m) * bytes ≤ 140737488355328) (hbase : base ≤ w.heap.size)
  (h : ∀ v' w', w'.ownsRow base e size v' (n + m) (xs ++ flatC C size m) → w.grownBy w' v.ownBlock → (v'.ownBlock = v.ownBlock ∨ v'.ownBlock = some w.heap.size) → wpList P ops Q rest (a.put o.dst v') w') :
  wpList P ops Q (o :: rest) a w := by
 obtain ⟨ao, cap, rfl, hn, hc⟩ := hu;by_cases hm : m = 0
 ·subst hm;refine wpList_plain hgd fun K hK => ?_;have hr := run_append_zero (P := P) (w := w) (ty := o.type) ht hi hown ao cap;unfold Oper.wp execOp;simp only [ho, resolve, invoke, builtin, Sem.run_bind, Sem.run_pure, Result.andThen_ok, List.map_toArray, List.map_cons, List.map_nil, hs, hx, hr];refine hK _ _ (h v w ?_ ⟨rfl, rfl, rfl, Nat.le_refl _, fun _ _ _ => rfl⟩ (.inl rfl));have e0 : flatC C size 0 = [] := by simp [flatC]
  rw [e0, List.append_nil, Nat.add_zero];exact hown
 ·obtain ⟨b, o', rfl, hb, hcc⟩ := hc (by omega);refine wpList_append_own_at _ hgd s x t ho base e i z size bytes ht hi hz hsize hby hzs hsz v n xs hs hown ⟨b, o', none⟩ m cap (flatC C size m) hx (by simp [flatC]) (fun j u hj => ?_) (fun u hu => ?_) h63 hbytes hbase (fun v' w' a1 a2 _ a4 => h v' w' a1 a2 a4)
  ·have hlt : j < m * size := by
    have := (List.getElem?_eq_some_iff.1 hj).1
    simpa [flatC] using this
   have hd : j / size < m := by rw [Nat.div_lt_iff_lt_mul hsz]; exact hlt
   have hmod : j % size < size := Nat.mod_lt _ hsz;have hcell := hcc (j / size) hd (j % size) hmod;rw [Addr.add_mid];rw [show o' + j / size * size + j % size = o' + j by rw [Nat.add_assoc, Nat.mul_comm, Nat.div_add_mod]] at hcell;rw [hcell];unfold flatC at hj;rw [List.getElem?_map, List.getElem?_range hlt] at hj;exact hj
  ·unfold flatC at hu;obtain ⟨q, -, rfl⟩ := List.mem_map.1 hu;exact h1 _ _
theorem cons_get {size m : Nat} (hsz : 0 < size) {xs : List Value} {C0 : Nat → Value} {C : Nat → Nat → Value} (hl : xs.length = size) (h0 : ∀ j, j < size → xs[j]? = some (C0 j)) : ∀ i, i < 1 + m → ∀ j, j < size → (xs ++ flatC C size m)[i * size + j]? = some (if i = 0 then C0 j else C (i - 1) j) := by
 intro i hi j hj;by_cases h : i = 0
 ·subst h;rw [if_pos rfl, Nat.zero_mul, Nat.zero_add, List.getElem?_append_left (by omega)];exact h0 j hj
 ·rw [if_neg h];obtain ⟨k, rfl⟩ : ∃ k, i = k + 1 := ⟨i - 1, by omega⟩;have hlt := lt_mul_of (show k < m by omega) hj;rw [List.getElem?_append_right (by rw [hl, Nat.succ_mul]; omega), show (k + 1) * size + j - xs.length = k * size + j by rw [hl, Nat.succ_mul]; omega];unfold flatC;rw [List.getElem?_map, List.getElem?_range hlt];simp only [Option.map_some, Nat.add_sub_cancel];rw [Nat.add_comm, Nat.add_mul_div_right _ _ hsz, Nat.div_eq_of_lt hj, Nat.zero_add, Nat.add_mul_mod_self_right, Nat.mod_eq_of_lt hj]
theorem qf9 {y : World} {lo : Nat} {e : TypeId} {z m : Nat} {v : Value} {xs : List Value} {C0 : Nat → Value} {C C' : Nat → Nat → Value} (hz : 0 < z) (h : y.ownsRow lo e z v (1 + m) (xs ++ flatC C z m)) (hl : xs.length = z) (h0 : ∀ j, j < z → xs[j]? = some (C0 j)) (he : ∀ j, j < z → C' 0 j = C0 j ∧ ∀ i, C' (i + 1) j = C i j) : IsArr (fun b => lo ≤ b ∧ b < y.heap.size) y v z (1 + m) C' := by
 refine (qg3 h (cons_get hz hl h0) h.lt).congr fun i hi j hj => ?_
 cases i with
 | zero => rw [if_pos rfl, (he j hj).1]
 | succ i => rw [if_neg (by omega), Nat.add_sub_cancel, (he j hj).2]
theorem slOf_all {α : Type} [Inhabited α] {P : α → Prop} {L : List α} (h : ∀ x ∈ L, P x) (i : Nat) (hi : i < (slOf L).n) : P ((slOf L).f i) := by
 have hi' : i < L.length := hi;show P (L.getD i default);rw [show L.getD i default = L[i] by simp [List.getD, hi']];exact h _ (List.getElem_mem hi')
theorem consS_all {α : Type} {P : α → Prop} {d : α} {s : Sl α} (h : P d) (hs : ∀ i, i < s.n → P (s.f i)) (i : Nat) (hi : i < (consS d s).n) : P ((consS d s).f i) := by
 have hi' : i < 1 + s.n := hi;show P (if i = 0 then d else s.f (i - 1));split
 ·exact h
 ·exact hs _ (by omega)
def KOk (v : VD) : Prop := (-9223372036854775808 ≤ v.num ∧ v.num ≤ 9223372036854775807) ∧ 0 ≤ v.kind ∧ (v.kind = 1 → 0 ≤ v.num ∧ v.num ≤ 200) ∧ v.text.size ≤ 2000
structure Bd (x : PD) : Prop where
 cw : ∀ i, i < x.code.n → 0 ≤ x.code.f i ∧ x.code.f i ≤ 4294967295
 kn : ∀ i, i < x.consts.n → KOk (x.consts.f i)
 nm : x.name.size ≤ 2000
 un : ∀ i, i < x.upNames.n → (x.upNames.f i).size ≤ 2000
 sz : x.code.n ≤ 3000 ∧ x.consts.n ≤ 1100 ∧ x.ups.n ≤ 2000 ∧ x.lines.n ≤ 3000 ∧ x.upNames.n ≤ 1100
structure Sm (x : PD) : Prop where
 c0 : 0 < x.code.n
 c1 : x.code.n ≤ 1000
 k1 : x.consts.n ≤ 1000
 u1 : x.ups.n ≤ 1000
 l1 : x.lines.n ≤ 1000
 n1 : x.upNames.n ≤ 1000
 bd : Bd x
def SpoilA (c : Sl Int) (P : Nat) (PS : List PD) : Prop :=
 ∃ PS' : List PD, PS'.length ≤ 300 ∧ (∀ x ∈ PS', Bd x) ∧ ∀ (av : Nat → Prop) w v u, (∀ b, av b → b < w.heap.size) → IsCode w v c → qa0 av w u (slOf PS) → Calls Tryz.prog 27 #[v, .int .i64 P, .agg #[u]] w fun e w' => ∃ u', e = .returned (.agg #[u']) ∧ Below w.heap.size w w' ∧ qa0 (fun b => av b ∨ (w.heap.size ≤ b ∧ b < w'.heap.size)) w' u' (slOf PS')
theorem wp_gen {P : Program} {ops : Array Oper} {Q : Exit → Act → World → Prop} {o : Oper} {rest : List Oper} {a : Act} {w : World} (d : Nat) (hd : o.dst = some d) (G : World → Prop) (hG : G w) (h : ∀ y, G y → wpList P ops Q (o :: rest) a y) : wpList P ops Q (o :: rest) a w := h w hG
theorem wp_genS {P : Program} {ops : Array Oper} {Q : Exit → Act → World → Prop} {o : Oper} {rest : List Oper} {a : Act} {w : World} (ty : TypeId) (x y : Operand) (ho : o.op = .store ty x y) (G : World → Prop) (hG : G w) (h : ∀ y, G y → wpList P ops Q (o :: rest) a y) : wpList P ops Q (o :: rest) a w := h w hG
theorem wp_genA {P : Program} {ops : Array Oper} {Q : Exit → Act → World → Prop} {rest : List Oper} {a : Act} {w : World} (G : World → Prop) (hG : G w) (h : ∀ y, G y → wpList P ops Q rest a y) : wpList P ops Q rest a w := h w hG
def setCs (y : World) (g o : Nat) : List Value → World
 | [] => y
 | c :: cs => setCs (y.setCell ⟨g, o, none⟩ c) g (o + 1) cs
theorem qd7 (g : Nat) (cs : List Value) : ∀ (y : World) (o : Nat), setCs y g o cs = y.setCells g o cs := by
 induction cs with
 | nil => intro y o; rfl
 | cons c cs ih => intro y o; rw [setCs, ih, World.setCells]
def setL (L : List Value) (o : Nat) : List Value → List Value
 | [] => L
 | c :: cs => setL (L.set o c) (o + 1) cs
theorem setL_right (a b : List Value) (cs : List Value) : ∀ o, a.length ≤ o → ∀ b, setL (a ++ b) o cs = a ++ setL b (o - a.length) cs := by
 induction cs with
 | nil => intro o _ b; rfl
 | cons c cs ih =>
  intro o ho b;rw [setL, setL, List.set_append_right _ _ ho, ih (o + 1) (by omega), show o + 1 - a.length = o - a.length + 1 by omega]
theorem pvCells_set (y : PV) : ∀ (X : List PV) (i : Nat), i < X.length → setL (qa5 X) (i * 10) y.cells = qa5 (X.set i y) := by
 intro X
 induction X with
 | nil => intro i hi; simp at hi
 | cons x xs ih =>
  intro i hi
  cases i with
  | zero => rfl
  | succ i =>
   simp at hi;rw [qa5, setL_right _ (qa5 xs) _ _ (by simp [PV.cells]; omega), List.set_cons_succ, qa5, ← ih i hi]
   congr 2
   simp [PV.cells];omega
theorem setCs_own {base : Nat} {e : TypeId} {z n g cap : Nat} (cs : List Value) : ∀ {y : World} {xs : List Value} (o : Nat), y.ownsRow base e z (.slice (some ⟨g, 0, none⟩) n cap) n xs → (setCs y g o cs).ownsRow base e z (.slice (some ⟨g, 0, none⟩) n cap) n (setL xs o cs) := by
 induction cs with
 | nil => intro y xs o h; exact h
 | cons c cs ih => intro y xs o h; exact ih (o + 1) (h.stored o c).1
theorem qd2 (g : Nat) (cs : List Value) : ∀ (y : World) (o k : Nat), k ≠ g → (setCs y g o cs).heap[k]? = y.heap[k]? := by
 induction cs with
 | nil => intro y o k _; rfl
 | cons c cs ih => intro y o k hk; rw [setCs, ih _ _ _ hk, Below.heap_setCell _ _ _ _ hk]
theorem setCs_size (g : Nat) (cs : List Value) : ∀ (y : World) (o : Nat), (setCs y g o cs).heap.size = y.heap.size := by
 induction cs with
 | nil => intro y o; rfl
 | cons c cs ih => intro y o; rw [setCs, ih, World.size_setCell]
theorem setCs_below (g : Nat) (cs : List Value) : ∀ {B : Nat} {w y : World} (o : Nat), Below B w y → B ≤ g → Below B w (setCs y g o cs) := by
 induction cs with
 | nil => intro B w y o h _; exact h
 | cons c cs ih => intro B w y o h hg; exact ih (o + 1) (h.setCell (p := ⟨g, o, none⟩) hg _) hg
structure SpI (w : World) (vo : Value) (n : Nat) (X : List PV) (Bo : Nat) (Q : List Value) (y : World) : Prop where
 br : RowL y (w.heap.size + 1) 25 [.slice none 0 0]
 bo : RowL y Bo 25 [vo]
 bq : RowL y (Bo + 1) 63 Q
 row : y.ownsRow w.heap.size 63 10 vo n (qa5 X)
 bel : Below w.heap.size w y
 hBo : w.heap.size + 2 ≤ Bo
 ne : ∀ k, vo.ownBlock = some k → k < Bo
section
variable {w : World} {vo : Value} {n : Nat} {X : List PV} {Bo : Nat} {Q : List Value} {y y' : World}
theorem SpI.later (h : SpI w vo n X Bo Q y) (hb : Below y.heap.size y y') : SpI w vo n X Bo Q y' :=
 ⟨h.br.call hb, h.bo.call hb, h.bq.call hb, qb0 h.row hb, h.bel.trans (hb.mono h.bel.size), h.hBo, h.ne⟩
theorem SpI.alloc (h : SpI w vo n X Bo Q y) (o : Obj) : SpI w vo n X Bo Q (y.alloc o) := h.later ((Below.refl _ _).alloc (Nat.le_refl _) _)
theorem SpI.setQ (h : SpI w vo n X Bo Q y) (f : Nat) (v : Value) : SpI w vo n X Bo (Q.set f v) (y.setCell ⟨Bo + 1, f, none⟩ v) := by
 have hb := h.hBo;refine ⟨h.br.other (a := ⟨Bo + 1, f, none⟩) (by show w.heap.size + 1 ≠ Bo + 1; omega) _, h.bo.other (a := ⟨Bo + 1, f, none⟩) (by show Bo ≠ Bo + 1; omega) _, h.bq.set f v, ?_, h.bel.setCell (p := ⟨Bo + 1, f, none⟩) (by show w.heap.size ≤ Bo + 1; omega) _, h.hBo, h.ne⟩;exact qa7 h.row fun k hk => Below.heap_setCell _ _ _ _ (by have := h.ne k hk; show k ≠ Bo + 1; omega)
theorem SpI.setFar (h : SpI w vo n X Bo Q y) {g : Nat} (hg : Bo + 1 < g) (f : Nat) (v : Value) : SpI w vo n X Bo Q (y.setCell ⟨g, f, none⟩ v) := by
 have hb := h.hBo;refine ⟨h.br.other (a := ⟨g, f, none⟩) (by show w.heap.size + 1 ≠ g; omega) _, h.bo.other (a := ⟨g, f, none⟩) (by show Bo ≠ g; omega) _, h.bq.other (a := ⟨g, f, none⟩) (by show Bo + 1 ≠ g; omega) v, ?_, h.bel.setCell (p := ⟨g, f, none⟩) (by show w.heap.size ≤ g; omega) _, h.hBo, h.ne⟩;exact qa7 h.row fun k hk => Below.heap_setCell _ _ _ _ (by have := h.ne k hk; show k ≠ g; omega)
theorem SpI.grown (h : SpI w vo n X Bo Q y) {row : Option Nat} (hg : y.grownBy y' row) (hr : ∀ k, row = some k → Bo + 1 < k) : SpI w vo n X Bo Q y' := by
 have hk : ∀ k, k < y.heap.size → k ≤ Bo + 1 → y'.heap[k]? = y.heap[k]? := fun k h1 h2 => hg.block k h1 fun e => by have := hr k e.symm; omega
 have hb := h.hBo;refine ⟨World.rowIs.of_block h.br (hk _ h.br.lt (by omega)), World.rowIs.of_block h.bo (hk _ h.bo.lt (by omega)), World.rowIs.of_block h.bq (hk _ h.bq.lt (by omega)), qa7 h.row fun k hk1 => hk k (h.row.lt k hk1).2 (by have := h.ne k hk1; omega), Below.grown h.bel hg h.bel.size fun k hk1 => by have := hr k hk1; omega, h.hBo, h.ne⟩
theorem SpI.fin {av : Nat → Prop} (hav : ∀ b, av b → b < w.heap.size) {g cap i : Nat} {x : PV} (h : SpI w (.slice (some ⟨g, 0, none⟩) n cap) n X Bo x.cells y) (hn : X.length = n) (hi : i < n) (hX : ∀ x ∈ X, IsProto av w x.a3 x.a4 x.a5 x.a8 x.a9 x.p) (hx : IsProto (fun b => av b ∨ (Bo + 1 < b ∧ b < y.heap.size)) y x.a3 x.a4 x.a5 x.a8 x.a9 x.p) :
  Below w.heap.size w ((setCs y g (i * 10) x.cells).setCell ⟨w.heap.size + 1, 0, none⟩ (.slice (some ⟨g, 0, none⟩) n cap)) ∧ qa0 (fun b => av b ∨ (w.heap.size ≤ b ∧ b < ((setCs y g (i * 10) x.cells).setCell ⟨w.heap.size + 1, 0, none⟩ (.slice (some ⟨g, 0, none⟩) n cap)).heap.size)) ((setCs y g (i * 10) x.cells).setCell ⟨w.heap.size + 1, 0, none⟩ (.slice (some ⟨g, 0, none⟩) n cap)) (.slice (some ⟨g, 0, none⟩) n cap) (slOf ((X.map PV.p).set i x.p)) := by
 have hg := h.row.lt g rfl;have hgo := h.ne g rfl;have hb := h.hBo;have hws := h.bel.size;have hgr := qa3 h.row h.br (by decide);have hgr' : g ≠ w.heap.size + 1 := fun e => hgr (by rw [← e]; rfl);have hbel := (setCs_below g x.cells (i * 10) h.bel hg.1).setCell (p := ⟨w.heap.size + 1, 0, none⟩) (by show w.heap.size ≤ w.heap.size + 1; omega) (.slice (some ⟨g, 0, none⟩) n cap);have hsz : ((setCs y g (i * 10) x.cells).setCell ⟨w.heap.size + 1, 0, none⟩ (.slice (some ⟨g, 0, none⟩) n cap)).heap.size = y.heap.size := by rw [World.size_setCell, setCs_size]
 have hkp : ∀ b, b ≠ g → b ≠ w.heap.size + 1 → ((setCs y g (i * 10) x.cells).setCell ⟨w.heap.size + 1, 0, none⟩ (.slice (some ⟨g, 0, none⟩) n cap)).heap[b]? = y.heap[b]? := fun b h1 h2 => by rw [Below.heap_setCell _ _ _ _ h2, qd2 _ _ _ _ _ h1]
 refine ⟨hbel, ?_⟩;have hrow := setCs_own x.cells (i * 10) h.row;rw [pvCells_set x X i (by omega)] at hrow;have hrow2 := qa7 (y' := (setCs y g (i * 10) x.cells).setCell ⟨w.heap.size + 1, 0, none⟩ (.slice (some ⟨g, 0, none⟩) n cap)) hrow fun k hk => Below.heap_setCell _ _ _ _ (by simp [Value.ownBlock] at hk; show k ≠ w.heap.size + 1; omega);rw [← List.map_set];refine qf7 (X := X.set i x) (lo := w.heap.size) (by rw [List.length_set, hn]; exact hrow2) (fun b hb' => ?_) (fun x' hx' => ?_)
 ·simp [Value.ownBlock] at hb';rw [hsz];exact .inr ⟨by omega, by omega⟩
 ·rcases List.mem_or_eq_of_mem_set hx' with h1 | rfl
  ·exact ((hX x' h1).keep fun b hb' => hbel.block b (hav b hb')).mono fun b hb' => .inl hb'
  ·refine (hx.keep fun b hb' => hkp b ?_ ?_).mono fun b hb' => ?_
   ·rcases hb' with h1 | h1
    ·have := hav b h1; omega
    ·omega
   ·rcases hb' with h1 | h1
    ·have := hav b h1; omega
    ·omega
   ·rcases hb' with h1 | h1
    ·exact .inl h1
    ·rw [hsz]; exact .inr ⟨by omega, h1.2⟩
end
theorem step_app_list {P : Program} {ops : Array Oper} {o : Oper} {a : Act} {K : Act → World → Prop} {Q : Exit → Act → World → Prop} {E : Prop} {w : World} {av : Nat → Prop} (hgd : o.guard = none) (s x : Operand) (t : TypeId)
  (ho : o.op = .call { callee := .builtin .append, args := #[s, x], argTypes := #[t, t] })
  (base : Nat) (e : TypeId) (i : TypeInfo) (z : Value) (size bytes : Nat) (ht : P.underlying t = some (.slice e)) (hi : P.info? e = some i) (hz : i.zero = some z)
  (hsize : i.size = size) (hby : i.bytes = bytes) (hzs : z.cells.size = size) (hsz : 0 < size)
  (v : Value) (n : Nat) (xs : List Value) (hs : a.eval s = v) (hown : w.ownsRow base e size v n xs)
  (u : Value) (m : Nat) (C : Nat → Nat → Value) (hx : a.eval x = u) (hu : IsArr av w u size m C) (h1 : ∀ i j, (C i j).oneCell' = true)
  (h63 : n + m ≤ maxLen) (hbytes : (n + m) * bytes ≤ 140737488355328) (hbase : base ≤ w.heap.size)
  (h : ∀ v' w', w'.ownsRow base e size v' (n + m) (xs ++ flatC C size m) → w.grownBy w' v.ownBlock → K (a.put o.dst v') w') :
  if Region.wanted o (yielded ops a.tmps) = true then Oper.wp P o a w K Q else E := by
 have hw : Region.wanted o (yielded ops a.tmps) = true := by simp [Region.wanted, hgd]
 rw [if_pos hw];obtain ⟨ao, cap, rfl, hn, hc⟩ := hu;by_cases hm : m = 0
 ·subst hm;have hr := run_append_zero (P := P) (w := w) (ty := o.type) ht hi hown ao cap;unfold Oper.wp execOp;simp only [ho, resolve, invoke, builtin, Sem.run_bind, Sem.run_pure, Result.andThen_ok, List.map_toArray, List.map_cons, List.map_nil, hs, hx, hr];refine h v w ?_ ⟨rfl, rfl, rfl, Nat.le_refl _, fun _ _ _ => rfl⟩;have e0 : flatC C size 0 = [] := by simp [flatC]
  rw [e0, List.append_nil, Nat.add_zero];exact hown
 ·obtain ⟨b, o', rfl, hb, hcc⟩ := hc (by omega);refine wp_append_lies w s x t ho base e i z size bytes ht hi hz hsize hby hzs hsz v n xs hs hown ⟨b, o', none⟩ m cap (flatC C size m) hx (by simp [flatC]) (fun j u hj => ?_) (fun u hu => ?_) (by omega) h63 hbytes hbase _ rfl (fun g cp w' a1 a2 _ _ => h _ w' a1 a2)
  ·have hlt : j < m * size := by
    have := (List.getElem?_eq_some_iff.1 hj).1
    simpa [flatC] using this
   have hd : j / size < m := by rw [Nat.div_lt_iff_lt_mul hsz]; exact hlt
   have hmod : j % size < size := Nat.mod_lt _ hsz;have hcell := hcc (j / size) hd (j % size) hmod;rw [Addr.add_mid];rw [show o' + j / size * size + j % size = o' + j by rw [Nat.add_assoc, Nat.mul_comm, Nat.div_add_mod]] at hcell;rw [hcell];unfold flatC at hj;rw [List.getElem?_map, List.getElem?_range hlt] at hj;exact hj
  ·unfold flatC at hu;obtain ⟨q, -, rfl⟩ := List.mem_map.1 hu;exact h1 _ _
def leafK (k : Int) : PD := ⟨0, false, 1, slOf [23], slOf [], slOf [], k, ⟨#[]⟩, slOf [], slOf []⟩
def leafPV (gl : Nat) (k : Int) : PV := ⟨leafK k, .slice (some ⟨gl, 0, none⟩) 1 1, .slice none 0 0, .slice none 0 0, .slice none 0 0, .slice none 0 0⟩
def leafC (gl : Nat) (k : Int) : List Value := [.int .i64 0, .bool false, .int .i64 1, .slice (some ⟨gl, 0, none⟩) 1 1, .slice none 0 0, .slice none 0 0, .int .i64 k, .string ⟨#[]⟩, .slice none 0 0, .slice none 0 0]
theorem leaf_proto {y : World} {gl : Nat} {av : Nat → Prop} (h : RowL y gl 101 [.int .u32 23]) (hav : av gl) (k : Int) : IsProto av y (leafPV gl k).a3 (leafPV gl k).a4 (leafPV gl k).a5 (leafPV gl k).a8 (leafPV gl k).a9 (leafPV gl k).p := by
 have e0 : ∀ z C, IsArr av y (.slice none 0 0) z 0 C := fun z C => ⟨none, 0, rfl, by omega, fun h => absurd h (by omega)⟩;refine ⟨⟨_, _, rfl, by show 1 ≤ _; omega, fun _ => ⟨gl, 0, rfl, hav, fun i hi j hj => ?_⟩⟩, ⟨e0 _ _, fun i hi => absurd hi (by show ¬ i < 0; omega)⟩, e0 _ _, e0 _ _, ⟨e0 _ _, fun i hi => absurd hi (by show ¬ i < 0; omega)⟩, by show 0 ≤ _; omega⟩;have hi' : i < 1 := hi;obtain rfl : i = 0 := by omega
 obtain rfl : j = 0 := by omega
 exact h.cell 0 rfl
structure ChI (w : World) (lo Bch Bl gl : Nat) (L : List PV) (kk : Int) (vch : Value) (y : World) : Prop where
 br : RowL y (w.heap.size + 1) 25 [.slice none 0 0]
 bc : RowL y Bch 25 [vch]
 lf : RowL y Bl 63 (leafC gl kk)
 lc : RowL y gl 101 [.int .u32 23]
 row : y.ownsRow lo 63 10 vch L.length (qa5 L)
 bel : Below w.heap.size w y
 h1 : w.heap.size + 1 < gl
 h2 : gl < Bl
 h3 : Bl < lo
 h4 : Bl < Bch
section
variable {w : World} {lo Bch Bl gl : Nat} {L : List PV} {kk : Int} {vch v' : Value} {y w' : World}
theorem ChI.kids (h : ChI w lo Bch Bl gl L kk vch y) (k : Int) : ChI w lo Bch Bl gl L k vch (y.setCell ⟨Bl, 6, none⟩ (.int .i64 k)) := by
 have a1 := h.h1;have a2 := h.h2;have a3 := h.h3;have a4 := h.h4;refine ⟨h.br.other (a := ⟨Bl, 6, none⟩) (by show w.heap.size + 1 ≠ Bl; omega) _, h.bc.other (a := ⟨Bl, 6, none⟩) (by show Bch ≠ Bl; omega) _, h.lf.set 6 _, h.lc.other (a := ⟨Bl, 6, none⟩) (by show gl ≠ Bl; omega) _, ?_, h.bel.setCell (p := ⟨Bl, 6, none⟩) (by show w.heap.size ≤ Bl; omega) _, a1, a2, a3, a4⟩;exact qa7 h.row fun k hk => Below.heap_setCell _ _ _ _ (by have := (h.row.lt k hk).1; show k ≠ Bl; omega)
theorem ChI.alloc (h : ChI w lo Bch Bl gl L kk vch y) (o : Obj) : ChI w lo Bch Bl gl L kk vch (y.alloc o) :=
 ⟨h.br.alloc o, h.bc.alloc o, h.lf.alloc o, h.lc.alloc o, h.row.alloc o, h.bel.alloc h.bel.size o, h.h1, h.h2, h.h3, h.h4⟩
theorem ChI.app (h : ChI w lo Bch Bl gl L kk vch y) (hrow : w'.ownsRow lo 63 10 v' (L.length + 1) (qa5 L ++ leafC gl kk)) (hg : y.grownBy w' vch.ownBlock) :
  ChI w lo Bch Bl gl (L ++ [leafPV gl kk]) kk v' (w'.setCell ⟨Bch, 0, none⟩ v') ∧ RowL w' Bch 25 [vch] := by
 have a1 := h.h1;have a2 := h.h2;have a3 := h.h3;have a4 := h.h4;have hlt := h.row.lt;have n2 := qa3 h.row h.bc (by decide);have k1 : ∀ k, k < lo → k < y.heap.size → w'.heap[k]? = y.heap[k]? := fun k h1 h2 => hg.block k h2 fun e => by have := (hlt k e.symm).1; omega
 have c2 : RowL w' Bch 25 [vch] := World.rowIs.of_block h.bc (hg.block _ h.bc.lt fun e => n2 e.symm);have n4 := qa3 hrow c2 (by decide);have b1 : RowL w' (w.heap.size + 1) 25 _ := World.rowIs.of_block h.br (k1 _ (by omega) h.br.lt);have b3 : RowL w' Bl 63 _ := World.rowIs.of_block h.lf (k1 _ (by omega) h.lf.lt);have b4 : RowL w' gl 101 _ := World.rowIs.of_block h.lc (k1 _ (by omega) h.lc.lt);refine ⟨⟨b1.other (a := ⟨Bch, 0, none⟩) (by show w.heap.size + 1 ≠ Bch; omega) _, c2.set 0 _, b3.other (a := ⟨Bch, 0, none⟩) (by show Bl ≠ Bch; omega) _, b4.other (a := ⟨Bch, 0, none⟩) (by show gl ≠ Bch; omega) _, ?_, ?_, a1, a2, a3, a4⟩, c2⟩
 ·rw [List.length_append, qf1];have e : qa5 [leafPV gl kk] = leafC gl kk := by simp [qa5, leafPV, PV.cells, leafC, leafK]
  rw [e];exact qa7 hrow fun k hk => Below.heap_setCell _ _ _ _ (by rintro rfl; exact n4 hk)
 ·exact (Below.grown h.bel hg h.bel.size (fun q hq => by have := (hlt q hq).1; omega)).setCell (p := ⟨Bch, 0, none⟩) (by show w.heap.size ≤ Bch; omega) _
theorem ChI.fin (h : ChI w lo Bch Bl gl L kk vch y) {PS' : List PD} (hp : L.map PV.p = PS') (hL : ∀ x ∈ L, ∃ k, x = leafPV gl k) :
  Below w.heap.size w (y.setCell ⟨w.heap.size + 1, 0, none⟩ vch) ∧ qa0 (fun b => w.heap.size ≤ b ∧ b < (y.setCell ⟨w.heap.size + 1, 0, none⟩ vch).heap.size) (y.setCell ⟨w.heap.size + 1, 0, none⟩ vch) vch (slOf PS') := by
 have a1 := h.h1;have a2 := h.h2;have a3 := h.h3;have a4 := h.h4;have hlt := h.row.lt;refine ⟨h.bel.setCell (p := ⟨w.heap.size + 1, 0, none⟩) (by show w.heap.size ≤ w.heap.size + 1; omega) _, ?_⟩;rw [← hp];have hrow := qa7 (y' := y.setCell ⟨w.heap.size + 1, 0, none⟩ vch) h.row fun k hk => Below.heap_setCell _ _ _ _ (by have := (hlt k hk).1; show k ≠ w.heap.size + 1; omega);refine qf7 hrow (fun b hb => by rw [World.size_setCell]; have := hlt b hb; exact ⟨by omega, this.2⟩) (fun x hx => ?_);obtain ⟨k, rfl⟩ := hL x hx;exact leaf_proto (h.lc.other (a := ⟨w.heap.size + 1, 0, none⟩) (by show gl ≠ w.heap.size + 1; omega) _) (by rw [World.size_setCell]; exact ⟨by omega, h.lc.lt⟩) k
end
end Go.Proofs.YtplijnfaiofckaaGreatDoor
namespace Go.Proofs.YtplijnfaiofckaaGreatDoor
open Go.RowKit Go.Shelf
set_option linter.unusedVariables false
set_option linter.unusedSimpArgs false
set_option maxRecDepth 100000
set_option maxHeartbeats 9000000
attribute [local go_sem] Oper.semAt_some
def spD (a x : Int) : PD → PD
 | ⟨params, vararg, regs, code, consts, ups', kids', name, lines, upNames⟩ =>
  if a = 0 then (⟨(wrap64 (regs + x)), vararg, regs, code, consts, ups', kids', name, lines, upNames⟩ : PD) else
  if a = 1 then (⟨params, vararg, (251 * x), code, consts, ups', kids', name, lines, upNames⟩ : PD) else
  if a = 2 then (⟨params, vararg, regs, code, consts, ups', (wrap64 (wrap64 (kids' + 1) - 2 * x)), name, lines, upNames⟩ : PD) else
  if a = 3 then (⟨params, vararg, regs, (slOf []), consts, ups', kids', name, lines, upNames⟩ : PD) else
  if a = 4 then (⟨params, vararg, regs, ⟨(2000 + x).toNat, fun _ => 0⟩, consts, ups', kids', name, (slOf []), upNames⟩ : PD) else
  if a = 5 then (⟨params, vararg, regs, code, (consS (⟨3, 1 - x, rep 116 (1000 * x + x).toNat⟩ : VD) consts), ups', kids', name, lines, upNames⟩ : PD) else
  if a = 6 then (⟨params, vararg, regs, code, (consS (⟨4 + x, 0, ⟨#[]⟩⟩ : VD) consts), ups', kids', name, lines, upNames⟩ : PD) else
  if a = 7 then (⟨params, vararg, regs, code, (consS (⟨1, 2, ⟨#[]⟩⟩ : VD) consts), ups', kids', name, lines, upNames⟩ : PD) else
  if a = 8 then (⟨params, vararg, regs, code, ⟨(500 + x).toNat, fun _ => ⟨0, 0, ⟨#[]⟩⟩⟩, ups', kids', name, lines, upNames⟩ : PD) else
  if a = 9 then (⟨params, vararg, regs, code, consts, ⟨(60 + x).toNat, fun _ => ⟨false, 0⟩⟩, kids', name, lines, (slOf [])⟩ : PD) else
  if a = 10 then (⟨params, vararg, regs, code, consts, (consS (⟨false, 16777215 + x⟩ : UD) ups'), kids', name, lines, (slOf [])⟩ : PD) else
  if a = 11 then (⟨params, vararg, regs, code, consts, ups', kids', (rep 110 (1000 + x).toNat), lines, upNames⟩ : PD) else
  if a = 12 then (⟨params, vararg, regs, code, consts, ups', kids', name, (consS (5 : Int) lines), upNames⟩ : PD) else
  if a = 13 then (⟨params, vararg, regs, code, consts, ups', kids', name, ⟨code.n, fun i => if i = 0 then 16777215 + x else 0⟩, upNames⟩ : PD) else
  if a = 14 then (⟨params, vararg, regs, code, consts, ups', kids', name, lines, (consS (⟨#[117]⟩ : ByteArray) upNames)⟩ : PD) else
  (⟨params, vararg, regs, code, (consS (⟨0, x, ⟨#[]⟩⟩ : VD) consts), ups', kids', name, lines, upNames⟩ : PD)
def EndR (av : Nat → Prop) (w : World) (vo : Value) (n : Nat) (X : List PV) (B : Nat) (d : PD) (yz : World) : Prop :=
 ∃ b3 b4 b5 b8 b9, SpI w vo n X B (PV.cells ⟨d, b3, b4, b5, b8, b9⟩) yz ∧ IsProto (fun b => av b ∨ (B + 1 < b ∧ b < yz.heap.size)) yz b3 b4 b5 b8 b9 d
theorem bd_ite {c : Prop} [Decidable c] {x y : PD} (h1 : Bd x) (h2 : Bd y) : Bd (if c then x else y) := by split <;> assumption
theorem rep_le (z : UInt8) {x : Int} (h : x ≤ 2000) : (rep z x.toNat).size ≤ 2000 := by
 rw [qf6];omega
theorem spD_bd (a x : Int) (q : PD) (hs : Sm q) (hx1 : 0 ≤ x) (hx2 : x ≤ 1) : Bd (spD a x q) := by
 have hq := hs.bd;have z1 := hs.c1;have z2 := hs.k1;have z3 := hs.u1;have z4 := hs.l1;have z5 := hs.n1;obtain ⟨params, vararg, regs, code, consts, ups', kids', name, lines, upNames⟩ := q;dsimp only at z1 z2 z3 z4 z5;have hk := hq.kn;have hu := hq.un;have hn := hq.nm;dsimp only at hk hu hn;have E : ∀ {P : ByteArray → Prop} (i : Nat), i < (slOf ([] : List ByteArray)).n → P ((slOf ([] : List ByteArray)).f i) := fun i hi => absurd hi (by show ¬ i < 0; omega);have SZ : ∀ (c : Sl Int) (k : Sl VD) (u : Sl UD) (l : Sl Int) (n : Sl ByteArray), c.n ≤ 3000 → k.n ≤ 1100 → u.n ≤ 2000 → l.n ≤ 3000 → n.n ≤ 1100 → c.n ≤ 3000 ∧ k.n ≤ 1100 ∧ u.n ≤ 2000 ∧ l.n ≤ 3000 ∧ n.n ≤ 1100 := fun _ _ _ _ _ h1 h2 h3 h4 h5 => ⟨h1, h2, h3, h4, h5⟩;simp only [spD]
 repeat' (refine bd_ite ?_ ?_)
 all_goals refine ⟨?_, ?_, ?_, ?_, SZ _ _ _ _ _ ?_ ?_ ?_ ?_ ?_⟩
 all_goals first
  | exact hq.cw
  | exact hk
  | exact hn
  | exact hu
  | exact E
  | (show _ ≤ _; dsimp only [consS, slOf]; (try simp only [List.length_nil]); omega)
  | exact rep_le _ (by omega)
  | exact fun i hi => absurd hi (by show ¬ i < 0; omega)
  | exact fun i hi => ⟨by show (0 : Int) ≤ 0; omega, by show (0 : Int) ≤ _; omega⟩
  | exact fun i hi => ⟨⟨by show _ ≤ (0 : Int); omega, by show (0 : Int) ≤ _; omega⟩, by show (0 : Int) ≤ 0; omega, fun h => ⟨by show (0 : Int) ≤ 0; omega, by show (0 : Int) ≤ _; omega⟩, by show 0 ≤ 2000; omega⟩
  | exact consS_all (P := fun b : ByteArray => b.size ≤ 2000) (by show 1 ≤ 2000; omega) hu
  | exact consS_all (P := KOk) ⟨⟨by dsimp only; omega, by dsimp only; omega⟩, by dsimp only; omega, fun h => by dsimp only at h ⊢; omega, by show 0 ≤ 2000; omega⟩ hk
  | exact consS_all (P := KOk) ⟨⟨by dsimp only; omega, by dsimp only; omega⟩, by dsimp only; omega, fun h => by dsimp only at h ⊢; omega, rep_le _ (by omega)⟩ hk
def spE (a x : Int) (PS : List PD) : List PD :=
 if a = 16 then [] else
 if a = 17 then (List.range (64 + x).toNat).map fun (j : Nat) => leafK (if j + 1 = (64 + x).toNat then 0 else 1) else
 if a = 18 then leafK (199 + x) :: List.replicate (199 + x).toNat (leafK 0) else
 PS ++ [leafK 0]
theorem leaf_bd (k : Int) : Bd (leafK k) := ⟨slOf_all (P := fun x : Int => 0 ≤ x ∧ x ≤ 4294967295) (L := [23]) (fun x hx => by simp at hx; subst hx; omega), fun i hi => absurd hi (by show ¬ i < 0; omega), by show 0 ≤ 2000; omega, fun i hi => absurd hi (by show ¬ i < 0; omega), by show 1 ≤ 3000; omega, by show 0 ≤ 1100; omega, by show 0 ≤ 2000; omega, by show 0 ≤ 3000; omega, by show 0 ≤ 1100; omega⟩
theorem spE_bd (a x : Int) (PS : List PD) (h : ∀ x ∈ PS, Bd x) : ∀ y ∈ spE a x PS, Bd y := by
 unfold spE
 repeat' split
 ·intro y hy; cases hy
 ·intro y hy;obtain ⟨j, -, rfl⟩ := List.mem_map.1 hy;exact leaf_bd _
 ·intro y hy;rcases List.mem_cons.1 hy with rfl | hy
  ·exact leaf_bd _
  ·rw [List.eq_of_mem_replicate hy]; exact leaf_bd _
 ·intro y hy;rcases List.mem_append.1 hy with hy | hy
  ·exact h y hy
  ·simp at hy; rw [hy]; exact leaf_bd _
theorem spE_len (a x : Int) (PS : List PD) (hx : x ≤ 1) (h : PS.length ≤ 10) : (spE a x PS).length ≤ 300 := by
 unfold spE
 repeat' split
 ·simp
 ·simp; omega
 ·simp; omega
 ·simp; omega
end Go.Proofs.YtplijnfaiofckaaGreatDoor
namespace Go.Proofs.YtplijnfaiofckaaGreatDoor
open Go.RowKit Go.Shelf
set_option linter.unusedVariables false
set_option linter.unusedSimpArgs false
set_option maxRecDepth 100000
set_option maxHeartbeats 9000000
attribute [local go_sem] Oper.semAt_some
structure Hm (x : PD) : Prop where
 c0 : 0 < x.code.n
 c1 : x.code.n ≤ 3000
 u1 : x.ups.n ≤ 3000
 cw : ∀ i, i < x.code.n → 0 ≤ x.code.f i ∧ x.code.f i ≤ 4294967295
 kn : ∀ i, i < x.consts.n → -9223372036854775808 ≤ (x.consts.f i).num ∧ (x.consts.f i).num ≤ 9223372036854775807
theorem Sm.hm {x : PD} (h : Sm x) : Hm x := ⟨h.c0, by have := h.c1; omega, by have := h.u1; omega, h.bd.cw, fun i hi => (h.bd.kn i hi).1⟩
def hW (how x y z : Int) : Int :=
 if how < 3 then pI (opW z) (x % 16) (bW z) (cW z) else
 if how < 5 then pI (opW z) (aW z) (x % 16) (cW z) else
 if how < 6 then pI (opW z) (aW z) (bW z) (x % 16) else
 if how < 8 then pI (x % 36) (aW z) (bW z) (cW z) else
 if how = 8 then pW 18 0 (x % 20 - 10) else
 if ¬ opW z = 22 ∧ ¬ opW z = 31 ∧ ¬ opW z = 23 then pI 23 (x % 10) 511 0 else
 if y % 2 = 0 ∧ ¬ opW z = 23 then pI (opW z) (aW z) (bW z) 511 else pI (opW z) (aW z) 511 (cW z)
theorem hW_bd (how x y z : Int) (hx : 0 ≤ x) (h1 : 0 ≤ z) (h2 : z ≤ 4294967295) : 0 ≤ hW how x y z ∧ hW how x y z ≤ 4294967295 := by
 have o : 0 ≤ opW z ∧ opW z ≤ 63 ∧ 0 ≤ aW z ∧ aW z ≤ 255 ∧ 0 ≤ bW z ∧ bW z ≤ 511 ∧ 0 ≤ cW z ∧ cW z ≤ 511 := by unfold opW aW bW cW; omega
 unfold hW
 repeat' split
 all_goals first | exact pI_bd | exact pW_bd
def hD (how x y : Int) (pc : Nat) (q : PD) : PD :=
 if how < 10 then { q with code := slSet q.code pc (hW how x y (q.code.f pc)) } else
 if how = 10 then { q with code := ⟨pc + 1, q.code.f⟩, lines := slOf [] } else
 if 0 < q.ups.n then { q with ups := slSet q.ups 0 ⟨y % 2 == 0, x % 20⟩ } else q
theorem hD_hm (how x y : Int) (pc : Nat) (q : PD) (hx : 0 ≤ x) (h : Hm q) (hpc : pc < q.code.n) : Hm (hD how x y pc q) := by
 unfold hD;split
 ·refine ⟨h.c0, h.c1, h.u1, fun i hi => ?_, h.kn⟩;show 0 ≤ (if i = pc then _ else q.code.f i) ∧ (if i = pc then _ else q.code.f i) ≤ 4294967295;split
  ·exact hW_bd _ _ _ _ hx (h.cw pc hpc).1 (h.cw pc hpc).2
  ·exact h.cw i hi
 split
 ·exact ⟨Nat.succ_pos _, by have := h.c1; show pc + 1 ≤ 3000; omega, h.u1, fun i hi => h.cw i (by have : i < pc + 1 := hi; omega), h.kn⟩
 split
 ·exact ⟨h.c0, h.c1, h.u1, h.cw, h.kn⟩
 ·exact h
def HurtA (c : Sl Int) (P : Nat) (PS PS' : List PD) : Prop :=
 ∀ (av : Nat → Prop) w v u, (∀ b, av b → b < w.heap.size) → IsCode w v c → qa0 av w u (slOf PS) → Calls Tryz.prog 26 #[v, .int .i64 P, .agg #[u]] w fun e w' => ∃ u', e = .returned (.agg #[u']) ∧ Below w.heap.size w w' ∧ qa0 (fun b => av b ∨ (w.heap.size ≤ b ∧ b < w'.heap.size)) w' u' (slOf PS')
structure WI (w : World) (vo : Value) (n : Nat) (X : List PV) (B : Nat) (Q : List Value) (L : List Int) (wv : Value) (y : World) : Prop where
 sp : SpI w vo n X B Q y
 row : y.ownsRow (B + 2) 101 1 wv L.length (L.map (Value.int .u32))
section
variable {w : World} {vo : Value} {n : Nat} {X : List PV} {B : Nat} {Q : List Value} {L : List Int} {wv : Value} {y y' : World}
theorem WI.later (h : WI w vo n X B Q L wv y) (hb : Below y.heap.size y y') : WI w vo n X B Q L wv y' := ⟨h.sp.later hb, qb0 h.row hb⟩
theorem WI.alloc (h : WI w vo n X B Q L wv y) (o : Obj) : WI w vo n X B Q L wv (y.alloc o) := h.later ((Below.refl _ _).alloc (Nat.le_refl _) _)
theorem WI.app (h : WI w vo n X B Q L wv y) {v' : Value} {z : Int} (hrow : y'.ownsRow (B + 2) 101 1 v' (L.length + 1) (L.map (Value.int .u32) ++ [.int .u32 z])) (hg : y.grownBy y' wv.ownBlock) : WI w vo n X B Q (L ++ [z]) v' y' :=
 ⟨h.sp.grown hg fun k hk => by have := (h.row.lt k hk).1; omega, by rw [List.map_append, List.length_append]; exact hrow⟩
end
def cL (code : Sl Int) (k : Nat) : List Int := (List.range k).map code.f
theorem cL_len (code : Sl Int) (k : Nat) : (cL code k).length = k := by simp [cL]
theorem cL_succ (code : Sl Int) (k : Nat) : cL code (k + 1) = cL code k ++ [code.f k] := by simp [cL, List.range_succ]
theorem cL_get (code : Sl Int) (k i : Nat) (h : i < k) : (cL code k).getD i 0 = code.f i := by simp [cL, List.getD, h]
theorem words_is {y : World} {lo : Nat} {wv : Value} {L : List Int} {av : Nat → Prop} (h : y.ownsRow lo 101 1 wv L.length (L.map (Value.int .u32))) (hav : ∀ b, wv.ownBlock = some b → av b) (d : Sl Int) (hn : L.length = d.n) (hd : ∀ i, i < d.n → L.getD i 0 = d.f i) : IsInts .u32 av y wv d := by
 have := ints_of_own h hav;unfold IsInts at this ⊢;rw [← hn]
 exact IsArr.congr this fun i hi j hj => by
  show Value.int .u32 (L.getD i default) = .int .u32 (d.f i);rw [← hd i (by show i < d.n; rw [← hn]; exact hi)]; rfl
def HR (av : Nat → Prop) (w : World) (vo : Value) (n : Nat) (X : List PV) (B : Nat) (d : PD) (wv : Value) (yz : World) : Prop :=
 ∃ b3 b4 b5 b8 b9, SpI w vo n X B (PV.cells ⟨d, b3, b4, b5, b8, b9⟩) yz ∧ IsProto (fun b => av b ∨ (B + 1 < b ∧ b < yz.heap.size)) yz wv b4 b5 b8 b9 d
theorem proto_keep {av av' : Nat → Prop} {w y : World} {a3 a4 a5 a8 a9 : Value} {p : PD} (h : IsProto av w a3 a4 a5 a8 a9 p) (hav : ∀ b, av b → b < w.heap.size) (hb : Below w.heap.size w y) (hm : ∀ b, av b → av' b) : IsProto av' y a3 a4 a5 a8 a9 p := (h.keep fun b h' => hb.block b (hav b h')).mono hm
section
variable {w : World} {vo : Value} {n : Nat} {X : List PV} {B : Nat} {y : World} {av : Nat → Prop} {q : PD} {a3 a4 a5 a8 a9 : Value} {g ca : Nat}
theorem WI.put {Q : List Value} {L : List Int} {m : Nat} (hT : WI w vo n X B Q L (.slice (some ⟨g, 0, none⟩) m ca) y) (hm : L.length = m) (pc : Nat) (nw : Int) : WI w vo n X B Q (L.set pc nw) (.slice (some ⟨g, 0, none⟩) m ca) (y.setCell ⟨g, pc, none⟩ (.int .u32 nw)) := by
 subst hm;have hr2 := (hT.row.stored pc (.int .u32 nw)).1;rw [← List.map_set] at hr2;exact ⟨hT.sp.setFar (show B + 1 < g by have := (hT.row.lt g rfl).1; omega) pc _, by rw [List.length_set]; exact hr2⟩
theorem WI.far {Q : List Value} {L : List Int} {m b : Nat} (hT : WI w vo n X B Q L (.slice (some ⟨g, 0, none⟩) m ca) y) (h1 : B + 1 < b) (h2 : b ≠ g) (k : Nat) (v : Value) : WI w vo n X B Q L (.slice (some ⟨g, 0, none⟩) m ca) (y.setCell ⟨b, k, none⟩ v) :=
 ⟨hT.sp.setFar h1 k v, qa7 hT.row fun j hj => Below.heap_setCell _ _ _ _ (by simp [Value.ownBlock] at hj; subst hj; exact fun e => h2 e.symm)⟩
theorem WI.grown {Q : List Value} {L : List Int} {m : Nat} {y' : World} {row : Option Nat} (hT : WI w vo n X B Q L (.slice (some ⟨g, 0, none⟩) m ca) y) (hg : y.grownBy y' row) (hr : ∀ k, row = some k → B + 1 < k ∧ k ≠ g) : WI w vo n X B Q L (.slice (some ⟨g, 0, none⟩) m ca) y' :=
 ⟨hT.sp.grown hg fun k hk => (hr k hk).1, hT.row.kept hg (.inr fun e => (hr g (by rw [← e]; rfl)).2 rfl)⟩
theorem WI.word {Q : List Value} {L : List Int} {m : Nat} (hT : WI w vo n X B Q L (.slice (some ⟨g, 0, none⟩) m ca) y) (hm : L.length = m) (pc : Nat) (h : pc < m) : (∃ v, y.cell? ⟨g, pc, none⟩ = some (.int .u32 v)) ∧ y.frozen? ⟨g, pc, none⟩ = false := by
 subst hm;exact ⟨⟨L[pc], by rw [hT.row.cellAt pc (by omega), List.getElem?_map, List.getElem?_eq_getElem h]; rfl⟩, hT.row.frozenAt pc⟩
theorem hr_code {L : List Int} {m : Nat} (hT : WI w vo n X B (PV.cells ⟨q, a3, a4, a5, a8, a9⟩) L (.slice (some ⟨g, 0, none⟩) m ca) y) (hpx : IsProto av w a3 a4 a5 a8 a9 q) (hav : ∀ b, av b → b < w.heap.size) (d : Sl Int) (hn : L.length = d.n) (hd : ∀ i, i < d.n → L.getD i 0 = d.f i) : HR av w vo n X B { q with code := d } (.slice (some ⟨g, 0, none⟩) m ca) y := by
 have K := proto_keep (av' := fun b => av b ∨ (B + 1 < b ∧ b < y.heap.size)) hpx hav hT.sp.bel fun b h => .inl h;have hl := hT.row.lt g rfl;exact ⟨a3, a4, a5, a8, a9, hT.sp, words_is hT.row (fun b hb => by simp [Value.ownBlock] at hb; subst hb; exact .inr ⟨by omega, hl.2⟩) _ hn hd, K.consts, K.ups, K.lines, K.upNames, K.name⟩
theorem set_get (code : Sl Int) {L : List Int} (pc : Nat) (nw : Int) (hn : L.length = code.n) (h : ∀ i, i < code.n → i ≠ pc → L.getD i 0 = code.f i) (i : Nat) (hi : i < code.n) : (L.set pc nw).getD i 0 = (slSet code pc nw).f i := by
 show _ = if i = pc then nw else code.f i;rw [List.getD, List.getElem?_set];by_cases e : pc = i
 ·rw [if_pos e, if_pos (by omega), if_pos e.symm]; rfl
 ·rw [if_neg e, if_neg (fun e' => e e'.symm)]; exact h i hi (fun e' => e e'.symm)
theorem qh6 (hT : WI w vo n X B (PV.cells ⟨q, a3, a4, a5, a8, a9⟩) (cL q.code q.code.n) (.slice (some ⟨g, 0, none⟩) q.code.n ca) y) (hpx : IsProto av w a3 a4 a5 a8 a9 q) (hav : ∀ b, av b → b < w.heap.size) (pc : Nat) (nw : Int) : HR av w vo n X B { q with code := slSet q.code pc nw } (.slice (some ⟨g, 0, none⟩) q.code.n ca) (y.setCell ⟨g, pc, none⟩ (.int .u32 nw)) :=
 hr_code (hT.put (cL_len _ _) pc nw) hpx hav _ (by rw [List.length_set, cL_len]; rfl) (set_get q.code pc nw (cL_len _ _) fun i hi _ => cL_get _ _ i hi)
theorem hr_twice {y' : World} (hT : WI w vo n X B (PV.cells ⟨q, a3, a4, a5, a8, a9⟩) (cL q.code q.code.n) (.slice (some ⟨g, 0, none⟩) q.code.n ca) y) (hpx : IsProto av w a3 a4 a5 a8 a9 q) (hav : ∀ b, av b → b < w.heap.size) (pc : Nat) (n1 nw : Int) (hb : Below y.heap.size (y.setCell ⟨g, pc, none⟩ (.int .u32 n1)) y') : HR av w vo n X B { q with code := slSet q.code pc nw } (.slice (some ⟨g, 0, none⟩) q.code.n ca) (y'.setCell ⟨g, pc, none⟩ (.int .u32 nw)) := by
 have h1 := (hT.put (cL_len _ _) pc n1).later (by rw [World.size_setCell]; exact hb);refine hr_code (h1.put (by rw [List.length_set, cL_len]) pc nw) hpx hav _ (by rw [List.length_set, List.length_set, cL_len]; rfl) (set_get q.code pc nw (by rw [List.length_set, cL_len]) fun i hi hne => ?_);rw [List.getD, List.getElem?_set_ne (fun e => hne e.symm)];exact cL_get _ _ i hi
theorem hr_same (hT : WI w vo n X B (PV.cells ⟨q, a3, a4, a5, a8, a9⟩) (cL q.code q.code.n) (.slice (some ⟨g, 0, none⟩) q.code.n ca) y) (hpx : IsProto av w a3 a4 a5 a8 a9 q) (hav : ∀ b, av b → b < w.heap.size) : HR av w vo n X B q (.slice (some ⟨g, 0, none⟩) q.code.n ca) y :=
 hr_code hT hpx hav q.code (cL_len _ _) fun i hi => cL_get _ _ i hi
theorem row_cap {lo z m cap : Nat} {e : TypeId} {xs : List Value} (h : y.ownsRow lo e z (.slice (some ⟨g, 0, none⟩) m cap) m xs) : m ≤ cap := by
 rcases h.2 with ⟨h', _⟩ | ⟨g', cap', cur, h', hb, hg, hnc, _⟩
 ·simp at h'
 ·simp only [Value.slice.injEq] at h';obtain ⟨-, -, rfl⟩ := h';exact hnc
theorem hr_cut (hT : WI w vo n X B (PV.cells ⟨q, a3, a4, a5, a8, a9⟩) (cL q.code q.code.n) (.slice (some ⟨g, 0, none⟩) q.code.n ca) y) (hpx : IsProto av w a3 a4 a5 a8 a9 q) (hav : ∀ b, av b → b < w.heap.size) (pc : Nat) (hpc : pc < q.code.n) : HR av w vo n X B { q with code := ⟨pc + 1, q.code.f⟩, lines := slOf [] } (.slice (some ⟨g, 0, none⟩) (pc + 1) ca) (y.setCell ⟨B + 1, 8, none⟩ (.slice none 0 0)) := by
 have hl := hT.row.lt g rfl;have hS := hT.sp.setQ 8 (.slice none 0 0);have K := proto_keep (av' := fun b => av b ∨ (B + 1 < b ∧ b < (y.setCell ⟨B + 1, 8, none⟩ (.slice none 0 0)).heap.size)) hpx hav hS.bel fun b h => .inl h;obtain ⟨_, _, he, hn, hc⟩ := words_is (av := (· = g)) hT.row (fun b hb => by simp [Value.ownBlock] at hb; exact hb.symm) q.code (cL_len _ _) (fun i hi => cL_get _ _ i hi);simp only [Value.slice.injEq] at he;obtain ⟨rfl, -, rfl⟩ := he;obtain ⟨b, o, hbo, rfl, hcc⟩ := hc (by omega);simp only [Option.some.injEq, Addr.mk.injEq, true_and, and_true] at hbo;subst hbo;refine ⟨a3, a4, a5, .slice none 0 0, a9, hS, ⟨_, _, rfl, by show pc + 1 ≤ _; omega, fun _ => ⟨b, 0, rfl, .inr ⟨by omega, by rw [World.size_setCell]; exact hl.2⟩, fun i hi j hj => ?_⟩⟩, K.consts, K.ups, ⟨none, 0, rfl, Nat.zero_le _, fun h => absurd h (Nat.lt_irrefl 0)⟩, K.upNames, K.name⟩;have hi' : i < pc + 1 := hi;rw [← hcc i (by omega) j hj];exact World.cell?_of_block (w := y) (Below.heap_setCell _ _ _ _ (by show b ≠ B + 1; omega))
theorem flat2_get {C : Nat → Nat → Value} {m i j : Nat} (hi : i < m) (hj : j < 2) : (flatC C 2 m)[i * 2 + j]? = some (C i j) := by
 unfold flatC;rw [List.getElem?_map, List.getElem?_range (by omega), Option.map_some, show (i * 2 + j) / 2 = i by omega, show (i * 2 + j) % 2 = j by omega]
theorem hr_ups {g5 cp5 : Nat} (hT : WI w vo n X B (PV.cells ⟨q, a3, a4, a5, a8, a9⟩) (cL q.code q.code.n) (.slice (some ⟨g, 0, none⟩) q.code.n ca) y) (hpx : IsProto av w a3 a4 a5 a8 a9 q) (hav : ∀ b, av b → b < w.heap.size) (hu0 : 0 < q.ups.n) (hown : y.ownsRow (B + 2) 99 2 (.slice (some ⟨g5, 0, none⟩) q.ups.n cp5) q.ups.n (flatC (uC q.ups.f) 2 q.ups.n)) (hne : g5 ≠ g) (s : Bool) (x : Int) : HR av w vo n X B { q with ups := slSet q.ups 0 ⟨s, x⟩ } (.slice (some ⟨g, 0, none⟩) q.code.n ca) (((y.setCell ⟨B + 1, 5, none⟩ (.slice (some ⟨g5, 0, none⟩) q.ups.n cp5)).setCell ⟨g5, 0, none⟩ (.bool s)).setCell ⟨g5, 1, none⟩ (.int .i64 x)) := by
 have hl := hT.row.lt g rfl;have hl5 := hown.lt g5 rfl;have hS := ((hT.sp.setQ 5 (.slice (some ⟨g5, 0, none⟩) q.ups.n cp5)).setFar (show B + 1 < g5 by omega) 0 (.bool s)).setFar (show B + 1 < g5 by omega) 1 (.int .i64 x);have K := proto_keep (av' := fun b => av b ∨ (B + 1 < b ∧ b < y.heap.size)) hpx hav hS.bel fun b h => .inl h;have hz : (((y.setCell ⟨B + 1, 5, none⟩ (.slice (some ⟨g5, 0, none⟩) q.ups.n cp5)).setCell ⟨g5, 0, none⟩ (.bool s)).setCell ⟨g5, 1, none⟩ (.int .i64 x)).heap.size = y.heap.size := by rw [World.size_setCell, World.size_setCell, World.size_setCell]
 have h1 := qa7 hown (y' := y.setCell ⟨B + 1, 5, none⟩ (.slice (some ⟨g5, 0, none⟩) q.ups.n cp5)) fun k hk => Below.heap_setCell _ _ _ _ (by simp [Value.ownBlock] at hk; show k ≠ B + 1; omega);have h2 := (((h1.stored 0 (.bool s)).1).stored 1 (.int .i64 x)).1
 have hrw := qa7 hT.row (y' := (((y.setCell ⟨B + 1, 5, none⟩ (.slice (some ⟨g5, 0, none⟩) q.ups.n cp5)).setCell ⟨g5, 0, none⟩ (.bool s)).setCell ⟨g5, 1, none⟩ (.int .i64 x))) fun k hk => by
  simp [Value.ownBlock] at hk;subst hk;rw [Below.heap_setCell _ _ _ _ (by show g ≠ g5; exact fun e => hne e.symm), Below.heap_setCell _ _ _ _ (by show g ≠ g5; exact fun e => hne e.symm), Below.heap_setCell _ _ _ _ (by show g ≠ B + 1; omega)]
 refine ⟨a3, a4, .slice (some ⟨g5, 0, none⟩) q.ups.n cp5, a8, a9, hS, ?_⟩;rw [hz];refine ⟨words_is hrw (fun b hb => by simp [Value.ownBlock] at hb; subst hb; exact .inr ⟨by omega, hl.2⟩) _ (cL_len _ _) (fun i hi => cL_get _ _ i hi), K.consts, qg3 h2 (fun i hi j hj => ?_) (fun b hb => by simp [Value.ownBlock] at hb; subst hb; exact .inr ⟨by omega, hl5.2⟩), K.lines, K.upNames, K.name⟩;have hlen : (flatC (uC q.ups.f) 2 q.ups.n).length = q.ups.n * 2 := by simp [flatC]
 by_cases h0 : i = 0
 ·subst h0
  match j, hj with
  | 0, _ => rw [List.getElem?_set_ne (by omega), List.getElem?_set_self (by omega)]; rfl
  | 1, _ => rw [List.getElem?_set_self (by rw [List.length_set]; omega)]; rfl
 ·rw [List.getElem?_set_ne (by omega), List.getElem?_set_ne (by omega), flat2_get (show i < q.ups.n from hi) hj];show some (uC q.ups.f i j) = some (uC (fun k => if k = 0 then _ else q.ups.f k) i j);simp only [uC, if_neg h0]
end
end Go.Proofs.YtplijnfaiofckaaGreatDoor

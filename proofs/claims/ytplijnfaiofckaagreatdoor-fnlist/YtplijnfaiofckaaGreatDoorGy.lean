import Derived.Test.YtplijnfaiofckaaGreatDoorGx
namespace Go.Proofs.YtplijnfaiofckaaGreatDoor
open Go.RowKit Go.Lib Go.Shelf
set_option linter.unusedVariables false
set_option linter.unusedSimpArgs false
set_option maxRecDepth 100000
set_option maxHeartbeats 9000000
structure St (w0 : World) (v0 : Value) (y : World) (v : Value) (X : ByteArray) : Prop where
 buf : Buf y 5 v X
 fr : Fr (fun _ => False) w0 v0 y v
theorem St.later {w0 y y' : World} {v0 v : Value} {X : ByteArray} (h : St w0 v0 y v X) (hb : Below y.heap.size y y') : St w0 v0 y' v X :=
 ⟨h.buf.keep fun k hk => hb.block k (h.buf.lt k hk), h.fr.trans (Fr.of_below _ _ hb)⟩
theorem St.next {w0 y y' : World} {v0 v v' : Value} {X X' : ByteArray} (h : St w0 v0 y v X) (hb : Buf y' 5 v' X') (hf : Fr (fun _ => False) y v y' v') : St w0 v0 y' v' X' := ⟨hb, h.fr.trans hf⟩
theorem st0 {w0 y : World} {v0 v : Value} {X : ByteArray} (f : Nat → ByteArray) (h : St w0 v0 y v X) : St w0 v0 y v (X ++ catL f 0) := by
 rw [catL_zero, ByteArray.append_empty];exact h
theorem stS {w0 y : World} {v0 v : Value} {X : ByteArray} (f : Nat → ByteArray) (i : Nat) (h : St w0 v0 y v (X ++ catL f i ++ f i)) : St w0 v0 y v (X ++ catL f (i + 1)) := by
 rw [catL_succ, ← ByteArray.append_assoc];exact h
theorem put_st {w0 y : World} {v0 v : Value} {X : ByteArray} (h : St w0 v0 y v X) (s : ByteArray) (hs : X.size + s.size ≤ 70368744177664) : Calls Tryz.prog 58 #[v, .string s] y fun e w' => ∃ v', e = .returned v' ∧ St w0 v0 w' v' (X ++ s) :=
 (l3Put_in v X s y h.buf hs).mono fun e w' ⟨v', h1, h2, h3⟩ => ⟨v', h1, h.next h2 h3⟩
theorem listS {s : Sl PD} (hwf : Wf s) (hbd : Bnd s) {i : Nat} (hi : i ≤ s.n) : (catL (fun i => protoT (s.f i)) i).size ≤ 400000000 := by
 have := hwf.high;have h1 := catL_size (f := fun i => protoT (s.f i)) (b := 2000000) i fun j hj => protoT_size (lp_of hwf hbd j (by omega));omega
theorem nl_str {J : ByteArray} (h : J.size ≤ 100000) : J.size + (⟨#[10]⟩ : ByteArray).size ≤ 9223372036854775807 := by
 have : (⟨#[10]⟩ : ByteArray).size = 1 := rfl;omega
theorem l6List_in (s : Sl PD) (v : Value) (w : World) (hv : qa0 (· < w.heap.size) w v s) (hbd : Bnd s) (hwf : Wf s) :
  Calls Tryz.prog 18 #[.agg #[v]] w fun e w' => ∃ v', e = .returned v' ∧ Buf w' 5 v' (listT s) ∧ Below w.heap.size w w' := by
 obtain ⟨a3, a4, a5, a8, a9, ⟨ao, cap, rfl, hn, hc⟩, ht⟩ := hv;replace hc : Hid (0 < s.n → ∃ b o, ao = some ⟨b, o, none⟩ ∧ b < w.heap.size ∧ ∀ i, i < s.n → ∀ j, j < 10 → w.cell? ⟨b, o + i * 10 + j, none⟩ = some (pC s.f a3 a4 a5 a8 a9 i j)) := hc;replace ht : Hid (∀ i, i < s.n → IsProto (· < w.heap.size) w (a3 i) (a4 i) (a5 i) (a8 i) (a9 i) (s.f i)) := ht;have hlow := hwf.low;have hhigh := hwf.high;replace hbd : Hid (Bnd s) := hbd;replace hwf : Hid (Wf s) := hwf;go_enter Tryz.func18, Tryz.ntmps18;go_upto_region 1 with fail;have R0 := RowL.new w [.slice ao s.n cap] 25;have bw : Below w.heap.size w (w.alloc (.cells #[.slice ao s.n cap] 25)) := by go_grown
 have hw1 : (w.alloc (.cells #[.slice ao s.n cap] 25)).heap.size = w.heap.size + 1 := by simp
 generalize w.alloc (.cells #[.slice ao s.n cap] 25) = w1 at R0 bw hw1 ⊢;replace hw1 : w.heap.size < w1.heap.size := by omega
 go_upto_region 2 with fail;have sA : Hid (Buf (w1.alloc (.cells #[] 5)) 5 (.slice (some ⟨w1.heap.size, 0, none⟩) 0 0) ByteArray.empty) := buf_made w1 _;have bA : Below w1.heap.size w1 (w1.alloc (.cells #[] 5)) := by go_grown
 have szA : (w1.alloc (.cells #[] 5)).heap.size = w1.heap.size + 1 := by simp
 generalize w1.alloc (.cells #[] 5) = wA at sA bA szA ⊢;obtain ⟨wS, hwS⟩ : ∃ n, w1.heap.size = n := ⟨_, rfl⟩;rw [hwS] at sA szA ⊢;have T0 : Hid (St wA (.slice (some ⟨wS, 0, none⟩) 0 0) wA (.slice (some ⟨wS, 0, none⟩) 0 0) ByteArray.empty) := ⟨sA.out, Fr.refl _ _ _⟩
 have hown : Hid (∀ y v' X, St wA (.slice (some ⟨wS, 0, none⟩) 0 0) y v' X → ∀ k, v'.ownBlock = some k → w1.heap.size ≤ k) := fun y v' X h k hk => by
  rcases h.fr.own with e | e
  ·rw [hk] at e;simp only [Value.ownBlock, Option.some.injEq] at e;omega
  ·have := e k hk;omega
 have hbel : Hid (∀ y v' X, St wA (.slice (some ⟨wS, 0, none⟩) 0 0) y v' X → Below w1.heap.size w1 y) := fun y v' X h =>
  bA.trans (h.fr.below (by omega) (fun _ h => h.elim) (fun k hk => by simp only [Value.ownBlock, Option.some.injEq] at hk; omega))
 clear sA bA szA;replace hwS := hidR hwS;replace R0 : Hid (RowL w1 w.heap.size 25 [.slice ao s.n cap]) := R0;go_wp2_with fail
 go_loopw [3, 4, 5, 6, 7, 8] (fun o i _ _ _ _ wr => ∃ i' : Nat, i = .int .i64 (i' : Int) ∧ i' ≤ s.n ∧ Hid (St wA (.slice (some ⟨wS, 0, none⟩) 0 0) wr o (catL (fun i => protoT (s.f i)) i')))
  (fun _ i _ _ _ _ _ => s.n - (RowKit.intOf i).toNat)
 case atStart => exact ⟨0, rfl, by omega, hidR T0.out⟩
 case round =>
  obtain ⟨i', rfl, hin, hT⟩ := hrel;obtain ⟨wz, hwz⟩ : ∃ x, x = wr := ⟨_, rfl⟩;subst hwz;have hby := hbel.out wz _ _ hT.out;have r0 := (R0.out.call hby).cell 0 rfl;have q4 := bw.trans (hby.mono bw.size);by_cases hlt : i' < s.n
  ·have hii : (i' : Int) < (s.n : Int) := by omega
   have hLP := hidR (lp_of hwf.out hbd.out i' hlt);have hsz := listS hwf.out hbd.out (i := i') (by omega);obtain ⟨b, o, rfl, hb, hcc⟩ := hc.out (by omega);obtain ⟨h3, h4, h5, h8, h9, hnm'⟩ := ht.out i' hlt;obtain ⟨o3, c3, e3, n3, -⟩ := id h3;obtain ⟨o4, c4, e4, n4, -⟩ := id h4.1;obtain ⟨o5, c5, e5, n5, -⟩ := id h5;obtain ⟨o8, c8, e8, n8, -⟩ := id h8;obtain ⟨o9, c9, e9, n9, -⟩ := id h9.1;rw [e3] at h3;rw [e4] at h4;rw [e5] at h5;replace h3 : Hid (IsArr (· < w.heap.size) w (.slice o3 (s.f i').code.n c3) 1 (s.f i').code.n (iC .u32 (s.f i').code.f)) := h3;replace h4 : Hid (IsArr (· < w.heap.size) w (.slice o4 (s.f i').consts.n c4) 3 (s.f i').consts.n (vC (s.f i').consts.f)) := h4.1;replace h5 : Hid (IsArr (· < w.heap.size) w (.slice o5 (s.f i').ups.n c5) 2 (s.f i').ups.n (uC (s.f i').ups.f)) := h5;have k0 := hcc i' hlt 0 (by omega);have k1 := hcc i' hlt 1 (by omega);have k2 := hcc i' hlt 2 (by omega);have k3 := hcc i' hlt 3 (by omega);have k4 := hcc i' hlt 4 (by omega);have k5 := hcc i' hlt 5 (by omega);have k6 := hcc i' hlt 6 (by omega);have k7 := hcc i' hlt 7 (by omega);have k8 := hcc i' hlt 8 (by omega);have k9 := hcc i' hlt 9 (by omega);rw [← q4.cell (p := ⟨b, _, none⟩) hb] at k0 k1 k2 k3 k4 k5 k6 k7 k8 k9;simp only [Nat.add_zero, pC, e3, e4, e5, e8, e9] at k0 k1 k2 k3 k4 k5 k6 k7 k8 k9;clear hcc e3 e4 e5 e8 e9 h8 h9 n8 n9 hnm';replace q4 := hidR q4;go_upto_region 6 with fail;clear k0 k1 k2 k3 k4 k5 k6 k7 k8 k9 r0;have RP := RowL.new wz [.int .i64 (s.f i').params, .bool (s.f i').vararg, .int .i64 (s.f i').regs, .slice o3 (s.f i').code.n c3, .slice o4 (s.f i').consts.n c4, .slice o5 (s.f i').ups.n c5, .int .i64 (s.f i').kids, .string (s.f i').name, .slice o8 (s.f i').lines.n c8, .slice o9 (s.f i').upNames.n c9] 63;have bp : Below wz.heap.size wz (wz.alloc (.cells #[.int .i64 (s.f i').params, .bool (s.f i').vararg, .int .i64 (s.f i').regs, .slice o3 (s.f i').code.n c3, .slice o4 (s.f i').consts.n c4, .slice o5 (s.f i').ups.n c5, .int .i64 (s.f i').kids, .string (s.f i').name, .slice o8 (s.f i').lines.n c8, .slice o9 (s.f i').upNames.n c9] 63)) := by go_grown
   have szp : (wz.alloc (.cells #[.int .i64 (s.f i').params, .bool (s.f i').vararg, .int .i64 (s.f i').regs, .slice o3 (s.f i').code.n c3, .slice o4 (s.f i').consts.n c4, .slice o5 (s.f i').ups.n c5, .int .i64 (s.f i').kids, .string (s.f i').name, .slice o8 (s.f i').lines.n c8, .slice o9 (s.f i').upNames.n c9] 63)).heap.size = wz.heap.size + 1 := by simp
   generalize wz.alloc (.cells #[.int .i64 (s.f i').params, .bool (s.f i').vararg, .int .i64 (s.f i').regs, .slice o3 (s.f i').code.n c3, .slice o4 (s.f i').consts.n c4, .slice o5 (s.f i').ups.n c5, .int .i64 (s.f i').kids, .string (s.f i').name, .slice o8 (s.f i').lines.n c8, .slice o9 (s.f i').upNames.n c9] 63) = wp at RP bp szp ⊢;obtain ⟨vz, hvz⟩ : ∃ x, x = u3 := ⟨_, rfl⟩;subst hvz;have hlt3 := hidR hT.out.buf.lt;have TP : Hid (St wp vz wp vz (catL (fun i => protoT (s.f i)) i')) := ⟨(hT.out.later bp).buf, Fr.refl _ _ _⟩;have hTot : Hid (∀ z u Y, St wp vz z u Y → St wA (.slice (some ⟨wS, 0, none⟩) 0 0) z u Y) := fun z u Y h => ⟨h.buf, (hT.out.later bp).fr.trans h.fr⟩;have hcell : Hid (∀ z u Y, St wp vz z u Y → RowL z wz.heap.size 63 [.int .i64 (s.f i').params, .bool (s.f i').vararg, .int .i64 (s.f i').regs, .slice o3 (s.f i').code.n c3, .slice o4 (s.f i').consts.n c4, .slice o5 (s.f i').ups.n c5, .int .i64 (s.f i').kids, .string (s.f i').name, .slice o8 (s.f i').lines.n c8, .slice o9 (s.f i').upNames.n c9]) := fun z u Y h => World.rowIs.of_block RP (h.fr.block _ (by omega) (fun h => h.elim) (fun e => by have := hlt3.out _ e; omega));have hbw : Hid (∀ z u Y, St wp vz z u Y → Below w.heap.size w z) := fun z u Y h => bw.trans ((hbel.out z u Y (hTot.out z u Y h)).mono bw.size);generalize wz.heap.size = Bp at hcell RP ⊢;have k0 := RP.cell 0 rfl;have k1 := RP.cell 1 rfl;have k2 := RP.cell 2 rfl;have k3 := RP.cell 3 rfl;have k4 := RP.cell 4 rfl;have k5 := RP.cell 5 rfl;have k6 := RP.cell 6 rfl;have k7 := RP.cell 7 rfl;have k8 := RP.cell 8 rfl;have k9 := RP.cell 9 rfl;have hpl := RP.lt;have hz9 := hLP.out.par;have hz8 := hLP.out.regs;have hz7 := hLP.out.kids;have hhd : Hid (∀ y, Calls Tryz.prog 59 #[.agg #[.int .i64 (s.f i').params, .bool (s.f i').vararg, .int .i64 (s.f i').regs, .slice o3 (s.f i').code.n c3, .slice o4 (s.f i').consts.n c4, .slice o5 (s.f i').ups.n c5, .int .i64 (s.f i').kids, .string (s.f i').name, .slice o8 (s.f i').lines.n c8, .slice o9 (s.f i').upNames.n c9]] y fun e w' => e = .returned (.string (headT (s.f i'))) ∧ Below y.heap.size y w') := fun y => l6Head_in (s.f i').params (s.f i').regs (s.f i').kids (s.f i').vararg (s.f i').name o3 o4 o5 o8 o9 (s.f i').code.n (s.f i').consts.n (s.f i').ups.n (s.f i').lines.n (s.f i').upNames.n c3 c4 c5 c8 c9 (by omega) (by omega) (by omega) y;have zJ : (headT (s.f i')).size ≤ 100000 := by have := qc8 hLP.out; rw [ByteArray.size_append] at this; omega
   have zH := qc8 hLP.out;have hput := hidR (fun (z : World) (hb : Below wp.heap.size wp z) => put_st (TP.out.later hb) (headT (s.f i') ++ ⟨#[10]⟩) (by omega));obtain ⟨J, hJ⟩ : ∃ J, headT (s.f i') = J := ⟨_, rfl⟩;rw [hJ] at hhd zJ hput;have zN := nl_str zJ;clear RP bp szp hT hlt3 TP hz9 hz8 hz7 hby zH;replace hJ := hidR hJ;go_wp2_with fail;refine Calls.mono (hhd.out _) ?_;rintro e y5 ⟨rfl, b5⟩;replace hput := hidR (hput.out y5 b5);clear hhd b5 k0 k1 k2 k3 k4 k5 k6 k7 k8 k9 hpl;go_wp2_with fail;refine Calls.mono hput.out ?_;rintro e y6 ⟨v6, rfl, T6⟩;rw [← hJ.out] at T6;replace T6 := hidR T6;clear hput hJ zJ zN;go_upto_region 7 with fail;go_cut [6] from 10 to 74 (fun sx wr => y6 = wr ∧ sx = .int .i64 0)
   case first =>
    go_wp2_with fail;go_meet;case rel => exact ⟨rfl, rfl⟩
   obtain ⟨hw9, hs9⟩ := hcut;subst hw9;subst hs9;first | go_upon | go_back | go_step
   go_cut [3, 6] from 10 to 74 (fun o _ wr => Hid (St wp vz wr o (catL (fun i => protoT (s.f i)) i' ++ (headT (s.f i') ++ ⟨#[10]⟩) ++ catL (fun i => constT ((s.f i').consts.f i) ++ ⟨#[10]⟩) (s.f i').consts.n)))
   case first =>
    go_wp2_with fail;go_loopw [3, 6] (fun o i wr => ∃ j' : Nat, i = .int .i64 (j' : Int) ∧ j' ≤ (s.f i').consts.n ∧ Hid (St wp vz wr o (catL (fun i => protoT (s.f i)) i' ++ (headT (s.f i') ++ ⟨#[10]⟩) ++ catL (fun i => constT ((s.f i').consts.f i) ++ ⟨#[10]⟩) j'))) (fun _ i _ => (s.f i').consts.n - (RowKit.intOf i).toNat);case atStart => exact ⟨0, rfl, by omega, hidR (st0 ((fun i => constT ((s.f i').consts.f i) ++ ⟨#[10]⟩)) T6.out)⟩
    case round =>
     obtain ⟨j', rfl, hin9, hQ⟩ := hrel;obtain ⟨wq, hwq⟩ : ∃ x, x = wr := ⟨_, rfl⟩;subst hwq;have ec := (hcell.out wq _ _ hQ.out).cell 4 rfl;have hpl := (hcell.out wq _ _ hQ.out).lt;by_cases hlj : j' < (s.f i').consts.n
     ·have hjI : (j' : Int) < ((s.f i').consts.n : Int) := by omega
      have hsm : (j' : Int) + 1 ≤ 9223372036854775807 := by omega
      obtain ⟨bb, oo, rfl, hbb, hcc⟩ := arr_at h4.out (by omega);have hd := hcc wq (hbw.out wq _ _ hQ.out) j' hlj;have d0 : wq.cell? ⟨bb, oo + j' * 3, none⟩ = some (.int .i64 ((s.f i').consts.f j').kind) := hd 0 (by omega);have d1 : wq.cell? ⟨bb, oo + j' * 3 + 1, none⟩ = some (.int .i64 ((s.f i').consts.f j').num) := hd 1 (by omega);have d2 : wq.cell? ⟨bb, oo + j' * 3 + 2, none⟩ = some (.string ((s.f i').consts.f j').text) := hd 2 (by omega);have hcs := hidR (fun (y : World) => l6Const_in ((s.f i').consts.f j') (hLP.out.plain j' hlj) (hLP.out.nums j' hlj).1 (hLP.out.nums j' hlj).2 y);have zJ : (constT ((s.f i').consts.f j')).size ≤ 100000 := by have := constT_size (hLP.out.plain j' hlj) (hLP.out.nums j' hlj).1 (hLP.out.nums j' hlj).2; rw [ByteArray.size_append] at this; omega
      have hput := hidR (fun (z : World) (hb : Below wq.heap.size wq z) => put_st (hQ.out.later hb) (constT ((s.f i').consts.f j') ++ ⟨#[10]⟩) (by
       have k1 := qc8 hLP.out;have k9 := constT_size (hLP.out.plain j' hlj) (hLP.out.nums j' hlj).1 (hLP.out.nums j' hlj).2;have k2 := qg7 hLP.out (k := j') (by omega);simp only [ByteArray.size_append] at *;omega))
      obtain ⟨J, hJ⟩ : ∃ J, constT ((s.f i').consts.f j') = J := ⟨_, rfl⟩;rw [hJ] at hcs zJ hput;have zN := nl_str zJ;replace hJ := hidR hJ;clear hQ hd hcc;go_wp2_with fail;refine Calls.mono (hcs.out _) ?_;rintro e y8 ⟨rfl, b8⟩;replace hput := hidR (hput.out y8 b8);clear hcs b8 ec hpl d0 d1 d2;go_wp2_with fail;refine Calls.mono hput.out ?_;rintro e y9 ⟨v9, rfl, T9⟩;rw [← hJ.out] at T9;have T9' := hidR (stS ((fun i => constT ((s.f i').consts.f i) ++ ⟨#[10]⟩)) j' T9);clear T9 hput hJ zJ zN;go_wp2_with fail;go_roundw;case rel => exact ⟨j' + 1, by go_num, by omega, T9'.out⟩
      case measure => simp [RowKit.intOf]; omega
     ·obtain rfl : j' = (s.f i').consts.n := by omega
      go_wp2_with fail;go_meet;case rel => exact hQ.out
   clear T6;obtain ⟨yc, hyc⟩ : ∃ x, x = wc := ⟨_, rfl⟩;subst hyc;have Tc := hidR hcut.out;clear hcut;go_upto_region 11 with fail;go_cut [7] from 10 to 74 (fun sx wr => yc = wr ∧ sx = .int .i64 0)
   case first =>
    go_wp2_with fail;go_meet;case rel => exact ⟨rfl, rfl⟩
   obtain ⟨hw9, hs9⟩ := hcut;subst hw9;subst hs9;first | go_upon | go_back | go_step
   go_cut [3, 7] from 10 to 74 (fun o _ wr => Hid (St wp vz wr o (catL (fun i => protoT (s.f i)) i' ++ (headT (s.f i') ++ ⟨#[10]⟩) ++ catL (fun i => constT ((s.f i').consts.f i) ++ ⟨#[10]⟩) (s.f i').consts.n ++ catL (fun i => upT ((s.f i').ups.f i) ++ ⟨#[10]⟩) (s.f i').ups.n)))
   case first =>
    go_wp2_with fail;go_loopw [3, 7] (fun o i wr => ∃ j' : Nat, i = .int .i64 (j' : Int) ∧ j' ≤ (s.f i').ups.n ∧ Hid (St wp vz wr o (catL (fun i => protoT (s.f i)) i' ++ (headT (s.f i') ++ ⟨#[10]⟩) ++ catL (fun i => constT ((s.f i').consts.f i) ++ ⟨#[10]⟩) (s.f i').consts.n ++ catL (fun i => upT ((s.f i').ups.f i) ++ ⟨#[10]⟩) j'))) (fun _ i _ => (s.f i').ups.n - (RowKit.intOf i).toNat);case atStart => exact ⟨0, rfl, by omega, hidR (st0 ((fun i => upT ((s.f i').ups.f i) ++ ⟨#[10]⟩)) Tc.out)⟩
    case round =>
     obtain ⟨j', rfl, hin9, hQ⟩ := hrel;obtain ⟨wq, hwq⟩ : ∃ x, x = wr := ⟨_, rfl⟩;subst hwq;have ec := (hcell.out wq _ _ hQ.out).cell 5 rfl;have hpl := (hcell.out wq _ _ hQ.out).lt;by_cases hlj : j' < (s.f i').ups.n
     ·have hjI : (j' : Int) < ((s.f i').ups.n : Int) := by omega
      have hsm : (j' : Int) + 1 ≤ 9223372036854775807 := by omega
      obtain ⟨bb, oo, rfl, hbb, hcc⟩ := arr_at h5.out (by omega);have hd := hcc wq (hbw.out wq _ _ hQ.out) j' hlj;have d0 : wq.cell? ⟨bb, oo + j' * 2, none⟩ = some (.bool ((s.f i').ups.f j').stack) := hd 0 (by omega);have d1 : wq.cell? ⟨bb, oo + j' * 2 + 1, none⟩ = some (.int .i64 ((s.f i').ups.f j').index) := hd 1 (by omega);have hcs := hidR (fun (y : World) => l6Up_in ((s.f i').ups.f j') (by have := hLP.out.upx j' hlj; unfold NumOk at this; omega) (by have := hLP.out.upx j' hlj; unfold NumOk at this; omega) y);have zJ : (upT ((s.f i').ups.f j')).size ≤ 100000 := by have := upT_size (hLP.out.upx j' hlj); rw [ByteArray.size_append] at this; omega
      have hput := hidR (fun (z : World) (hb : Below wq.heap.size wq z) => put_st (hQ.out.later hb) (upT ((s.f i').ups.f j') ++ ⟨#[10]⟩) (by
       have k1 := qc8 hLP.out;have k9 := upT_size (hLP.out.upx j' hlj);have k2 := qg7 hLP.out (Nat.le_refl _);have k3 := catU_size hLP.out (k := j') (by omega);simp only [ByteArray.size_append] at *;omega))
      obtain ⟨J, hJ⟩ : ∃ J, upT ((s.f i').ups.f j') = J := ⟨_, rfl⟩;rw [hJ] at hcs zJ hput;have zN := nl_str zJ;replace hJ := hidR hJ;clear hQ hd hcc;go_wp2_with fail;refine Calls.mono (hcs.out _) ?_;rintro e y8 ⟨rfl, b8⟩;replace hput := hidR (hput.out y8 b8);clear hcs b8 ec hpl d0 d1;go_wp2_with fail;refine Calls.mono hput.out ?_;rintro e y9 ⟨v9, rfl, T9⟩;rw [← hJ.out] at T9;have T9' := hidR (stS ((fun i => upT ((s.f i').ups.f i) ++ ⟨#[10]⟩)) j' T9);clear T9 hput hJ zJ zN;go_wp2_with fail;go_roundw;case rel => exact ⟨j' + 1, by go_num, by omega, T9'.out⟩
      case measure => simp [RowKit.intOf]; omega
     ·obtain rfl : j' = (s.f i').ups.n := by omega
      go_wp2_with fail;go_meet;case rel => exact hQ.out
   clear Tc;obtain ⟨yu, hyu⟩ : ∃ x, x = wc := ⟨_, rfl⟩;subst hyu;have Tu := hidR hcut.out;clear hcut;go_upto_region 15 with fail;go_cut [8] from 10 to 74 (fun sx wr => yu = wr ∧ sx = .int .i64 0)
   case first =>
    go_wp2_with fail;go_meet;case rel => exact ⟨rfl, rfl⟩
   obtain ⟨hw9, hs9⟩ := hcut;subst hw9;subst hs9;first | go_upon | go_back | go_step
   go_wp2_with fail;go_loopw [3, 8] (fun o i wr => ∃ j' : Nat, i = .int .i64 (j' : Int) ∧ j' ≤ (s.f i').code.n ∧ Hid (St wp vz wr o (catL (fun i => protoT (s.f i)) i' ++ (headT (s.f i') ++ ⟨#[10]⟩) ++ catL (fun i => constT ((s.f i').consts.f i) ++ ⟨#[10]⟩) (s.f i').consts.n ++ catL (fun i => upT ((s.f i').ups.f i) ++ ⟨#[10]⟩) (s.f i').ups.n ++ catL (fun i => wordT ((s.f i').code.f i) ++ ⟨#[10]⟩) j'))) (fun _ i _ => (s.f i').code.n - (RowKit.intOf i).toNat);case atStart => exact ⟨0, rfl, by omega, hidR (st0 ((fun i => wordT ((s.f i').code.f i) ++ ⟨#[10]⟩)) Tu.out)⟩
   case round =>
    obtain ⟨j', rfl, hin9, hQ⟩ := hrel;obtain ⟨wq, hwq⟩ : ∃ x, x = wr := ⟨_, rfl⟩;subst hwq;have ec := (hcell.out wq _ _ hQ.out).cell 3 rfl;have hpl := (hcell.out wq _ _ hQ.out).lt;by_cases hlj : j' < (s.f i').code.n
    ·have hjI : (j' : Int) < ((s.f i').code.n : Int) := by omega
     have hsm : (j' : Int) + 1 ≤ 9223372036854775807 := by omega
     obtain ⟨bb, oo, rfl, hbb, hcc⟩ := arr_at h3.out (by omega);have hd := hcc wq (hbw.out wq _ _ hQ.out) j' hlj;have d0 : wq.cell? ⟨bb, oo + j', none⟩ = some (.int .u32 ((s.f i').code.f j')) := by have := hd 0 (by omega); rw [Nat.mul_one] at this; exact this
     have hcs := hidR (fun (y : World) => l6Word_in ((s.f i').code.f j') (hLP.out.words j' hlj).1 (hLP.out.words j' hlj).2 y);have zJ : (wordT ((s.f i').code.f j')).size ≤ 100000 := by have := wordT_size (hLP.out.words j' hlj).1 (hLP.out.words j' hlj).2; rw [ByteArray.size_append] at this; omega
     have hput := hidR (fun (z : World) (hb : Below wq.heap.size wq z) => put_st (hQ.out.later hb) (wordT ((s.f i').code.f j') ++ ⟨#[10]⟩) (by
      have k1 := qc8 hLP.out;have k9 := wordT_size (hLP.out.words j' hlj).1 (hLP.out.words j' hlj).2;have k2 := qg7 hLP.out (Nat.le_refl _);have k3 := catU_size hLP.out (Nat.le_refl _);have k4 := catW_size hLP.out (k := j') (by omega);simp only [ByteArray.size_append] at *;omega))
     obtain ⟨J, hJ⟩ : ∃ J, wordT ((s.f i').code.f j') = J := ⟨_, rfl⟩;rw [hJ] at hcs zJ hput;have zN := nl_str zJ;replace hJ := hidR hJ;clear hQ hd hcc;go_wp2_with fail;refine Calls.mono (hcs.out _) ?_;rintro e y8 ⟨rfl, b8⟩;replace hput := hidR (hput.out y8 b8);clear hcs b8 ec hpl d0;go_wp2_with fail;refine Calls.mono hput.out ?_;rintro e y9 ⟨v9, rfl, T9⟩;rw [← hJ.out] at T9;have T9' := hidR (stS ((fun i => wordT ((s.f i').code.f i) ++ ⟨#[10]⟩)) j' T9);clear T9 hput hJ zJ zN;go_wp2_with fail;go_roundw;case rel => exact ⟨j' + 1, by go_num, by omega, T9'.out⟩
     case measure => simp [RowKit.intOf]; omega
    ·obtain rfl : j' = (s.f i').code.n := by omega
     have h9 := hTot.out _ _ _ hQ.out
     have hE : catL (fun i => protoT (s.f i)) i' ++ (headT (s.f i') ++ ⟨#[10]⟩) ++ catL (fun i => constT ((s.f i').consts.f i) ++ ⟨#[10]⟩) (s.f i').consts.n ++ catL (fun i => upT ((s.f i').ups.f i) ++ ⟨#[10]⟩) (s.f i').ups.n ++ catL (fun i => wordT ((s.f i').code.f i) ++ ⟨#[10]⟩) (s.f i').code.n = catL (fun i => protoT (s.f i)) (i' + 1) := by
      rw [catL_succ];unfold protoT;simp only [ByteArray.append_assoc]
     rw [hE] at h9;replace h9 := hidR h9;clear hQ;go_wp2_with fail;go_roundw;case rel => exact ⟨i' + 1, by go_num, by omega, h9.out⟩
     case measure => simp [RowKit.intOf]; omega

  ·obtain rfl : i' = s.n := by omega
   have hfin := hidR (⟨hT.out.buf, q4⟩ : Buf wz 5 u3 (catL (fun i => protoT (s.f i)) s.n) ∧ Below w.heap.size w wz);clear hT hby;go_wp2_with fail;go_ret;exact ⟨_, rfl, hfin.out.1, hfin.out.2⟩
end Go.Proofs.YtplijnfaiofckaaGreatDoor
namespace Go.Proofs.YtplijnfaiofckaaGreatDoor
open Go.RowKit
set_option linter.unusedVariables false
set_option linter.unusedSimpArgs false
set_option maxRecDepth 100000
set_option maxHeartbeats 9000000
theorem specList_in (s : Sl PD) (v : Value) (w : World) (hv : qa0 (· < w.heap.size) w v s) (hbd : Bnd s) :
  Calls Tryz.prog 7 #[.agg #[v]] w fun e w' => ((Wf s ∧ e = .returned (.string (listT s))) ∨ (¬ Wf s ∧ e = .returned (.string ⟨#[]⟩))) ∧ Below w.heap.size w w' := by
 have hv' : Hid (qa0 (· < w.heap.size) w v s) := hv;obtain ⟨-, -, -, -, -, ⟨ao, cap, rfl, -, -⟩, -⟩ := hv;replace hbd := hidR hbd;go_enter Tryz.func7, Tryz.ntmps7;go_wp2_with fail;have R0 := RowL.new w [.slice ao s.n cap] 25;have bw : Below w.heap.size w (w.alloc (.cells #[.slice ao s.n cap] 25)) := by go_grown
 generalize w.alloc (.cells #[.slice ao s.n cap] 25) = w0 at R0 bw ⊢;refine (specWF_in s _ _ (hv'.out.later bw)).mono ?_;rintro e w1 ⟨⟨r, rfl, hr⟩, b1⟩;replace R0 := R0.call b1;replace bw := bw.trans (b1.mono bw.size);clear b1
 cases r with
 | false =>
  have hno : Hid (¬ Wf s) := fun h => by simpa using hr.2 h
  clear hr hv' R0;go_wp2_with fail;exact bodyPost_ret (v := .string ⟨#[]⟩) (by simp [results, Tryz.results7, go_sem]) rfl ⟨.inr ⟨hno.out, rfl⟩, bw⟩
 | true =>
  have hwf : Hid (Wf s) := hr.1 rfl;clear hr;have r0 := R0.cell 0 rfl;have hcall := hidR (l6List_in s _ w1 (hv'.out.later bw) hbd.out hwf.out);clear hv';go_wp2_with fail;refine Calls.mono hcall.out ?_;rintro e w2 ⟨v2, rfl, hB, b2⟩;clear r0 hcall;have hcv : (convert 22 9 v2).run Tryz.prog w2 = .ok (.string (listT s)) w2 := conv_buf _ _ _ Tryz.underlying22 Tryz.underlying5 Tryz.underlying9 hB;have hbel := bw.trans (b2.mono bw.size);clear hB b2 bw R0;go_wp2_with fail;exact bodyPost_ret (v := .string (listT s)) (by simp [results, Tryz.results7, go_sem]) rfl ⟨.inl ⟨hwf.out, rfl⟩, hbel⟩
end Go.Proofs.YtplijnfaiofckaaGreatDoor

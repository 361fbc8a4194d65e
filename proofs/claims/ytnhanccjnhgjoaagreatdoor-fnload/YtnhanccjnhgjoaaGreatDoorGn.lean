import Derived.Test.YtnhanccjnhgjoaaGreatDoorSpD
import Derived.Test.YtnhanccjnhgjoaaGreatDoorGk
import Derived.Test.YtnhanccjnhgjoaaGreatDoorGa
namespace Go.Proofs.YtnhanccjnhgjoaaGreatDoor
open Go.RowKit Go.Lib Go.Shelf
set_option linter.unusedVariables false
set_option linter.unusedSimpArgs false
set_option maxRecDepth 100000
set_option maxHeartbeats 9000000
theorem pw_of {s : Sl PD} (hwf : Wf s) (hbd : Bnd s) (i : Nat) (hi : i < s.n) : PW (s.f i) := by
 have ok := hwf.each i hi;refine ⟨fun j hj => bounds_u32 (hbd.code i hi j hj), fun j hj => ?_, ok.name, ok.allUpNames⟩;obtain ⟨h1, h2⟩ := bounds_i64 (hbd.nums i hi j hj);have := ok.allConsts j hj;unfold Plain at this;exact ⟨by omega, h1, h2⟩
theorem cat_sz {s : Sl PD} (hwf : Wf s) {i : Nat} (hi : i < s.n) : headB.size + (cat (fun i => protoB (s.f i)) i).size + (protoB (s.f i)).size ≤ 70368744177664 := by
 have h1 := chunkB_size s hwf;have h2 := cat_lt (fun i => protoB (s.f i)) hi;unfold chunkB at h1;rw [ByteArray.size_append] at h1;omega
theorem specDump_in (s : Sl PD) (v : Value) (w : World) (hv : IsProtos (· < w.heap.size) w v s) (hbd : Bnd s) :
  Calls Tryz.prog 12 #[.agg #[v]] w fun e w' => ((Wf s ∧ e = .returned (.tuple #[.string (chunkB s), .bool true])) ∨ (¬ Wf s ∧ e = .returned (.tuple #[.string ⟨#[]⟩, .bool false]))) ∧ Below w.heap.size w w' := by
 have hv' : Hid (IsProtos (· < w.heap.size) w v s) := hv;obtain ⟨a3, a4, a5, a8, a9, ⟨ao, cap, rfl, hn, hc⟩, ht⟩ := hv;replace hc : Hid (0 < s.n → ∃ b o, ao = some ⟨b, o, none⟩ ∧ b < w.heap.size ∧ ∀ i, i < s.n → ∀ j, j < 10 → w.cell? ⟨b, o + i * 10 + j, none⟩ = some (pC s.f a3 a4 a5 a8 a9 i j)) := hc;replace ht : Hid (∀ i, i < s.n → IsProto (· < w.heap.size) w (a3 i) (a4 i) (a5 i) (a8 i) (a9 i) (s.f i)) := ht;replace hbd : Hid (Bnd s) := hbd;go_enter Tryz.func12, Tryz.ntmps12;go_wp2_with fail;have R0 := RowL.new w [.slice ao s.n cap] 26;have bw : Below w.heap.size w (w.alloc (.cells #[.slice ao s.n cap] 26)) := by go_grown
 generalize w.alloc (.cells #[.slice ao s.n cap] 26) = w0 at R0 bw ⊢;refine (specWF_in s _ _ (hv'.out.later bw)).mono ?_;rintro e w1 ⟨⟨r, rfl, hr⟩, b1⟩;replace R0 := R0.call b1;replace bw := bw.trans (b1.mono bw.size);clear b1
 cases r with
 | false =>
  have hno : Hid (¬ Wf s) := fun h => by simpa using hr.2 h
  clear hr hv' R0;go_wp2_with fail;exact bodyPost_ret (v := .tuple #[.string ⟨#[]⟩, .bool false]) (by simp [results, Tryz.results12, go_sem]) rfl ⟨.inr ⟨hno.out, rfl⟩, bw⟩
 | true =>
  have hwf : Hid (Wf s) := hr.1 rfl;clear hr hv';have hlow := hwf.out.low;have hhigh := hwf.out.high;go_wp2_with fail;have sA : Hid (Buf (w1.alloc (.cells #[] 5)) 5 (.slice (some ⟨w1.heap.size, 0, none⟩) 0 0) ByteArray.empty) := buf_made w1 _;have bA : Below w1.heap.size w1 (w1.alloc (.cells #[] 5)) := by go_grown
  have szA : (w1.alloc (.cells #[] 5)).heap.size = w1.heap.size + 1 := by simp
  generalize w1.alloc (.cells #[] 5) = wA at sA bA szA ⊢;have hpl := l3Put_in _ ByteArray.empty headB wA sA.out (by unfold headB; rw [strOfNums_size]; simp);rw [ByteArray.empty_append] at hpl;refine hpl.mono ?_;rintro e y ⟨v1, rfl, hB1, hF1⟩;have T0 : Hid (St (fun _ => False) wA (.slice (some ⟨w1.heap.size, 0, none⟩) 0 0) y v1 headB) := ⟨hB1, hF1⟩
  have hown : Hid (∀ y v' X, St (fun _ => False) wA (.slice (some ⟨w1.heap.size, 0, none⟩) 0 0) y v' X → ∀ k, v'.ownBlock = some k → w1.heap.size ≤ k) := fun y v' X h k hk => by
   rcases h.fr.own with e | e
   ·rw [hk] at e;simp only [Value.ownBlock, Option.some.injEq] at e;omega
   ·have := e k hk;omega
  have hbel : Hid (∀ y v' X, St (fun _ => False) wA (.slice (some ⟨w1.heap.size, 0, none⟩) 0 0) y v' X → Below w1.heap.size w1 y) := fun y v' X h =>
   bA.trans (h.fr.below (by omega) (fun _ h => h.elim) (fun k hk => by simp only [Value.ownBlock, Option.some.injEq] at hk; omega))
  clear hB1 hF1 hpl sA bA szA;replace R0 : Hid (RowL w1 w.heap.size 26 [.slice ao s.n cap]) := R0;go_wp2_with fail
  go_loopw [4, 5] (fun o i wr => ∃ i' : Nat, i = .int .i64 (i' : Int) ∧ i' ≤ s.n ∧ Hid (St (fun _ => False) wA (.slice (some ⟨w1.heap.size, 0, none⟩) 0 0) wr o (headB ++ cat (fun i => protoB (s.f i)) i')))
   (fun _ i _ => s.n - (intOf i).toNat)
  case atStart => exact ⟨0, rfl, by omega, (by show St _ _ _ _ _ (headB ++ ByteArray.empty); rw [ByteArray.append_empty]; exact T0.out)⟩
  case round =>
   obtain ⟨i', rfl, hin, hT⟩ := hrel;obtain ⟨wz, hwz⟩ : ∃ x, x = wr := ⟨_, rfl⟩;subst hwz;have hby := hbel.out wz _ _ hT.out;have r0 := (R0.out.call hby).cell 0 rfl;have q4 := bw.trans (hby.mono bw.size);by_cases hlt : i' < s.n
   ·have hii : (i' : Int) < (s.n : Int) := by omega
    obtain ⟨b, o, rfl, hb, hcc⟩ := hc.out (by omega);have c0 := hcc i' hlt 0 (by omega);have c1 := hcc i' hlt 1 (by omega);have c2 := hcc i' hlt 2 (by omega);have c3 := hcc i' hlt 3 (by omega);have c4 := hcc i' hlt 4 (by omega);have c5 := hcc i' hlt 5 (by omega);have c6 := hcc i' hlt 6 (by omega);have c7 := hcc i' hlt 7 (by omega);have c8 := hcc i' hlt 8 (by omega);have c9 := hcc i' hlt 9 (by omega);rw [← q4.cell (p := ⟨b, _, none⟩) hb] at c0 c1 c2 c3 c4 c5 c6 c7 c8 c9;simp only [Nat.add_zero, pC] at c0 c1 c2 c3 c4 c5 c6 c7 c8 c9;have hpr := l3Proto_in w.heap.size (s.f i') _ (a3 i') (a4 i') (a5 i') (a8 i') (a9 i') _ wz ((ht.out i' hlt).below q4) (pw_of hwf.out hbd.out i' hlt).s hT.out.buf q4.size (fun k hk => Nat.le_trans bw.size (hown.out _ _ _ hT.out k hk)) (by rw [ByteArray.size_append]; exact cat_sz hwf.out hlt);unfold pAgg at hpr;replace hpr : Hid _ := hpr;clear hcc;go_wp2_with fail;refine (Calls.mono hpr.out ?_);rintro e y2 ⟨v2, rfl, s2⟩
    have hT1 : Hid (St (fun _ => False) wA (.slice (some ⟨w1.heap.size, 0, none⟩) 0 0) y2 v2 (headB ++ cat (fun i => protoB (s.f i)) (i' + 1))) := by
     show St _ _ _ _ _ (headB ++ (cat (fun i => protoB (s.f i)) i' ++ protoB (s.f i')));rw [← ByteArray.append_assoc];exact hT.out.next s2.buf s2.fr
    clear c0 c1 c2 c3 c4 c5 c6 c7 c8 c9 r0 hT s2 hpr hby q4;go_wp2_with fail;go_roundw;case rel => exact ⟨i' + 1, by go_num, by omega, hT1.out⟩
    case measure => simp [intOf]; omega
   ·obtain rfl : i' = s.n := by omega
    have hcv : (convert 22 9 u4).run Tryz.prog wz = .ok (.string (chunkB s)) wz := conv_buf _ _ _ Tryz.underlying22 Tryz.underlying5 Tryz.underlying9 hT.out.buf;clear hT;go_wp2_with fail;exact bodyPost_ret (v := .tuple #[.string (chunkB s), .bool true]) (by simp [results, Tryz.results12, go_sem]) rfl ⟨.inl ⟨hwf.out, rfl⟩, q4⟩
structure Wt (P : Nat) (w0 : World) (v0 : Value) (y : World) (v : Value) (X : ByteArray) : Prop where
 box : RowL y P 64 [v]
 buf : Buf y 5 v X
 ne : v.ownBlock ≠ some P
 fr : Fr (fun k => k = P) w0 v0 y v
theorem Wt.later {P : Nat} {w0 y y' : World} {v0 v : Value} {X : ByteArray} (h : Wt P w0 v0 y v X) (hb : Below y.heap.size y y') : Wt P w0 v0 y' v X :=
 ⟨h.box.call hb, h.buf.keep fun k hk => hb.block k (h.buf.lt k hk), h.ne, h.fr.trans (Fr.of_below _ _ hb)⟩
theorem Wt.drew {P : Nat} {w0 y : World} {v0 v : Value} {X : ByteArray} (h : Wt P w0 v0 y v X) : Wt P w0 v0 y.drew v X := h.later (Below.refl _ _).drew
theorem Wt.fresh {P : Nat} {w0 y : World} {v0 v : Value} {X : ByteArray} (h : Wt P w0 v0 y v X) : Wt P y v y v X := ⟨h.box, h.buf, h.ne, Fr.refl _ _ _⟩
theorem Wt.trans {P : Nat} {w0 y z : World} {v0 v u : Value} {X Y : ByteArray} (h : Wt P w0 v0 y v X) (k : Wt P y v z u Y) : Wt P w0 v0 z u Y := ⟨k.box, k.buf, k.ne, h.fr.trans k.fr⟩
theorem Wt.store {P : Nat} {w0 y y' : World} {v0 v v' : Value} {X X' : ByteArray} (h : Wt P w0 v0 y v X) (hB : Buf y' 5 v' X') (hg : y.grownBy y' v.ownBlock) (ho : v'.ownBlock = v.ownBlock ∨ v'.ownBlock = some y.heap.size) : Wt P w0 v0 (y'.setCell ⟨P, 0, none⟩ v') v' X' := by
 have hP : P < y.heap.size := h.box.lt
 have hne : v'.ownBlock ≠ some P := by
  rcases ho with e | e
  ·rw [e]; exact h.ne
  ·rw [e]; intro k; simp only [Option.some.injEq] at k; omega
 have hbx : RowL y' P 64 [v] := World.rowIs.of_block h.box (hg.block P hP fun e => h.ne e.symm);have hf : Fr (fun k => k = P) y v y' v' := Fr.of_grown _ hg ho;refine ⟨hbx.set 0 v', hB.keep fun k hk => Below.heap_setCell _ _ _ _ (by rintro rfl; exact hne hk), hne, h.fr.trans (hf.trans ⟨rfl, rfl, rfl, by simp, fun k hk hp _ => Below.heap_setCell _ _ _ _ hp, .inl rfl⟩)⟩
attribute [local go_sem] Oper.semAt_some
theorem wFlag_in (P : Nat) (b : Bool) (w0 : World) (v0 : Value) (y : World) (v : Value) (X : ByteArray) (h : Wt P w0 v0 y v X) (hs : X.size + 1 ≤ 70368744177664) :
  Calls Tryz.prog 50 #[.pointer (some ⟨P, 0, none⟩), .bool b] y fun e w' => (∃ v', e = .returned (.tuple #[]) ∧ Wt P w0 v0 w' v' (X ++ flagB b)) := by
 obtain ⟨a0, c0, rfl⟩ := h.buf.form;obtain ⟨i0, hi, hz0, hz1, hz2⟩ := info_parts info8;have q0 := h.box.cell 0 rfl;have hW : Hid (Wt P w0 v0 y (.slice a0 X.size c0) X) := h;replace hs : Hid (X.size + 1 ≤ 70368744177664) := hs;clear h
 cases b with
 | false =>
  have q1 : (y.alloc (.cells #[.int .u8 0] 5)).cell? ⟨P, 0, none⟩ = some (.slice a0 X.size c0) := (hW.out.box.alloc _).cell 0 rfl;go_enter Tryz.func50, Tryz.ntmps50;go_wp2_with (at_builtin; refine wpList_append_buf_news _ rfl (.tmp 10) (.tmp 12) 22 rfl 5 i0 Tryz.underlying22 hi hz0 hz1 hz2 _ X rfl (hW.out.buf.keep ?c0) (flagB false) ⟨y.heap.size, 0, none⟩ 1 1 rfl (flagB_size _) (by omega) ?c1 ?c2 ?_);case c0 => exact fun k hk => Below.heap_alloc _ _ _ (hW.out.buf.lt k hk)
  case c1 => exact cell_one_new _ _ _
  case c2 => rw [flagB_size]; have := hs.out; omega
  intro v' w1 hB1 hg ho;obtain ⟨a1, c1, rfl⟩ := hB1.form;have hWa := hW.out.later (show Below y.heap.size y (y.alloc (.cells #[.int .u8 0] 5)) by go_grown);have hW1 : Hid (Wt P w0 v0 (w1.setCell ⟨P, 0, none⟩ (.slice a1 (X ++ flagB false).size c1)) (.slice a1 (X ++ flagB false).size c1) (X ++ flagB false)) := hWa.store hB1 hg (by simpa using ho);have hbx : RowL w1 P 64 [.slice a0 X.size c0] := World.rowIs.of_block hWa.box (hg.block P hWa.box.lt fun e => hWa.ne e.symm);have q2 := hbx.cell 0 rfl;have f2 := hbx.frozen 0;clear hB1 hg ho hi hz0 hz1 hz2 hW hWa hbx q0 q1;generalize (X ++ flagB false).size = nn at hW1 ⊢;go_wp2_with fail;exact bodyPost_end (results_none rfl _ _ _) rfl ⟨_, rfl, hW1.out⟩
 | true =>
  have q1 : (y.alloc (.cells #[.int .u8 1] 5)).cell? ⟨P, 0, none⟩ = some (.slice a0 X.size c0) := (hW.out.box.alloc _).cell 0 rfl;go_enter Tryz.func50, Tryz.ntmps50;go_wp2_with (at_builtin; refine wpList_append_buf_news _ rfl (.tmp 10) (.tmp 12) 22 rfl 5 i0 Tryz.underlying22 hi hz0 hz1 hz2 _ X rfl (hW.out.buf.keep ?c0) (flagB true) ⟨y.heap.size, 0, none⟩ 1 1 rfl (flagB_size _) (by omega) ?c1 ?c2 ?_);case c0 => exact fun k hk => Below.heap_alloc _ _ _ (hW.out.buf.lt k hk)
  case c1 => exact cell_one_new _ _ _
  case c2 => rw [flagB_size]; have := hs.out; omega
  intro v' w1 hB1 hg ho;obtain ⟨a1, c1, rfl⟩ := hB1.form;have hWa := hW.out.later (show Below y.heap.size y (y.alloc (.cells #[.int .u8 1] 5)) by go_grown);have hW1 : Hid (Wt P w0 v0 (w1.setCell ⟨P, 0, none⟩ (.slice a1 (X ++ flagB true).size c1)) (.slice a1 (X ++ flagB true).size c1) (X ++ flagB true)) := hWa.store hB1 hg (by simpa using ho);have hbx : RowL w1 P 64 [.slice a0 X.size c0] := World.rowIs.of_block hWa.box (hg.block P hWa.box.lt fun e => hWa.ne e.symm);have q2 := hbx.cell 0 rfl;have f2 := hbx.frozen 0;clear hB1 hg ho hi hz0 hz1 hz2 hW hWa hbx q0 q1;generalize (X ++ flagB true).size = nn at hW1 ⊢;go_wp2_with fail;exact bodyPost_end (results_none rfl _ _ _) rfl ⟨_, rfl, hW1.out⟩
end Go.Proofs.YtnhanccjnhgjoaaGreatDoor
namespace Go.Proofs.YtnhanccjnhgjoaaGreatDoor
open Go.RowKit Go.Lib Go.Shelf
set_option linter.unusedVariables false
set_option linter.unusedSimpArgs false
set_option maxRecDepth 100000
set_option maxHeartbeats 9000000
attribute [local go_sem] Oper.semAt_some
theorem implPv_b (n : Int) (y : World) : Calls Tryz.prog 92 #[.int .i64 n] y fun e w' => e = .returned (.string (WPut.pv n)) ∧ Below y.heap.size y w' := WPut.implPutVarint n y
theorem wNumber_in (P : Nat) (n : Int) (w0 : World) (v0 : Value) (y : World) (v : Value) (X : ByteArray) (h : Wt P w0 v0 y v X) (hs : X.size + (WPut.pv n).size ≤ 70368744177664) :
  Calls Tryz.prog 51 #[.pointer (some ⟨P, 0, none⟩), .int .i64 n] y fun e w' => (∃ v', e = .returned (.tuple #[]) ∧ Wt P w0 v0 w' v' (X ++ WPut.pv n)) := by
 obtain ⟨a0, c0, rfl⟩ := h.buf.form;obtain ⟨i0, hi, hz0, hz1, hz2⟩ := info_parts info8;replace hs : Hid (X.size + (WPut.pv n).size ≤ 70368744177664) := hs;have hd := h.drew;obtain ⟨yd, hyd⟩ : ∃ x, x = y.drew := ⟨_, rfl⟩;go_enter Tryz.func51, Tryz.ntmps51;refine wp_region_held_drew (S := fun _ => True) (by kernel_rfl) trivial (fun hH => ?_);rw [← hyd] at hd ⊢;clear hyd h;refine tkd 0 4 (.pointer (some ⟨P, 0, none⟩)) trivial ?_;try simp only [tK]
 refine tkd 1 5 (.pointer (some ⟨P, 0, none⟩)) trivial ?_;try simp only [tK]
 refine tkd 2 6 (.pointer (some ⟨P, 0, none⟩)) trivial ?_;try simp only [tK]
 refine tkd 3 7 (.pointer (some ⟨P, 0, none⟩)) trivial ?_;try simp only [tK]
 refine tkd 5 9 (.int .i64 n) trivial ?_;try simp only [tK]
 refine rdy2 4 6 (fun K hK => ?_) (fun K hK => ?_)
 focus
  have q := hd.box.cell 0 rfl;go_simp;clear q;refine hK.out _ _ trivial (fun _ => ?_);clear hK K;try simp only [tK]
  refine rdy1 6 (fun K hK => ?_);go_simp;refine (implPv_b n _).mono ?_;rintro e y1 ⟨rfl, b1⟩;have hd1 := hd.later b1;clear b1;go_wp2_with fail
 rotate_left
 focus
  go_simp;refine (implPv_b n _).mono ?_;rintro e y1 ⟨rfl, b1⟩;have hd1 := hd.later b1;clear b1;go_wp2_with fail;refine hK.out _ _ trivial (fun _ => ?_);clear hK K;try simp only [tK]
  refine rdy1 4 (fun K hK => ?_);have q := hd1.box.cell 0 rfl;go_simp;clear q
 all_goals
  refine hK.out _ _ trivial (fun _ => ?_);clear hK K;try simp only [tK]
  refine rdy1 7 (fun K hK => ?_);refine step_append_buf_str _ rfl (.tmp 8) (.tmp 10) 22 9 rfl 5 i0 Tryz.underlying22 Tryz.underlying9 hi hz0 hz1 hz2 _ X rfl hd1.buf (WPut.pv n) rfl (by have := hs.out; omega) ?_;intro v' w1 hB1 hg ho;obtain ⟨a1, c1, rfl⟩ := hB1.form;have hW1 : Hid (Wt P w0 v0 (w1.setCell ⟨P, 0, none⟩ (.slice a1 (X ++ WPut.pv n).size c1)) (.slice a1 (X ++ WPut.pv n).size c1) (X ++ WPut.pv n)) := hd1.store hB1 hg ho;have hbx : RowL w1 P 64 _ := World.rowIs.of_block hd1.box (hg.block P hd1.box.lt fun e => hd1.ne e.symm);have q2 := hbx.cell 0 rfl;have f2 := hbx.frozen 0;have hSw := (trivial : True);clear hB1 hg ho hbx;generalize (X ++ WPut.pv n).size = nn at hW1 ⊢;refine hK.out _ _ hSw (fun _ => ?_);clear hK K;try simp only [tK]
  refine tkd 8 12 (.pointer (some ⟨P, 0, none⟩)) hSw ?_;try simp only [tK]
  refine tkd 9 13 (.pointer (some ⟨P, 0, none⟩)) hSw ?_;try simp only [tK]
  refine rdy1 10 (fun K hK => ?_);go_simp;clear q2 f2;refine hK.out _ _ trivial (fun _ => ?_);clear hK K;try simp only [tK]
  refine wpAnyH_done (by kernel_rfl) ?_ _;exact bodyPost_end (results_none rfl _ _ _) rfl ⟨_, rfl, hW1.out⟩
theorem wText_in (P : Nat) (s : ByteArray) (w0 : World) (v0 : Value) (y : World) (v : Value) (X : ByteArray) (h : Wt P w0 v0 y v X) (hl : s.size ≤ 9223372036854775807) (hs : X.size + (sizedB s).size ≤ 70368744177664) :
  Calls Tryz.prog 59 #[.pointer (some ⟨P, 0, none⟩), .string s] y fun e w' => (∃ v', e = .returned (.tuple #[]) ∧ Wt P w0 v0 w' v' (X ++ sizedB s)) := by
 obtain ⟨i0, hi, hz0, hz1, hz2⟩ := info_parts info8;replace hs : Hid (X.size + ((pvN s.size).size + s.size) ≤ 70368744177664) := by unfold sizedB at hs; rw [ByteArray.size_append] at hs; exact hs
 go_enter Tryz.func59, Tryz.ntmps59;go_wp2_with fail;refine (wNumber_in P s.size w0 v0 y v X h (by have := hs.out; rw [pv_nat]; omega)).mono ?_;rintro e y1 ⟨v1, rfl, h1⟩;rw [pv_nat] at h1;obtain ⟨X1, hX1⟩ : ∃ Z, Z = X ++ pvN s.size := ⟨_, rfl⟩;rw [← hX1] at h1
 have hs1 : Hid (X1.size + s.size ≤ 140737488355328) := by
  have := hs.out;show _ ≤ _;rw [hX1, ByteArray.size_append];omega
 have hX2 : Hid (X1 ++ s = X ++ sizedB s) := by
  show _ = _;rw [hX1, ByteArray.append_assoc];rfl
 clear hX1 hs;obtain ⟨a0, c0, rfl⟩ := h1.buf.form;have q0 := h1.box.cell 0 rfl;replace h1 : Hid (Wt P w0 v0 y1 (.slice a0 X1.size c0) X1) := h1;clear h;go_wp2_with (at_builtin; refine wpList_append_buf_str _ rfl (.tmp 12) (.tmp 13) 22 9 rfl 5 i0 Tryz.underlying22 Tryz.underlying9 hi hz0 hz1 hz2 _ X1 rfl h1.out.buf s rfl hs1.out ?_);intro v' w1 hB1 hg ho;rw [hX2.out] at hB1;obtain ⟨a1, c1, rfl⟩ := hB1.form;have hW1 : Hid (Wt P w0 v0 (w1.setCell ⟨P, 0, none⟩ (.slice a1 (X ++ sizedB s).size c1)) (.slice a1 (X ++ sizedB s).size c1) (X ++ sizedB s)) := h1.out.store hB1 hg ho;have hbx : RowL w1 P 64 _ := World.rowIs.of_block h1.out.box (hg.block P h1.out.box.lt fun e => h1.out.ne e.symm);have q2 := hbx.cell 0 rfl;have f2 := hbx.frozen 0;clear hB1 hg ho hi hz0 hz1 hz2 h1 hbx q0;generalize (X ++ sizedB s).size = nn at hW1 ⊢;go_wp2_with fail;exact bodyPost_end (results_none rfl _ _ _) rfl ⟨_, rfl, hW1.out⟩
theorem byt4 (z : Int) (h1 : 0 ≤ z) (h2 : z ≤ 4294967295) : strOfNums [WPut.byt 0 z, WPut.byt 1 z, WPut.byt 2 z, WPut.byt 3 z] = u4 z := by
 have e0 : WPut.byt 0 z = z % 256 := by simp [WPut.byt]
 have e1 : WPut.byt 1 z = z / 256 % 256 := by simp [WPut.byt]
 have e2 : WPut.byt 2 z = z / 65536 % 256 := by simp [WPut.byt]
 have e3 : WPut.byt 3 z = z / 16777216 % 256 := by simp [WPut.byt]
 rw [e0, e1, e2, e3];rfl
theorem byt_bd (k : Nat) (z : Int) : 0 ≤ WPut.byt k z ∧ WPut.byt k z ≤ 255 := by unfold WPut.byt; omega
theorem wWord_in (P : Nat) (z : Int) (w0 : World) (v0 : Value) (y : World) (v : Value) (X : ByteArray) (h : Wt P w0 v0 y v X) (hz1' : 0 ≤ z) (hz2' : z ≤ 4294967295) (hs : X.size + (u4 z).size ≤ 70368744177664) :
  Calls Tryz.prog 53 #[.pointer (some ⟨P, 0, none⟩), .int .u32 z] y fun e w' => (∃ v', e = .returned (.tuple #[]) ∧ Wt P w0 v0 w' v' (X ++ u4 z)) := by
 obtain ⟨a0, c0, rfl⟩ := h.buf.form;obtain ⟨i0, hi, hz0, hz1, hz2⟩ := info_parts info8;replace hs : Hid (X.size + (u4 z).size ≤ 70368744177664) := hs;go_enter Tryz.func53, Tryz.ntmps53;go_wp2_with fail;refine (WPut.wordBytes_any z _ hz1' hz2').mono ?_;rintro e y1 ⟨rfl, hy1⟩;have b1 : Below y.heap.size y y1 := by subst hy1; go_grown
 have h1 := h.later b1;clear b1 hy1 h;have g0 := byt_bd 0 z;have g1 := byt_bd 1 z;have g2 := byt_bd 2 z;have g3 := byt_bd 3 z;have hu := byt4 z hz1' hz2';generalize WPut.byt 0 z = x0 at g0 hu ⊢;generalize WPut.byt 1 z = x1 at g1 hu ⊢;generalize WPut.byt 2 z = x2 at g2 hu ⊢;generalize WPut.byt 3 z = x3 at g3 hu ⊢;go_wp2_with fail;have hd := (h1.later (show Below y1.heap.size y1 (y1.alloc (.cells #[.int .u8 x0, .int .u8 x1, .int .u8 x2, .int .u8 x3] 169)) by go_grown)).drew;have hblk : (y1.alloc (.cells #[.int .u8 x0, .int .u8 x1, .int .u8 x2, .int .u8 x3] 169)).drew.heap[y1.heap.size]? = some (.cells #[.int .u8 x0, .int .u8 x1, .int .u8 x2, .int .u8 x3] 169 (0, 0)) := heap_alloc_new y1 _;obtain ⟨yd, hyd⟩ : ∃ x, x = (y1.alloc (.cells #[.int .u8 x0, .int .u8 x1, .int .u8 x2, .int .u8 x3] 169)).drew := ⟨_, rfl⟩;refine wp_region_held_drew (S := fun _ => True) (by kernel_rfl) trivial (fun hH => ?_);rw [← hyd] at hd hblk ⊢;clear hyd h1;refine tkd 0 7 (.pointer (some ⟨P, 0, none⟩)) trivial ?_;try simp only [tK]
 refine tkd 1 8 (.pointer (some ⟨P, 0, none⟩)) trivial ?_;try simp only [tK]
 refine tkd 2 9 (.pointer (some ⟨P, 0, none⟩)) trivial ?_;try simp only [tK]
 refine tkd 3 10 (.pointer (some ⟨P, 0, none⟩)) trivial ?_;try simp only [tK]
 refine tkd 5 12 (.slice (some ⟨y1.heap.size, 0, none⟩) 4 4) trivial ?_;try simp only [tK]
 refine rdy1 4 (fun K hK => ?_);have q := hd.box.cell 0 rfl;go_simp;clear q;refine hK.out _ _ trivial (fun _ => ?_);clear hK K;try simp only [tK]
 refine rdy1 6 (fun K hK => ?_);refine step_append_buf_news _ rfl (.tmp 11) (.tmp 12) 22 rfl 5 i0 Tryz.underlying22 hi hz0 hz1 hz2 _ X rfl hd.buf (u4 z) ⟨y1.heap.size, 0, none⟩ 4 4 rfl (u4_size _) (by omega) (by rw [← hu, strCells_nums _ (by simp only [List.mem_cons, List.not_mem_nil, or_false]; rintro x (rfl | rfl | rfl | rfl) <;> assumption)]; exact World.news_of_block hblk) (by have := hs.out; omega) ?_;intro v' w1 hB1 hg ho;obtain ⟨a1, c1, rfl⟩ := hB1.form;have hW1 : Hid (Wt P w0 v0 (w1.setCell ⟨P, 0, none⟩ (.slice a1 (X ++ u4 z).size c1)) (.slice a1 (X ++ u4 z).size c1) (X ++ u4 z)) := hd.store hB1 hg ho;have hbx : RowL w1 P 64 _ := World.rowIs.of_block hd.box (hg.block P hd.box.lt fun e => hd.ne e.symm);have q2 := hbx.cell 0 rfl;have f2 := hbx.frozen 0;have hSw := (trivial : True);clear hB1 hg ho hbx;generalize (X ++ u4 z).size = nn at hW1 ⊢;refine hK.out _ _ hSw (fun _ => ?_);clear hK K;try simp only [tK]
 refine tkd 7 14 (.pointer (some ⟨P, 0, none⟩)) hSw ?_;try simp only [tK]
 refine tkd 8 15 (.pointer (some ⟨P, 0, none⟩)) hSw ?_;try simp only [tK]
 refine rdy1 9 (fun K hK => ?_);go_simp;clear q2 f2;refine hK.out _ _ trivial (fun _ => ?_);clear hK K;try simp only [tK]
 refine wpAnyH_done (by kernel_rfl) ?_ _;exact bodyPost_end (results_none rfl _ _ _) rfl ⟨_, rfl, hW1.out⟩
end Go.Proofs.YtnhanccjnhgjoaaGreatDoor

import Derived.Test.YtcbifllencnbaaaSpC
import Derived.Test.YtcbifllencnbaaaChE
import Derived.Test.YtcbifllencnbaaaTak
namespace Go.Proofs.Ytcbifllencnbaaa
open Go.RowKit Go.Lib Go.Shelf
set_option linter.unusedVariables false
set_option linter.unusedSimpArgs false
/-- what a prototype must be, to be written. -/
structure PW (p : PD) : Prop where
  code : ∀ i, i < p.code.n → 0 ≤ p.code.f i ∧ p.code.f i ≤ 4294967295
  consts : ∀ i, i < p.consts.n → Cst (p.consts.f i)
  name : p.name.size ≤ 1000
  upNames : ∀ i, i < p.upNames.n → (p.upNames.f i).size ≤ 1000
/-- the buffer's state, since w0 and v0. -/
structure St (Q : Nat → Prop) (w0 : World) (v0 : Value) (y : World) (v : Value) (X : ByteArray) : Prop where
  buf : Buf y 5 v X
  fr : Fr Q w0 v0 y v
theorem St.later {Q : Nat → Prop} {w0 y y' : World} {v0 v : Value} {X : ByteArray} (h : St Q w0 v0 y v X) (hb : Below y.heap.size y y') : St Q w0 v0 y' v X :=
  ⟨h.buf.keep fun k hk => hb.block k (h.buf.lt k hk), h.fr.trans (Fr.of_below _ _ hb)⟩
theorem St.next {Q : Nat → Prop} {w0 y y' : World} {v0 v v' : Value} {X X' : ByteArray} (h : St Q w0 v0 y v X) (hb : Buf y' 5 v' X') (hf : Fr Q y v y' v') : St Q w0 v0 y' v' X' := ⟨hb, h.fr.trans hf⟩
theorem St.drew {Q : Nat → Prop} {w0 y : World} {v0 v : Value} {X : ByteArray} (h : St Q w0 v0 y v X) : St Q w0 v0 y.drew v X := h.later (Below.refl _ _).drew
theorem pv_st {Q : Nat → Prop} {w0 y : World} {v0 v : Value} {X : ByteArray} (h : St Q w0 v0 y v X) (n : Int) : Calls Try.prog 22 #[.int .i64 n] y fun e w' => e = .returned (.string (WPut.pv n)) ∧ St Q w0 v0 w' v X :=
  (WPut.specPutVarint n y).mono fun e w' ⟨h1, h2⟩ => ⟨h1, h.later h2⟩
theorem flag_st {Q : Nat → Prop} {w0 y : World} {v0 v : Value} {X : ByteArray} (h : St Q w0 v0 y v X) (b : Bool) : Calls Try.prog 21 #[.bool b] y fun e w' => e = .returned (.string (flagB b)) ∧ St Q w0 v0 w' v X :=
  (l3Flag_in b y).mono fun e w' ⟨h1, h2⟩ => ⟨h1, h.later h2⟩
theorem sized_st {Q : Nat → Prop} {w0 y : World} {v0 v : Value} {X : ByteArray} (h : St Q w0 v0 y v X) (s : ByteArray) (hs : s.size ≤ 1000) : Calls Try.prog 25 #[.string s] y fun e w' => e = .returned (.string (sizedB s)) ∧ St Q w0 v0 w' v X :=
  (l3Sized_in s y (by omega)).mono fun e w' ⟨h1, h2⟩ => ⟨h1, h.later h2⟩
theorem const_st {Q : Nat → Prop} {w0 y : World} {v0 v : Value} {X : ByteArray} (h : St Q w0 v0 y v X) (d : VD) (hd : Cst d) : Calls Try.prog 23 #[.agg #[.int .i64 d.kind, .int .i64 d.num, .string d.text]] y fun e w' => e = .returned (.string (constB d)) ∧ St Q w0 v0 w' v X :=
  (l3Const_in d y hd).mono fun e w' ⟨h1, h2⟩ => ⟨h1, h.later h2⟩
theorem put_st {w0 y : World} {v0 v : Value} {X : ByteArray} (h : St (fun _ => False) w0 v0 y v X) (s : ByteArray) (hs : X.size + s.size ≤ 70368744177664) : Calls Try.prog 11 #[v, .string s] y fun e w' => ∃ v', e = .returned v' ∧ St (fun _ => False) w0 v0 w' v' (X ++ s) :=
  (l3Put_in v X s y h.buf hs).mono fun e w' ⟨v', h1, h2, h3⟩ => ⟨v', h1, h.next h2 h3⟩
/-- a list that came in. -/
theorem arr_cells {lo : Nat} {w : World} {ao : Option Addr} {z n cap : Nat} {C : Nat → Nat → Value} (h : IsArr (· < lo) w (.slice ao n cap) z n C) (hn : 0 < n) :
    ∃ b o, ao = some ⟨b, o, none⟩ ∧ b < lo ∧ ∀ y : World, (∀ k, k < lo → y.heap[k]? = w.heap[k]?) → ∀ i, i < n → ∀ j, j < z → y.cell? ⟨b, o + i * z + j, none⟩ = some (C i j) := by
  obtain ⟨ao', cap', he, h1, h2⟩ := h
  simp only [Value.slice.injEq] at he
  obtain ⟨rfl, _, rfl⟩ := he
  obtain ⟨b, o, rfl, hb, hc⟩ := h2 hn
  exact ⟨b, o, rfl, hb, fun y hy i hi j hj => (World.cell?_of_block (hy b hb)).trans (hc i hi j hj)⟩
noncomputable def pre1 (p : PD) : ByteArray := flagB p.vararg ++ WPut.pv p.params ++ WPut.pv p.regs ++ pvN p.code.n
noncomputable def pre3 (p : PD) : ByteArray := pre1 p ++ codeB p ++ pvN p.consts.n
noncomputable def pre5 (p : PD) : ByteArray := pre3 p ++ constsB p ++ pvN p.ups.n
noncomputable def pre7 (p : PD) : ByteArray := pre5 p ++ upsB p ++ WPut.pv p.kids
noncomputable def pre8 (p : PD) : ByteArray := pre7 p ++ (flagB true ++ sizedB p.name ++ pvN p.lines.n)
noncomputable def pre9 (p : PD) : ByteArray := pre8 p ++ linesB p ++ pvN p.upNames.n
theorem protoB_eq (p : PD) : protoB p = pre7 p ++ debugB p := rfl
theorem protoB_bare {p : PD} (h : Bare p) : protoB p = pre7 p ++ flagB false := by rw [protoB_eq, debugB_bare h]
theorem protoB_full {p : PD} (h : ¬ Bare p) : protoB p = pre9 p ++ upNamesB p := by
  rw [protoB_eq, debugB_full h]
  simp only [pre9, pre8, ByteArray.append_assoc]
theorem pre7_le (p : PD) : (pre7 p).size ≤ (protoB p).size := by rw [protoB_eq, ByteArray.size_append]; omega
theorem pre5_le (p : PD) : (pre5 p).size + (upsB p).size + (WPut.pv p.kids).size ≤ (protoB p).size := by
  have h := pre7_le p
  unfold pre7 at h
  simp only [ByteArray.size_append] at h
  omega
theorem pre3_le (p : PD) : (pre3 p).size + (constsB p).size + (pvN p.ups.n).size ≤ (protoB p).size := by
  have h := pre5_le p
  unfold pre5 at h
  simp only [ByteArray.size_append] at h
  omega
theorem pre1_le (p : PD) : (pre1 p).size + (codeB p).size + (pvN p.consts.n).size ≤ (protoB p).size := by
  have h := pre3_le p
  unfold pre3 at h
  simp only [ByteArray.size_append] at h
  omega
theorem pre9_le {p : PD} (h : ¬ Bare p) : (pre9 p).size + (upNamesB p).size ≤ (protoB p).size := by rw [protoB_full h, ByteArray.size_append]; omega
theorem pre8_le {p : PD} (h : ¬ Bare p) : (pre8 p).size + (linesB p).size + (pvN p.upNames.n).size ≤ (protoB p).size := by
  have h := pre9_le h
  unfold pre9 at h
  simp only [ByteArray.size_append] at h
  omega
theorem pv_nat (n : Nat) : WPut.pv (n : Int) = pvN n := rfl
theorem flag_true : (⟨#[1]⟩ : ByteArray) = flagB true := rfl
theorem flag_false : strOfNums [0] = flagB false := rfl
theorem u4_cells (n : Int) : strCells (u4 n) = [.int .u8 (n % 256), .int .u8 (n / 256 % 256), .int .u8 (n / 65536 % 256), .int .u8 (n / 16777216 % 256)] := by
  unfold u4
  rw [strCells_nums]
  · rfl
  · intro x hx
    simp only [List.mem_cons, List.not_mem_nil, or_false] at hx
    omega
attribute [local go_sem] Oper.semAt_some
set_option maxRecDepth 100000 in
set_option maxHeartbeats 4000000 in
theorem l3Proto_in (lo : Nat) (p : PD) (v a3 a4 a5 a8 a9 : Value) (B : ByteArray) (w : World) (hp : IsProto (· < lo) w a3 a4 a5 a8 a9 p) (hw : PW p) (hB : Buf w 5 v B) (hlo : lo ≤ w.heap.size) (hvl : ∀ k, v.ownBlock = some k → lo ≤ k) (hb : B.size + (protoB p).size ≤ 70368744177664) :
    Calls Try.prog 12 #[v, pAgg p a3 a4 a5 a8 a9] w fun e w' => (∃ v', e = .returned v' ∧ St (fun _ => False) w v w' v' (B ++ protoB p)) := by
  obtain ⟨av, cv, rfl⟩ := hB.form
  obtain ⟨h3, h4, h5, h8, h9, hnm⟩ := hp
  obtain ⟨o3, c3, rfl, n3, -⟩ := id h3
  obtain ⟨o4, c4, rfl, n4, -⟩ := id h4.1
  obtain ⟨o5, c5, rfl, n5, -⟩ := id h5
  obtain ⟨o8, c8, rfl, n8, -⟩ := id h8
  obtain ⟨o9, c9, rfl, n9, -⟩ := id h9.1
  replace h3 : Hid (IsArr (· < lo) w (.slice o3 p.code.n c3) 1 p.code.n (iC .u32 p.code.f)) := h3
  replace h4 : Hid (IsArr (· < lo) w (.slice o4 p.consts.n c4) 3 p.consts.n (vC p.consts.f)) := h4.1
  replace h5 : Hid (IsArr (· < lo) w (.slice o5 p.ups.n c5) 2 p.ups.n (uC p.ups.f)) := h5
  replace h8 : Hid (IsArr (· < lo) w (.slice o8 p.lines.n c8) 1 p.lines.n (iC .i64 p.lines.f)) := h8
  replace h9 : Hid (IsArr (· < lo) w (.slice o9 p.upNames.n c9) 1 p.upNames.n (sC p.upNames.f)) := h9.1
  replace hw : Hid (PW p) := hw
  replace hb : Hid (B.size + (protoB p).size ≤ 70368744177664) := hb
  have hBl : Hid (∀ k, Value.ownBlock (.slice av B.size cv) = some k → k < w.heap.size) := hB.lt
  replace hvl : Hid (∀ k, Value.ownBlock (.slice av B.size cv) = some k → lo ≤ k) := hvl
  have S00 : Hid (St (fun _ => False) w (.slice av B.size cv) w (.slice av B.size cv) B) := ⟨hB, Fr.refl _ _ _⟩
  replace hB : Hid (Buf w 5 (.slice av B.size cv) B) := hB
  unfold pAgg
  go_enter Try.func12, Try.ntmps12
  go_wp2_with fail
  have RP := RowL.new w [.int .i64 p.params, .bool p.vararg, .int .i64 p.regs, .slice o3 p.code.n c3, .slice o4 p.consts.n c4, .slice o5 p.ups.n c5, .int .i64 p.kids, .string p.name, .slice o8 p.lines.n c8, .slice o9 p.upNames.n c9] 45
  have bw : Below w.heap.size w (w.alloc (.cells #[.int .i64 p.params, .bool p.vararg, .int .i64 p.regs, .slice o3 p.code.n c3, .slice o4 p.consts.n c4, .slice o5 p.ups.n c5, .int .i64 p.kids, .string p.name, .slice o8 p.lines.n c8, .slice o9 p.upNames.n c9] 45)) := by go_grown
  have sz0 : (w.alloc (.cells #[.int .i64 p.params, .bool p.vararg, .int .i64 p.regs, .slice o3 p.code.n c3, .slice o4 p.consts.n c4, .slice o5 p.ups.n c5, .int .i64 p.kids, .string p.name, .slice o8 p.lines.n c8, .slice o9 p.upNames.n c9] 45)).heap.size = w.heap.size + 1 := by simp
  generalize w.alloc (.cells #[.int .i64 p.params, .bool p.vararg, .int .i64 p.regs, .slice o3 p.code.n c3, .slice o4 p.consts.n c4, .slice o5 p.ups.n c5, .int .i64 p.kids, .string p.name, .slice o8 p.lines.n c8, .slice o9 p.upNames.n c9] 45) = w0 at RP bw sz0 ⊢
  replace RP : Hid (RowL w0 w.heap.size 45 [.int .i64 p.params, .bool p.vararg, .int .i64 p.regs, .slice o3 p.code.n c3, .slice o4 p.consts.n c4, .slice o5 p.ups.n c5, .int .i64 p.kids, .string p.name, .slice o8 p.lines.n c8, .slice o9 p.upNames.n c9]) := RP
  have S0 : Hid (St (fun _ => False) w (.slice av B.size cv) w0 (.slice av B.size cv) B) := S00.out.later bw
  have S0' : Hid (St (fun _ => False) w0 (.slice av B.size cv) w0 (.slice av B.size cv) B) := ⟨S0.out.buf, Fr.refl _ _ _⟩
  have hcell : Hid (∀ y v' X, St (fun _ => False) w0 (.slice av B.size cv) y v' X → (y.cell? ⟨w.heap.size, 0, none⟩ = some (.int .i64 p.params) ∧ y.cell? ⟨w.heap.size, 1, none⟩ = some (.bool p.vararg) ∧ y.cell? ⟨w.heap.size, 2, none⟩ = some (.int .i64 p.regs) ∧ y.cell? ⟨w.heap.size, 3, none⟩ = some (.slice o3 p.code.n c3) ∧ y.cell? ⟨w.heap.size, 4, none⟩ = some (.slice o4 p.consts.n c4) ∧ y.cell? ⟨w.heap.size, 5, none⟩ = some (.slice o5 p.ups.n c5) ∧ y.cell? ⟨w.heap.size, 6, none⟩ = some (.int .i64 p.kids) ∧ y.cell? ⟨w.heap.size, 7, none⟩ = some (.string p.name) ∧ y.cell? ⟨w.heap.size, 8, none⟩ = some (.slice o8 p.lines.n c8) ∧ y.cell? ⟨w.heap.size, 9, none⟩ = some (.slice o9 p.upNames.n c9))) := fun y v' X hF => by
    have R : RowL y w.heap.size 45 [.int .i64 p.params, .bool p.vararg, .int .i64 p.regs, .slice o3 p.code.n c3, .slice o4 p.consts.n c4, .slice o5 p.ups.n c5, .int .i64 p.kids, .string p.name, .slice o8 p.lines.n c8, .slice o9 p.upNames.n c9] := World.rowIs.of_block RP.out (hF.fr.block _ (by omega) id fun e => by have := hBl.out _ e; omega)
    exact ⟨R.cell 0 rfl, R.cell 1 rfl, R.cell 2 rfl, R.cell 3 rfl, R.cell 4 rfl, R.cell 5 rfl, R.cell 6 rfl, R.cell 7 rfl, R.cell 8 rfl, R.cell 9 rfl⟩
  have hlow : Hid (∀ y v' X, St (fun _ => False) w0 (.slice av B.size cv) y v' X → ∀ k, k < lo → y.heap[k]? = w.heap[k]?) := fun y v' X hF k hk =>
    (hF.fr.block k (by omega) id fun e => by have := hvl.out _ e; omega).trans (bw.block k (by omega))
  have hbw : Hid (Below w.heap.size w w0) := bw
  clear hvl hBl hB S00 RP bw
  have hS : Hid (∀ y v' X, St (fun _ => False) w0 (.slice av B.size cv) y v' X → (fun y => y.cell? ⟨w.heap.size, 0, none⟩ = some (.int .i64 p.params) ∧ y.cell? ⟨w.heap.size, 1, none⟩ = some (.bool p.vararg) ∧ y.cell? ⟨w.heap.size, 2, none⟩ = some (.int .i64 p.regs) ∧ y.cell? ⟨w.heap.size, 3, none⟩ = some (.slice o3 p.code.n c3)) y) := fun y v' X hF => by
    have hc := hcell.out y v' X hF
    exact ⟨hc.1, hc.2.1, hc.2.2.1, hc.2.2.2.1⟩
  have z1 := flagB_size p.vararg
  have z2 := pv_size p.params
  have z3 := pv_size p.regs
  have z4 := pv_size p.code.n
  refine wp_region_held_drew (S := (fun y => y.cell? ⟨w.heap.size, 0, none⟩ = some (.int .i64 p.params) ∧ y.cell? ⟨w.heap.size, 1, none⟩ = some (.bool p.vararg) ∧ y.cell? ⟨w.heap.size, 2, none⟩ = some (.int .i64 p.regs) ∧ y.cell? ⟨w.heap.size, 3, none⟩ = some (.slice o3 p.code.n c3))) (by kernel_rfl) (hS.out _ _ _ S0'.out.drew) (fun hH => ?_)
  refine take_dst 0 10 (.slice av B.size cv) rfl (by kernel_rfl) (by kernel_rfl) (by kernel_rfl) (fun _ _ _ h => h) (Or.inl ⟨by rfl, by intro wv hSv; (try dsimp only at hSv); go_simp⟩) hH rfl ?_
  try simp only [Act.put, List.setIfInBounds_toArray, List.set_cons_zero, List.set_cons_succ]
  refine take_dst 1 11 (.pointer (some ⟨w.heap.size, 1, none⟩)) rfl (by kernel_rfl) (by kernel_rfl) (by kernel_rfl) (fun _ _ _ h => h) (Or.inl ⟨by rfl, by intro wv hSv; (try dsimp only at hSv); go_simp⟩) hH rfl ?_
  try simp only [Act.put, List.setIfInBounds_toArray, List.set_cons_zero, List.set_cons_succ]
  refine take_dst 2 12 (.bool p.vararg) rfl (by kernel_rfl) (by kernel_rfl) (by kernel_rfl) (fun _ _ _ h => h) (Or.inl ⟨by rfl, by intro wv hSv; (try dsimp only at hSv); go_simp⟩) hH rfl ?_
  try simp only [Act.put, List.setIfInBounds_toArray, List.set_cons_zero, List.set_cons_succ]
  refine take_dst 4 14 (.pointer (some ⟨w.heap.size, 0, none⟩)) rfl (by kernel_rfl) (by kernel_rfl) (by kernel_rfl) (fun _ _ _ h => h) (Or.inl ⟨by rfl, by intro wv hSv; (try dsimp only at hSv); go_simp⟩) hH rfl ?_
  try simp only [Act.put, List.setIfInBounds_toArray, List.set_cons_zero, List.set_cons_succ]
  refine take_dst 5 15 (.int .i64 p.params) rfl (by kernel_rfl) (by kernel_rfl) (by kernel_rfl) (fun _ _ _ h => h) (Or.inl ⟨by rfl, by intro wv hSv; (try dsimp only at hSv); go_simp⟩) hH rfl ?_
  try simp only [Act.put, List.setIfInBounds_toArray, List.set_cons_zero, List.set_cons_succ]
  refine take_dst 8 18 (.pointer (some ⟨w.heap.size, 2, none⟩)) rfl (by kernel_rfl) (by kernel_rfl) (by kernel_rfl) (fun _ _ _ h => h) (Or.inl ⟨by rfl, by intro wv hSv; (try dsimp only at hSv); go_simp⟩) hH rfl ?_
  try simp only [Act.put, List.setIfInBounds_toArray, List.set_cons_zero, List.set_cons_succ]
  refine take_dst 9 19 (.int .i64 p.regs) rfl (by kernel_rfl) (by kernel_rfl) (by kernel_rfl) (fun _ _ _ h => h) (Or.inl ⟨by rfl, by intro wv hSv; (try dsimp only at hSv); go_simp⟩) hH rfl ?_
  try simp only [Act.put, List.setIfInBounds_toArray, List.set_cons_zero, List.set_cons_succ]
  refine take_dst 12 22 (.pointer (some ⟨w.heap.size, 3, none⟩)) rfl (by kernel_rfl) (by kernel_rfl) (by kernel_rfl) (fun _ _ _ h => h) (Or.inl ⟨by rfl, by intro wv hSv; (try dsimp only at hSv); go_simp⟩) hH rfl ?_
  try simp only [Act.put, List.setIfInBounds_toArray, List.set_cons_zero, List.set_cons_succ]
  refine take_dst 13 23 (.slice o3 p.code.n c3) rfl (by kernel_rfl) (by kernel_rfl) (by kernel_rfl) (fun _ _ _ h => h) (Or.inl ⟨by rfl, by intro wv hSv; (try dsimp only at hSv); go_simp⟩) hH rfl ?_
  try simp only [Act.put, List.setIfInBounds_toArray, List.set_cons_zero, List.set_cons_succ]
  refine take_dst 14 24 (.int .i64 p.code.n) rfl (by kernel_rfl) (by kernel_rfl) (by kernel_rfl) (fun _ _ _ h => h) (Or.inl ⟨by rfl, by intro wv hSv; (try dsimp only at hSv); go_simp⟩) hH rfl ?_
  try simp only [Act.put, List.setIfInBounds_toArray, List.set_cons_zero, List.set_cons_succ]
  refine wpAnyH_ready (rs := [3]) (by kernel_rfl) (by simp) ?_
  refine AllReadyH.cons rfl (fun K hK => ?_) AllReadyH.nil
  go_simp
  refine (flag_st S0'.out.drew p.vararg).mono ?_
  rintro e y1 ⟨rfl, s1⟩
  go_wp2_with fail
  refine hK.out _ _ (hS.out y1 _ _ s1) (fun _ => ?_)
  clear hK K
  try simp only [Act.put, List.setIfInBounds_toArray, List.set_cons_zero, List.set_cons_succ]
  refine wpAnyH_ready (rs := [6]) (by kernel_rfl) (by simp) ?_
  refine AllReadyH.cons rfl (fun K hK => ?_) AllReadyH.nil
  go_simp
  refine (pv_st s1 p.params).mono ?_
  rintro e y2 ⟨rfl, s2⟩
  go_wp2_with fail
  refine hK.out _ _ (hS.out y2 _ _ s2) (fun _ => ?_)
  clear hK K
  try simp only [Act.put, List.setIfInBounds_toArray, List.set_cons_zero, List.set_cons_succ]
  refine take_dst 7 17 (.string (flagB p.vararg ++ WPut.pv p.params)) rfl (by kernel_rfl) (by kernel_rfl) (by kernel_rfl) (fun _ _ _ h => h) (Or.inl ⟨by rfl, by intro wv hSv; (try dsimp only at hSv); go_simp; omega⟩) (hS.out y2 _ _ s2) rfl ?_
  try simp only [Act.put, List.setIfInBounds_toArray, List.set_cons_zero, List.set_cons_succ]
  refine wpAnyH_ready (rs := [10]) (by kernel_rfl) (by simp) ?_
  refine AllReadyH.cons rfl (fun K hK => ?_) AllReadyH.nil
  go_simp
  refine (pv_st s2 p.regs).mono ?_
  rintro e y3 ⟨rfl, s3⟩
  go_wp2_with fail
  refine hK.out _ _ (hS.out y3 _ _ s3) (fun _ => ?_)
  clear hK K
  try simp only [Act.put, List.setIfInBounds_toArray, List.set_cons_zero, List.set_cons_succ]
  refine take_dst 11 21 (.string (flagB p.vararg ++ WPut.pv p.params ++ WPut.pv p.regs)) rfl (by kernel_rfl) (by kernel_rfl) (by kernel_rfl) (fun _ _ _ h => h) (Or.inl ⟨by rfl, by intro wv hSv; (try dsimp only at hSv); go_simp; omega⟩) (hS.out y3 _ _ s3) rfl ?_
  try simp only [Act.put, List.setIfInBounds_toArray, List.set_cons_zero, List.set_cons_succ]
  refine wpAnyH_ready (rs := [15]) (by kernel_rfl) (by simp) ?_
  refine AllReadyH.cons rfl (fun K hK => ?_) AllReadyH.nil
  go_simp
  refine (pv_st s3 p.code.n).mono ?_
  rintro e y4 ⟨rfl, s4⟩
  go_wp2_with fail
  refine hK.out _ _ (hS.out y4 _ _ s4) (fun _ => ?_)
  clear hK K
  try simp only [Act.put, List.setIfInBounds_toArray, List.set_cons_zero, List.set_cons_succ]
  refine take_dst 16 26 (.string (flagB p.vararg ++ WPut.pv p.params ++ WPut.pv p.regs ++ WPut.pv p.code.n)) rfl (by kernel_rfl) (by kernel_rfl) (by kernel_rfl) (fun _ _ _ h => h) (Or.inl ⟨by rfl, by intro wv hSv; (try dsimp only at hSv); go_simp; omega⟩) (hS.out y4 _ _ s4) rfl ?_
  try simp only [Act.put, List.setIfInBounds_toArray, List.set_cons_zero, List.set_cons_succ]
  refine wpAnyH_ready (rs := [17]) (by kernel_rfl) (by simp) ?_
  refine AllReadyH.cons rfl (fun K hK => ?_) AllReadyH.nil
  go_simp
  refine (put_st s4 _ (by have h1 := hb.out; have h2 := pre1_le p; unfold pre1 pvN at h2; simp only [ByteArray.size_append] at h2 ⊢; omega)).mono ?_
  rintro e y5 ⟨v1, rfl, s5⟩
  go_wp2_with fail
  refine hK.out _ _ (hS.out y5 _ _ s5) (fun _ => ?_)
  clear hK K
  try simp only [Act.put, List.setIfInBounds_toArray, List.set_cons_zero, List.set_cons_succ]
  refine wpAnyH_ready (rs := [18]) (by kernel_rfl) (by simp) ?_
  refine AllReadyH.cons rfl (fun K hK => ?_) AllReadyH.nil
  go_simp
  refine hK.out _ _ (hS.out y5 _ _ s5) (fun _ => ?_)
  clear hK K
  try simp only [Act.put, List.setIfInBounds_toArray, List.set_cons_zero, List.set_cons_succ]
  refine wpAnyH_done (by kernel_rfl) ?_ _
  have T1 : Hid (St (fun _ => False) w0 (.slice av B.size cv) y5 v1 (B ++ pre1 p)) := s5
  clear hS hH s1 s2 s3 s4 s5 z1 z2 z3 z4 S0'
  go_wp2_with fail
  go_loopw [0, 5] (fun o i wr => ∃ i' : Nat, i = .int .i64 (i' : Int) ∧ i' ≤ p.code.n ∧ Hid (St (fun _ => False) w0 (.slice av B.size cv) wr o (B ++ (pre1 p ++ cat (fun i => u4 (p.code.f i)) i'))))
    (fun _ i _ => p.code.n - (intOf i).toNat)
  case atStart => exact ⟨0, rfl, by omega, (by show St (fun _ => False) w0 (.slice av B.size cv) _ _ (B ++ (pre1 p ++ ByteArray.empty)); rw [ByteArray.append_empty]; exact T1.out)⟩
  case round =>
    obtain ⟨i', rfl, hin, hT⟩ := hrel
    obtain ⟨wz1, hwz⟩ : ∃ x, x = wr := ⟨_, rfl⟩
    subst hwz
    have cl := (hcell.out wz1 _ _ hT.out).2.2.2.1
    by_cases hlt : i' < p.code.n
    · have hii : (i' : Int) < (p.code.n : Int) := by omega
      have hsm : (i' : Int) + 1 ≤ 9223372036854775807 := by omega
      obtain ⟨bb, oo, rfl, hbb, hcc⟩ := arr_cells h3.out (by omega)
      replace hcc : Hid _ := hcc
      have hsz : Hid (B.size + ((pre1 p).size + (cat (fun i => u4 (p.code.f i)) i').size) + (u4 (p.code.f i')).size ≤ 70368744177664) := by
        have k1 := hb.out
        have k2 := cat_lt (fun i => u4 (p.code.f i)) hlt
        have k3 := pre1_le p
        unfold codeB at k3
        show _ ≤ _
        omega
      obtain ⟨hc0, hc1⟩ := hw.out.code i' hlt
      obtain ⟨m, hm⟩ : ∃ m : Nat, p.code.f i' = (m : Int) := Int.eq_ofNat_of_zero_le hc0
      have hS : Hid (∀ y v' X, St (fun _ => False) w0 (.slice av B.size cv) y v' X → (fun y => y.cell? ⟨w.heap.size, 3, none⟩ = some (.slice (some ⟨bb, oo, none⟩) p.code.n c3) ∧ y.cell? ⟨bb, oo + i', none⟩ = some (.int .u32 (p.code.f i'))) y) := fun y v' X hF => by
        have hd := hcc.out y (hlow.out y v' X hF) i' hlt
        exact ⟨(hcell.out y v' X hF).2.2.2.1, by simpa [iC] using hd 0 (by omega)⟩
      have sd := hT.out.drew
      obtain ⟨wd, hwd⟩ : ∃ x, x = wz1.drew := ⟨_, rfl⟩
      go_wp2_with fail
      refine wp_region_held_drew (S := (fun y => y.cell? ⟨w.heap.size, 3, none⟩ = some (.slice (some ⟨bb, oo, none⟩) p.code.n c3) ∧ y.cell? ⟨bb, oo + i', none⟩ = some (.int .u32 (p.code.f i')))) (by kernel_rfl) (hS.out _ _ _ sd) (fun hH => ?_)
      rw [← hwd] at sd hH ⊢
      clear hwd
      refine take_dst 0 35 (u0) rfl (by kernel_rfl) (by kernel_rfl) (by kernel_rfl) (fun _ _ _ h => h) (Or.inl ⟨by rfl, by intro wv hSv; (try dsimp only at hSv); go_simp⟩) hH rfl ?_
      try simp only [Act.put, List.setIfInBounds_toArray, List.set_cons_zero, List.set_cons_succ]
      refine take_dst 1 36 (.pointer (some ⟨w.heap.size, 3, none⟩)) rfl (by kernel_rfl) (by kernel_rfl) (by kernel_rfl) (fun _ _ _ h => h) (Or.inl ⟨by rfl, by intro wv hSv; (try dsimp only at hSv); go_simp⟩) hH rfl ?_
      try simp only [Act.put, List.setIfInBounds_toArray, List.set_cons_zero, List.set_cons_succ]
      refine take_dst 2 37 (.slice (some ⟨bb, oo, none⟩) p.code.n c3) rfl (by kernel_rfl) (by kernel_rfl) (by kernel_rfl) (fun _ _ _ h => h) (Or.inl ⟨by rfl, by intro wv hSv; (try dsimp only at hSv); go_simp⟩) hH rfl ?_
      try simp only [Act.put, List.setIfInBounds_toArray, List.set_cons_zero, List.set_cons_succ]
      refine take_dst 3 38 (.int .i64 (i' : Int)) rfl (by kernel_rfl) (by kernel_rfl) (by kernel_rfl) (fun _ _ _ h => h) (Or.inl ⟨by rfl, by intro wv hSv; (try dsimp only at hSv); go_simp⟩) hH rfl ?_
      try simp only [Act.put, List.setIfInBounds_toArray, List.set_cons_zero, List.set_cons_succ]
      refine take_dst 4 39 (.pointer (some ⟨bb, oo + i', none⟩)) rfl (by kernel_rfl) (by kernel_rfl) (by kernel_rfl) (fun _ _ _ h => h) (Or.inl ⟨by rfl, by intro wv hSv; (try dsimp only at hSv); go_simp⟩) hH rfl ?_
      try simp only [Act.put, List.setIfInBounds_toArray, List.set_cons_zero, List.set_cons_succ]
      refine take_dst 5 40 (.int .u32 (p.code.f i')) rfl (by kernel_rfl) (by kernel_rfl) (by kernel_rfl) (fun _ _ _ h => h) (Or.inl ⟨by rfl, by intro wv hSv; (try dsimp only at hSv); go_simp⟩) hH rfl ?_
      try simp only [Act.put, List.setIfInBounds_toArray, List.set_cons_zero, List.set_cons_succ]
      refine take_dst 6 41 (.int .u8 (p.code.f i' % 256)) rfl (by kernel_rfl) (by kernel_rfl) (by kernel_rfl) (fun _ _ _ h => h) (Or.inl ⟨by rfl, by intro wv hSv; (try dsimp only at hSv); go_simp; rw [IntKind.wrap_u8]⟩) hH rfl ?_
      try simp only [Act.put, List.setIfInBounds_toArray, List.set_cons_zero, List.set_cons_succ]
      refine take_dst 7 42 (.pointer (some ⟨w.heap.size, 3, none⟩)) rfl (by kernel_rfl) (by kernel_rfl) (by kernel_rfl) (fun _ _ _ h => h) (Or.inl ⟨by rfl, by intro wv hSv; (try dsimp only at hSv); go_simp⟩) hH rfl ?_
      try simp only [Act.put, List.setIfInBounds_toArray, List.set_cons_zero, List.set_cons_succ]
      refine take_dst 8 43 (.slice (some ⟨bb, oo, none⟩) p.code.n c3) rfl (by kernel_rfl) (by kernel_rfl) (by kernel_rfl) (fun _ _ _ h => h) (Or.inl ⟨by rfl, by intro wv hSv; (try dsimp only at hSv); go_simp⟩) hH rfl ?_
      try simp only [Act.put, List.setIfInBounds_toArray, List.set_cons_zero, List.set_cons_succ]
      refine take_dst 9 44 (.int .i64 (i' : Int)) rfl (by kernel_rfl) (by kernel_rfl) (by kernel_rfl) (fun _ _ _ h => h) (Or.inl ⟨by rfl, by intro wv hSv; (try dsimp only at hSv); go_simp⟩) hH rfl ?_
      try simp only [Act.put, List.setIfInBounds_toArray, List.set_cons_zero, List.set_cons_succ]
      refine take_dst 10 45 (.pointer (some ⟨bb, oo + i', none⟩)) rfl (by kernel_rfl) (by kernel_rfl) (by kernel_rfl) (fun _ _ _ h => h) (Or.inl ⟨by rfl, by intro wv hSv; (try dsimp only at hSv); go_simp⟩) hH rfl ?_
      try simp only [Act.put, List.setIfInBounds_toArray, List.set_cons_zero, List.set_cons_succ]
      refine take_dst 11 46 (.int .u32 (p.code.f i')) rfl (by kernel_rfl) (by kernel_rfl) (by kernel_rfl) (fun _ _ _ h => h) (Or.inl ⟨by rfl, by intro wv hSv; (try dsimp only at hSv); go_simp⟩) hH rfl ?_
      try simp only [Act.put, List.setIfInBounds_toArray, List.set_cons_zero, List.set_cons_succ]
      refine take_dst 12 47 (.int .u32 (p.code.f i' / 256)) rfl (by kernel_rfl) (by kernel_rfl) (by kernel_rfl) (fun _ _ _ h => h) (Or.inl ⟨by rfl, by intro wv hSv; (try dsimp only at hSv); go_simp; rw [IntKind.wrap_u32]; omega⟩) hH rfl ?_
      try simp only [Act.put, List.setIfInBounds_toArray, List.set_cons_zero, List.set_cons_succ]
      refine take_dst 13 48 (.int .u8 (p.code.f i' / 256 % 256)) rfl (by kernel_rfl) (by kernel_rfl) (by kernel_rfl) (fun _ _ _ h => h) (Or.inl ⟨by rfl, by intro wv hSv; (try dsimp only at hSv); go_simp; rw [IntKind.wrap_u8]⟩) hH rfl ?_
      try simp only [Act.put, List.setIfInBounds_toArray, List.set_cons_zero, List.set_cons_succ]
      refine take_dst 14 49 (.pointer (some ⟨w.heap.size, 3, none⟩)) rfl (by kernel_rfl) (by kernel_rfl) (by kernel_rfl) (fun _ _ _ h => h) (Or.inl ⟨by rfl, by intro wv hSv; (try dsimp only at hSv); go_simp⟩) hH rfl ?_
      try simp only [Act.put, List.setIfInBounds_toArray, List.set_cons_zero, List.set_cons_succ]
      refine take_dst 15 50 (.slice (some ⟨bb, oo, none⟩) p.code.n c3) rfl (by kernel_rfl) (by kernel_rfl) (by kernel_rfl) (fun _ _ _ h => h) (Or.inl ⟨by rfl, by intro wv hSv; (try dsimp only at hSv); go_simp⟩) hH rfl ?_
      try simp only [Act.put, List.setIfInBounds_toArray, List.set_cons_zero, List.set_cons_succ]
      refine take_dst 16 51 (.int .i64 (i' : Int)) rfl (by kernel_rfl) (by kernel_rfl) (by kernel_rfl) (fun _ _ _ h => h) (Or.inl ⟨by rfl, by intro wv hSv; (try dsimp only at hSv); go_simp⟩) hH rfl ?_
      try simp only [Act.put, List.setIfInBounds_toArray, List.set_cons_zero, List.set_cons_succ]
      refine take_dst 17 52 (.pointer (some ⟨bb, oo + i', none⟩)) rfl (by kernel_rfl) (by kernel_rfl) (by kernel_rfl) (fun _ _ _ h => h) (Or.inl ⟨by rfl, by intro wv hSv; (try dsimp only at hSv); go_simp⟩) hH rfl ?_
      try simp only [Act.put, List.setIfInBounds_toArray, List.set_cons_zero, List.set_cons_succ]
      refine take_dst 18 53 (.int .u32 (p.code.f i')) rfl (by kernel_rfl) (by kernel_rfl) (by kernel_rfl) (fun _ _ _ h => h) (Or.inl ⟨by rfl, by intro wv hSv; (try dsimp only at hSv); go_simp⟩) hH rfl ?_
      try simp only [Act.put, List.setIfInBounds_toArray, List.set_cons_zero, List.set_cons_succ]
      refine take_dst 19 54 (.int .u32 (p.code.f i' / 65536)) rfl (by kernel_rfl) (by kernel_rfl) (by kernel_rfl) (fun _ _ _ h => h) (Or.inl ⟨by rfl, by intro wv hSv; (try dsimp only at hSv); go_simp; rw [IntKind.wrap_u32]; omega⟩) hH rfl ?_
      try simp only [Act.put, List.setIfInBounds_toArray, List.set_cons_zero, List.set_cons_succ]
      refine take_dst 20 55 (.int .u8 (p.code.f i' / 65536 % 256)) rfl (by kernel_rfl) (by kernel_rfl) (by kernel_rfl) (fun _ _ _ h => h) (Or.inl ⟨by rfl, by intro wv hSv; (try dsimp only at hSv); go_simp; rw [IntKind.wrap_u8]⟩) hH rfl ?_
      try simp only [Act.put, List.setIfInBounds_toArray, List.set_cons_zero, List.set_cons_succ]
      refine take_dst 21 56 (.pointer (some ⟨w.heap.size, 3, none⟩)) rfl (by kernel_rfl) (by kernel_rfl) (by kernel_rfl) (fun _ _ _ h => h) (Or.inl ⟨by rfl, by intro wv hSv; (try dsimp only at hSv); go_simp⟩) hH rfl ?_
      try simp only [Act.put, List.setIfInBounds_toArray, List.set_cons_zero, List.set_cons_succ]
      refine take_dst 22 57 (.slice (some ⟨bb, oo, none⟩) p.code.n c3) rfl (by kernel_rfl) (by kernel_rfl) (by kernel_rfl) (fun _ _ _ h => h) (Or.inl ⟨by rfl, by intro wv hSv; (try dsimp only at hSv); go_simp⟩) hH rfl ?_
      try simp only [Act.put, List.setIfInBounds_toArray, List.set_cons_zero, List.set_cons_succ]
      refine take_dst 23 58 (.int .i64 (i' : Int)) rfl (by kernel_rfl) (by kernel_rfl) (by kernel_rfl) (fun _ _ _ h => h) (Or.inl ⟨by rfl, by intro wv hSv; (try dsimp only at hSv); go_simp⟩) hH rfl ?_
      try simp only [Act.put, List.setIfInBounds_toArray, List.set_cons_zero, List.set_cons_succ]
      refine take_dst 24 59 (.pointer (some ⟨bb, oo + i', none⟩)) rfl (by kernel_rfl) (by kernel_rfl) (by kernel_rfl) (fun _ _ _ h => h) (Or.inl ⟨by rfl, by intro wv hSv; (try dsimp only at hSv); go_simp⟩) hH rfl ?_
      try simp only [Act.put, List.setIfInBounds_toArray, List.set_cons_zero, List.set_cons_succ]
      refine take_dst 25 60 (.int .u32 (p.code.f i')) rfl (by kernel_rfl) (by kernel_rfl) (by kernel_rfl) (fun _ _ _ h => h) (Or.inl ⟨by rfl, by intro wv hSv; (try dsimp only at hSv); go_simp⟩) hH rfl ?_
      try simp only [Act.put, List.setIfInBounds_toArray, List.set_cons_zero, List.set_cons_succ]
      refine take_dst 26 61 (.int .u32 (p.code.f i' / 16777216)) rfl (by kernel_rfl) (by kernel_rfl) (by kernel_rfl) (fun _ _ _ h => h) (Or.inl ⟨by rfl, by intro wv hSv; (try dsimp only at hSv); go_simp; rw [IntKind.wrap_u32]; omega⟩) hH rfl ?_
      try simp only [Act.put, List.setIfInBounds_toArray, List.set_cons_zero, List.set_cons_succ]
      refine take_dst 27 62 (.int .u8 (p.code.f i' / 16777216 % 256)) rfl (by kernel_rfl) (by kernel_rfl) (by kernel_rfl) (fun _ _ _ h => h) (Or.inl ⟨by rfl, by intro wv hSv; (try dsimp only at hSv); go_simp; rw [IntKind.wrap_u8]⟩) hH rfl ?_
      try simp only [Act.put, List.setIfInBounds_toArray, List.set_cons_zero, List.set_cons_succ]
      clear hm hc0 hc1
      have sA : St (fun _ => False) w0 (.slice av B.size cv) (wd.alloc (.cells #[.int .u8 (p.code.f i' % 256), .int .u8 (p.code.f i' / 256 % 256), .int .u8 (p.code.f i' / 65536 % 256), .int .u8 (p.code.f i' / 16777216 % 256)] 5)) u0 _ := sd.later (by go_grown)
      refine wpAnyH_ready (rs := [28]) (by kernel_rfl) (by simp) ?_
      refine AllReadyH.cons rfl (fun K hK => ?_) AllReadyH.nil
      go_simp
      refine hK.out _ _ (hS.out _ _ _ sA) (fun _ => ?_)
      clear hK K
      try simp only [Act.put, List.setIfInBounds_toArray, List.set_cons_zero, List.set_cons_succ]
      obtain ⟨i0, hi, hz0, hz1, hz2⟩ := info_parts info8
      refine wpAnyH_ready (rs := [29]) (by kernel_rfl) (by simp) ?_
      refine AllReadyH.cons rfl (fun K hK => ?_) AllReadyH.nil
      refine step_append_buf_news _ rfl (.tmp 35) (.tmp 63) 36 rfl 5 i0 Try.underlying36 hi hz0 hz1 hz2 _ _ rfl sA.buf (u4 (p.code.f i')) ⟨wd.heap.size, 0, none⟩ 4 4 rfl (u4_size _) (by omega) (by rw [u4_cells]; exact World.news_of_block (heap_alloc_new _ _)) (by have := hsz.out; simp only [ByteArray.size_append] at this ⊢; omega) ?_
      intro v' w1 hB1 hg ho
      have s1 := sA.next hB1 (Fr.of_grown _ hg ho)
      refine hK.out _ _ (hS.out _ _ _ s1) (fun _ => ?_)
      clear hK K hi hz0 hz1 hz2
      try simp only [Act.put, List.setIfInBounds_toArray, List.set_cons_zero, List.set_cons_succ]
      refine wpAnyH_ready (rs := [30]) (by kernel_rfl) (by simp) ?_
      refine AllReadyH.cons rfl (fun K hK => ?_) AllReadyH.nil
      go_simp
      refine hK.out _ _ (hS.out _ _ _ s1) (fun _ => ?_)
      clear hK K
      try simp only [Act.put, List.setIfInBounds_toArray, List.set_cons_zero, List.set_cons_succ]
      refine wpAnyH_done (by kernel_rfl) ?_ _
      have hT1 : Hid (St (fun _ => False) w0 (.slice av B.size cv) w1 v' (B ++ (pre1 p ++ cat (fun i => u4 (p.code.f i)) (i' + 1)))) := by
        show St (fun _ => False) w0 (.slice av B.size cv) w1 v' (B ++ (pre1 p ++ (cat (fun i => u4 (p.code.f i)) i' ++ u4 (p.code.f i'))))
        have := s1
        simp only [ByteArray.append_assoc] at this ⊢
        exact this
      clear hS hH sd sA s1 hB1 hg ho hT hcc hw hb hsz
      go_wp2_with fail
      go_roundw
      case rel => exact ⟨i' + 1, by go_num, by omega, hT1.out⟩
      case measure => simp [intOf]; omega
    · obtain rfl : i' = p.code.n := by omega
      have hTe : Hid (St (fun _ => False) w0 (.slice av B.size cv) wz1 u0 (B ++ (pre1 p ++ cat (fun i => u4 (p.code.f i)) p.code.n))) := hT.out
      clear hT hin hlt
      have cl2 := (hcell.out wz1 _ _ hTe.out).2.2.2.2.1
      go_wp2_with fail
      refine (pv_st hTe.out _).mono ?_
      rintro e ya ⟨rfl, sa⟩
      clear cl cl2
      go_wp2_with fail
      refine (put_st sa _ (by have k1 := hb.out; have k2 := pre1_le p; simp only [ByteArray.size_append, pv_nat] at k2 ⊢; unfold codeB at k2; omega)).mono ?_
      rintro e y3 ⟨v3, rfl, sb⟩
      have T3 : Hid (St (fun _ => False) w0 (.slice av B.size cv) y3 v3 (B ++ pre3 p)) := by
        show St (fun _ => False) w0 (.slice av B.size cv) y3 v3 _
        unfold pre3
        rw [pv_nat] at sb
        unfold codeB
        simp only [ByteArray.append_assoc] at sb ⊢
        exact sb
      clear sa sb hTe
      go_wp2_with fail
      go_loopw [0, 6] (fun o i wr => ∃ i' : Nat, i = .int .i64 (i' : Int) ∧ i' ≤ p.consts.n ∧ Hid (St (fun _ => False) w0 (.slice av B.size cv) wr o (B ++ (pre3 p ++ cat (fun i => constB (p.consts.f i)) i'))))
        (fun _ i _ => p.consts.n - (intOf i).toNat)
      case atStart => exact ⟨0, rfl, by omega, (by show St (fun _ => False) w0 (.slice av B.size cv) _ _ (B ++ (pre3 p ++ ByteArray.empty)); rw [ByteArray.append_empty]; exact T3.out)⟩
      case round =>
        obtain ⟨i', rfl, hin, hT⟩ := hrel
        obtain ⟨wz2, hwz⟩ : ∃ x, x = wr := ⟨_, rfl⟩
        subst hwz
        have cl := (hcell.out wz2 _ _ hT.out).2.2.2.2.1
        by_cases hlt : i' < p.consts.n
        · have hii : (i' : Int) < (p.consts.n : Int) := by omega
          have hsm : (i' : Int) + 1 ≤ 9223372036854775807 := by omega
          obtain ⟨bb, oo, rfl, hbb, hcc⟩ := arr_cells h4.out (by omega)
          replace hcc : Hid _ := hcc
          have hsz : Hid (B.size + ((pre3 p).size + (cat (fun i => constB (p.consts.f i)) i').size) + (constB (p.consts.f i')).size ≤ 70368744177664) := by
            have k1 := hb.out
            have k2 := cat_lt (fun i => constB (p.consts.f i)) hlt
            have k3 := pre3_le p
            unfold constsB at k3
            show _ ≤ _
            omega
          have hd := hcc.out wz2 (hlow.out wz2 _ _ hT.out) i' hlt
          have d0 : wz2.cell? ⟨bb, oo + i' * 3, none⟩ = some (.int .i64 (p.consts.f i').kind) := by simpa [vC] using hd 0 (by omega)
          have d1 : wz2.cell? ⟨bb, oo + i' * 3 + 1, none⟩ = some (.int .i64 (p.consts.f i').num) := by simpa [vC] using hd 1 (by omega)
          have d2 : wz2.cell? ⟨bb, oo + i' * 3 + 2, none⟩ = some (.string (p.consts.f i').text) := by simpa [vC] using hd 2 (by omega)
          go_wp2_with fail
          refine (const_st hT.out (p.consts.f i') (hw.out.consts i' hlt)).mono ?_
          rintro e ya ⟨rfl, sa⟩
          go_wp2_with fail
          refine (put_st sa _ (by have := hsz.out; simp only [ByteArray.size_append] at this ⊢; omega)).mono ?_
          rintro e yb ⟨vb, rfl, sb⟩
          have hT1 : Hid (St (fun _ => False) w0 (.slice av B.size cv) yb vb (B ++ (pre3 p ++ cat (fun i => constB (p.consts.f i)) (i' + 1)))) := by
            show St (fun _ => False) w0 (.slice av B.size cv) yb vb (B ++ (pre3 p ++ (cat (fun i => constB (p.consts.f i)) i' ++ constB (p.consts.f i'))))
            have := sb
            simp only [ByteArray.append_assoc] at this ⊢
            exact this
          clear sa sb hT hcc hw hb hsz hd cl
          go_wp2_with fail
          go_roundw
          case rel => exact ⟨i' + 1, by go_num, by omega, hT1.out⟩
          case measure => simp [intOf]; omega
        · obtain rfl : i' = p.consts.n := by omega
          have hTe : Hid (St (fun _ => False) w0 (.slice av B.size cv) wz2 u0 (B ++ (pre3 p ++ cat (fun i => constB (p.consts.f i)) p.consts.n))) := hT.out
          clear hT hin hlt
          have cl2 := (hcell.out wz2 _ _ hTe.out).2.2.2.2.2.1
          go_wp2_with fail
          refine (pv_st hTe.out _).mono ?_
          rintro e ya ⟨rfl, sa⟩
          clear cl cl2
          go_wp2_with fail
          refine (put_st sa _ (by have k1 := hb.out; have k2 := pre3_le p; simp only [ByteArray.size_append, pv_nat] at k2 ⊢; unfold constsB at k2; omega)).mono ?_
          rintro e y5 ⟨v5, rfl, sb⟩
          have T5 : Hid (St (fun _ => False) w0 (.slice av B.size cv) y5 v5 (B ++ pre5 p)) := by
            show St (fun _ => False) w0 (.slice av B.size cv) y5 v5 _
            unfold pre5
            rw [pv_nat] at sb
            unfold constsB
            simp only [ByteArray.append_assoc] at sb ⊢
            exact sb
          clear sa sb hTe
          go_wp2_with fail
          go_loopw [0, 7] (fun o i wr => ∃ i' : Nat, i = .int .i64 (i' : Int) ∧ i' ≤ p.ups.n ∧ Hid (St (fun _ => False) w0 (.slice av B.size cv) wr o (B ++ (pre5 p ++ cat (fun i => upB (p.ups.f i)) i'))))
            (fun _ i _ => p.ups.n - (intOf i).toNat)
          case atStart => exact ⟨0, rfl, by omega, (by show St (fun _ => False) w0 (.slice av B.size cv) _ _ (B ++ (pre5 p ++ ByteArray.empty)); rw [ByteArray.append_empty]; exact T5.out)⟩
          case round =>
            obtain ⟨i', rfl, hin, hT⟩ := hrel
            obtain ⟨wz3, hwz⟩ : ∃ x, x = wr := ⟨_, rfl⟩
            subst hwz
            have cl := (hcell.out wz3 _ _ hT.out).2.2.2.2.2.1
            by_cases hlt : i' < p.ups.n
            · have hii : (i' : Int) < (p.ups.n : Int) := by omega
              have hsm : (i' : Int) + 1 ≤ 9223372036854775807 := by omega
              obtain ⟨bb, oo, rfl, hbb, hcc⟩ := arr_cells h5.out (by omega)
              replace hcc : Hid _ := hcc
              have hsz : Hid (B.size + ((pre5 p).size + (cat (fun i => upB (p.ups.f i)) i').size) + (upB (p.ups.f i')).size ≤ 70368744177664) := by
                have k1 := hb.out
                have k2 := cat_lt (fun i => upB (p.ups.f i)) hlt
                have k3 := pre5_le p
                unfold upsB at k3
                show _ ≤ _
                omega
              have hS : Hid (∀ y v' X, St (fun _ => False) w0 (.slice av B.size cv) y v' X → (fun y => y.cell? ⟨w.heap.size, 5, none⟩ = some (.slice (some ⟨bb, oo, none⟩) p.ups.n c5) ∧ y.cell? ⟨bb, oo + i' * 2, none⟩ = some (.bool (p.ups.f i').stack) ∧ y.cell? ⟨bb, oo + i' * 2 + 1, none⟩ = some (.int .i64 (p.ups.f i').index)) y) := fun y v' X hF => by
                have hd := hcc.out y (hlow.out y v' X hF) i' hlt
                exact ⟨(hcell.out y v' X hF).2.2.2.2.2.1, by simpa [uC] using hd 0 (by omega), by simpa [uC] using hd 1 (by omega)⟩
              have sd := hT.out.drew
              obtain ⟨wd, hwd⟩ : ∃ x, x = wz3.drew := ⟨_, rfl⟩
              go_wp2_with fail
              refine wp_region_held_drew (S := (fun y => y.cell? ⟨w.heap.size, 5, none⟩ = some (.slice (some ⟨bb, oo, none⟩) p.ups.n c5) ∧ y.cell? ⟨bb, oo + i' * 2, none⟩ = some (.bool (p.ups.f i').stack) ∧ y.cell? ⟨bb, oo + i' * 2 + 1, none⟩ = some (.int .i64 (p.ups.f i').index))) (by kernel_rfl) (hS.out _ _ _ sd) (fun hH => ?_)
              rw [← hwd] at sd hH ⊢
              clear hwd
              have z1 := flagB_size (p.ups.f i').stack
              have z2 := pv_size (p.ups.f i').index
              refine take_dst 0 99 (u0) rfl (by kernel_rfl) (by kernel_rfl) (by kernel_rfl) (fun _ _ _ h => h) (Or.inl ⟨by rfl, by intro wv hSv; (try dsimp only at hSv); go_simp⟩) hH rfl ?_
              try simp only [Act.put, List.setIfInBounds_toArray, List.set_cons_zero, List.set_cons_succ]
              refine take_dst 1 100 (.pointer (some ⟨w.heap.size, 5, none⟩)) rfl (by kernel_rfl) (by kernel_rfl) (by kernel_rfl) (fun _ _ _ h => h) (Or.inl ⟨by rfl, by intro wv hSv; (try dsimp only at hSv); go_simp⟩) hH rfl ?_
              try simp only [Act.put, List.setIfInBounds_toArray, List.set_cons_zero, List.set_cons_succ]
              refine take_dst 2 101 (.slice (some ⟨bb, oo, none⟩) p.ups.n c5) rfl (by kernel_rfl) (by kernel_rfl) (by kernel_rfl) (fun _ _ _ h => h) (Or.inl ⟨by rfl, by intro wv hSv; (try dsimp only at hSv); go_simp⟩) hH rfl ?_
              try simp only [Act.put, List.setIfInBounds_toArray, List.set_cons_zero, List.set_cons_succ]
              refine take_dst 3 102 (.int .i64 (i' : Int)) rfl (by kernel_rfl) (by kernel_rfl) (by kernel_rfl) (fun _ _ _ h => h) (Or.inl ⟨by rfl, by intro wv hSv; (try dsimp only at hSv); go_simp⟩) hH rfl ?_
              try simp only [Act.put, List.setIfInBounds_toArray, List.set_cons_zero, List.set_cons_succ]
              refine take_dst 4 103 (.pointer (some ⟨bb, oo + i' * 2, none⟩)) rfl (by kernel_rfl) (by kernel_rfl) (by kernel_rfl) (fun _ _ _ h => h) (Or.inl ⟨by rfl, by intro wv hSv; (try dsimp only at hSv); go_simp⟩) hH rfl ?_
              try simp only [Act.put, List.setIfInBounds_toArray, List.set_cons_zero, List.set_cons_succ]
              refine take_dst 5 104 (.pointer (some ⟨bb, oo + i' * 2, none⟩)) rfl (by kernel_rfl) (by kernel_rfl) (by kernel_rfl) (fun _ _ _ h => h) (Or.inl ⟨by rfl, by intro wv hSv; (try dsimp only at hSv); go_simp⟩) hH rfl ?_
              try simp only [Act.put, List.setIfInBounds_toArray, List.set_cons_zero, List.set_cons_succ]
              refine take_dst 6 105 (.bool (p.ups.f i').stack) rfl (by kernel_rfl) (by kernel_rfl) (by kernel_rfl) (fun _ _ _ h => h) (Or.inl ⟨by rfl, by intro wv hSv; (try dsimp only at hSv); go_simp⟩) hH rfl ?_
              try simp only [Act.put, List.setIfInBounds_toArray, List.set_cons_zero, List.set_cons_succ]
              refine take_dst 8 107 (.pointer (some ⟨w.heap.size, 5, none⟩)) rfl (by kernel_rfl) (by kernel_rfl) (by kernel_rfl) (fun _ _ _ h => h) (Or.inl ⟨by rfl, by intro wv hSv; (try dsimp only at hSv); go_simp⟩) hH rfl ?_
              try simp only [Act.put, List.setIfInBounds_toArray, List.set_cons_zero, List.set_cons_succ]
              refine take_dst 9 108 (.slice (some ⟨bb, oo, none⟩) p.ups.n c5) rfl (by kernel_rfl) (by kernel_rfl) (by kernel_rfl) (fun _ _ _ h => h) (Or.inl ⟨by rfl, by intro wv hSv; (try dsimp only at hSv); go_simp⟩) hH rfl ?_
              try simp only [Act.put, List.setIfInBounds_toArray, List.set_cons_zero, List.set_cons_succ]
              refine take_dst 10 109 (.int .i64 (i' : Int)) rfl (by kernel_rfl) (by kernel_rfl) (by kernel_rfl) (fun _ _ _ h => h) (Or.inl ⟨by rfl, by intro wv hSv; (try dsimp only at hSv); go_simp⟩) hH rfl ?_
              try simp only [Act.put, List.setIfInBounds_toArray, List.set_cons_zero, List.set_cons_succ]
              refine take_dst 11 110 (.pointer (some ⟨bb, oo + i' * 2, none⟩)) rfl (by kernel_rfl) (by kernel_rfl) (by kernel_rfl) (fun _ _ _ h => h) (Or.inl ⟨by rfl, by intro wv hSv; (try dsimp only at hSv); go_simp⟩) hH rfl ?_
              try simp only [Act.put, List.setIfInBounds_toArray, List.set_cons_zero, List.set_cons_succ]
              refine take_dst 12 111 (.pointer (some ⟨bb, oo + i' * 2 + 1, none⟩)) rfl (by kernel_rfl) (by kernel_rfl) (by kernel_rfl) (fun _ _ _ h => h) (Or.inl ⟨by rfl, by intro wv hSv; (try dsimp only at hSv); go_simp⟩) hH rfl ?_
              try simp only [Act.put, List.setIfInBounds_toArray, List.set_cons_zero, List.set_cons_succ]
              refine take_dst 13 112 (.int .i64 (p.ups.f i').index) rfl (by kernel_rfl) (by kernel_rfl) (by kernel_rfl) (fun _ _ _ h => h) (Or.inl ⟨by rfl, by intro wv hSv; (try dsimp only at hSv); go_simp⟩) hH rfl ?_
              try simp only [Act.put, List.setIfInBounds_toArray, List.set_cons_zero, List.set_cons_succ]
              refine wpAnyH_ready (rs := [7]) (by kernel_rfl) (by simp) ?_
              refine AllReadyH.cons rfl (fun K hK => ?_) AllReadyH.nil
              go_simp
              refine (flag_st sd (p.ups.f i').stack).mono ?_
              rintro e x1 ⟨rfl, s1⟩
              go_wp2_with fail
              refine hK.out _ _ (hS.out x1 _ _ s1) (fun _ => ?_)
              clear hK K
              try simp only [Act.put, List.setIfInBounds_toArray, List.set_cons_zero, List.set_cons_succ]
              refine wpAnyH_ready (rs := [14]) (by kernel_rfl) (by simp) ?_
              refine AllReadyH.cons rfl (fun K hK => ?_) AllReadyH.nil
              go_simp
              refine (pv_st s1 (p.ups.f i').index).mono ?_
              rintro e x2 ⟨rfl, s2⟩
              go_wp2_with fail
              refine hK.out _ _ (hS.out x2 _ _ s2) (fun _ => ?_)
              clear hK K
              try simp only [Act.put, List.setIfInBounds_toArray, List.set_cons_zero, List.set_cons_succ]
              refine take_dst 15 114 (.string (upB (p.ups.f i'))) rfl (by kernel_rfl) (by kernel_rfl) (by kernel_rfl) (fun _ _ _ h => h) (Or.inl ⟨by rfl, by intro wv hSv; (try dsimp only at hSv); unfold upB; go_simp; omega⟩) (hS.out x2 _ _ s2) rfl ?_
              try simp only [Act.put, List.setIfInBounds_toArray, List.set_cons_zero, List.set_cons_succ]
              refine wpAnyH_ready (rs := [16]) (by kernel_rfl) (by simp) ?_
              refine AllReadyH.cons rfl (fun K hK => ?_) AllReadyH.nil
              go_simp
              refine (put_st s2 _ (by have := hsz.out; simp only [ByteArray.size_append] at this ⊢; omega)).mono ?_
              rintro e x3 ⟨v3, rfl, s3⟩
              go_wp2_with fail
              refine hK.out _ _ (hS.out x3 _ _ s3) (fun _ => ?_)
              clear hK K
              try simp only [Act.put, List.setIfInBounds_toArray, List.set_cons_zero, List.set_cons_succ]
              refine wpAnyH_ready (rs := [17]) (by kernel_rfl) (by simp) ?_
              refine AllReadyH.cons rfl (fun K hK => ?_) AllReadyH.nil
              go_simp
              refine hK.out _ _ (hS.out x3 _ _ s3) (fun _ => ?_)
              clear hK K
              try simp only [Act.put, List.setIfInBounds_toArray, List.set_cons_zero, List.set_cons_succ]
              refine wpAnyH_done (by kernel_rfl) ?_ _
              have hT1 : Hid (St (fun _ => False) w0 (.slice av B.size cv) x3 v3 (B ++ (pre5 p ++ cat (fun i => upB (p.ups.f i)) (i' + 1)))) := by
                show St (fun _ => False) w0 (.slice av B.size cv) x3 v3 (B ++ (pre5 p ++ (cat (fun i => upB (p.ups.f i)) i' ++ upB (p.ups.f i'))))
                have := s3
                simp only [ByteArray.append_assoc] at this ⊢
                exact this
              clear hS hH sd s1 s2 s3 hT hcc hw hb hsz z1 z2
              go_wp2_with fail
              go_roundw
              case rel => exact ⟨i' + 1, by go_num, by omega, hT1.out⟩
              case measure => simp [intOf]; omega
            · obtain rfl : i' = p.ups.n := by omega
              have hTe : Hid (St (fun _ => False) w0 (.slice av B.size cv) wz3 u0 (B ++ (pre5 p ++ cat (fun i => upB (p.ups.f i)) p.ups.n))) := hT.out
              clear hT hin hlt
              have cl2 := (hcell.out wz3 _ _ hTe.out).2.2.2.2.2.2.1
              go_wp2_with fail
              refine (pv_st hTe.out _).mono ?_
              rintro e ya ⟨rfl, sa⟩
              clear cl cl2
              go_wp2_with fail
              refine (put_st sa _ (by have k1 := hb.out; have k2 := pre5_le p; simp only [ByteArray.size_append] at k2 ⊢; unfold upsB at k2; omega)).mono ?_
              rintro e y7 ⟨v7, rfl, sb⟩
              have T7 : Hid (St (fun _ => False) w0 (.slice av B.size cv) y7 v7 (B ++ pre7 p)) := by
                show St (fun _ => False) w0 (.slice av B.size cv) y7 v7 _
                unfold pre7 upsB
                simp only [ByteArray.append_assoc] at sb ⊢
                exact sb
              clear sa sb hTe h3 h4 h5
              obtain ⟨e0, e1, e2, e3, e4, e5, e6, e7, e8, e9⟩ := hcell.out y7 _ _ T7.out
              go_wp2_with fail
              have hbr := l3Bare_in p o3 o4 o5 o8 o9 c3 c4 c5 c8 c9 y7
              unfold pAgg at hbr
              refine hbr.mono ?_
              rintro e y8 ⟨⟨r, rfl, hr⟩, b8⟩
              have T8 : Hid (St (fun _ => False) w0 (.slice av B.size cv) y8 v7 (B ++ pre7 p)) := T7.out.later b8
              clear T7 b8 hbr e0 e1 e2 e3 e4 e5 e6 e7 e8 e9
              obtain rfl | rfl : r = true ∨ r = false := by cases r <;> simp
              · have hbare : Bare p := hr.1 rfl
                obtain ⟨i0, hi, hz0, hz1, hz2⟩ := info_parts info8
                clear hr
                go_wp2_with (at_builtin; refine wpList_append_buf_news _ rfl (.tmp 123) (.tmp 124) 36 rfl 5 i0 Try.underlying36 hi hz0 hz1 hz2 _ (B ++ pre7 p) rfl (T8.out.buf.keep ?c0) (flagB false) ⟨y8.heap.size, 0, none⟩ 1 1 rfl (flagB_size _) (by omega) ?c1 ?c2 ?_)
                case c0 => exact fun k hk => Below.heap_alloc _ _ _ (T8.out.buf.lt k hk)
                case c1 => exact cell_one_new _ _ _
                case c2 => have k1 := hb.out; have k2 := protoB_bare hbare; rw [k2] at k1; simp only [ByteArray.size_append] at k1 ⊢; omega
                intro v' w1 hB1 hg ho
                have hF : Hid (Fr (fun _ => False) w (.slice av B.size cv) w1 v') := Fr.after hbw.out (T8.out.fr.trans (Fr.after (by go_grown) (Fr.of_grown _ hg (by simpa using ho))))
                have hB2 : Hid (Buf w1 5 v' (B ++ protoB p)) := by
                  show Buf _ _ _ _
                  rw [protoB_bare hbare, ← ByteArray.append_assoc]
                  exact hB1
                clear hB1 hg ho hi hz0 hz1 hz2 T8
                go_wp2_with fail
                go_ret
                exact ⟨_, rfl, hB2.out, hF.out⟩
              · have hbare : ¬ Bare p := fun h => by simpa using hr.2 h
                clear hr
                have hS : Hid (∀ y v' X, St (fun _ => False) w0 (.slice av B.size cv) y v' X → (fun y => y.cell? ⟨w.heap.size, 7, none⟩ = some (.string p.name) ∧ y.cell? ⟨w.heap.size, 8, none⟩ = some (.slice o8 p.lines.n c8)) y) := fun y v' X hF => by
                  have hc := hcell.out y v' X hF
                  exact ⟨hc.2.2.2.2.2.2.2.1, hc.2.2.2.2.2.2.2.2.1⟩
                have z1 := sizedB_size p.name
                have z2 := pv_size p.lines.n
                have z3 := hw.out.name
                go_wp2_with fail
                refine wp_region_held_drew (S := (fun y => y.cell? ⟨w.heap.size, 7, none⟩ = some (.string p.name) ∧ y.cell? ⟨w.heap.size, 8, none⟩ = some (.slice o8 p.lines.n c8))) (by kernel_rfl) (hS.out _ _ _ T8.out.drew) (fun hH => ?_)
                refine take_dst 0 126 (v7) rfl (by kernel_rfl) (by kernel_rfl) (by kernel_rfl) (fun _ _ _ h => h) (Or.inl ⟨by rfl, by intro wv hSv; (try dsimp only at hSv); go_simp⟩) hH rfl ?_
                try simp only [Act.put, List.setIfInBounds_toArray, List.set_cons_zero, List.set_cons_succ]
                refine take_dst 1 127 (.pointer (some ⟨w.heap.size, 7, none⟩)) rfl (by kernel_rfl) (by kernel_rfl) (by kernel_rfl) (fun _ _ _ h => h) (Or.inl ⟨by rfl, by intro wv hSv; (try dsimp only at hSv); go_simp⟩) hH rfl ?_
                try simp only [Act.put, List.setIfInBounds_toArray, List.set_cons_zero, List.set_cons_succ]
                refine take_dst 2 128 (.string p.name) rfl (by kernel_rfl) (by kernel_rfl) (by kernel_rfl) (fun _ _ _ h => h) (Or.inl ⟨by rfl, by intro wv hSv; (try dsimp only at hSv); go_simp⟩) hH rfl ?_
                try simp only [Act.put, List.setIfInBounds_toArray, List.set_cons_zero, List.set_cons_succ]
                refine take_dst 5 131 (.pointer (some ⟨w.heap.size, 8, none⟩)) rfl (by kernel_rfl) (by kernel_rfl) (by kernel_rfl) (fun _ _ _ h => h) (Or.inl ⟨by rfl, by intro wv hSv; (try dsimp only at hSv); go_simp⟩) hH rfl ?_
                try simp only [Act.put, List.setIfInBounds_toArray, List.set_cons_zero, List.set_cons_succ]
                refine take_dst 6 132 (.slice o8 p.lines.n c8) rfl (by kernel_rfl) (by kernel_rfl) (by kernel_rfl) (fun _ _ _ h => h) (Or.inl ⟨by rfl, by intro wv hSv; (try dsimp only at hSv); go_simp⟩) hH rfl ?_
                try simp only [Act.put, List.setIfInBounds_toArray, List.set_cons_zero, List.set_cons_succ]
                refine take_dst 7 133 (.int .i64 p.lines.n) rfl (by kernel_rfl) (by kernel_rfl) (by kernel_rfl) (fun _ _ _ h => h) (Or.inl ⟨by rfl, by intro wv hSv; (try dsimp only at hSv); go_simp⟩) hH rfl ?_
                try simp only [Act.put, List.setIfInBounds_toArray, List.set_cons_zero, List.set_cons_succ]
                refine wpAnyH_ready (rs := [3]) (by kernel_rfl) (by simp) ?_
                refine AllReadyH.cons rfl (fun K hK => ?_) AllReadyH.nil
                go_simp
                refine (sized_st T8.out.drew p.name hw.out.name).mono ?_
                rintro e x1 ⟨rfl, s1⟩
                go_wp2_with fail
                refine hK.out _ _ (hS.out x1 _ _ s1) (fun _ => ?_)
                clear hK K
                try simp only [Act.put, List.setIfInBounds_toArray, List.set_cons_zero, List.set_cons_succ]
                refine take_dst 4 130 (.string ((⟨#[1]⟩ : ByteArray) ++ sizedB p.name)) rfl (by kernel_rfl) (by kernel_rfl) (by kernel_rfl) (fun _ _ _ h => h) (Or.inl ⟨by rfl, by intro wv hSv; (try dsimp only at hSv); go_simp; omega⟩) (hS.out x1 _ _ s1) rfl ?_
                try simp only [Act.put, List.setIfInBounds_toArray, List.set_cons_zero, List.set_cons_succ]
                refine wpAnyH_ready (rs := [8]) (by kernel_rfl) (by simp) ?_
                refine AllReadyH.cons rfl (fun K hK => ?_) AllReadyH.nil
                go_simp
                refine (pv_st s1 p.lines.n).mono ?_
                rintro e x2 ⟨rfl, s2⟩
                go_wp2_with fail
                refine hK.out _ _ (hS.out x2 _ _ s2) (fun _ => ?_)
                clear hK K
                try simp only [Act.put, List.setIfInBounds_toArray, List.set_cons_zero, List.set_cons_succ]
                refine take_dst 9 135 (.string ((⟨#[1]⟩ : ByteArray) ++ sizedB p.name ++ WPut.pv p.lines.n)) rfl (by kernel_rfl) (by kernel_rfl) (by kernel_rfl) (fun _ _ _ h => h) (Or.inl ⟨by rfl, by intro wv hSv; (try dsimp only at hSv); go_simp; omega⟩) (hS.out x2 _ _ s2) rfl ?_
                try simp only [Act.put, List.setIfInBounds_toArray, List.set_cons_zero, List.set_cons_succ]
                refine wpAnyH_ready (rs := [10]) (by kernel_rfl) (by simp) ?_
                refine AllReadyH.cons rfl (fun K hK => ?_) AllReadyH.nil
                go_simp
                refine (put_st s2 _ (by have k1 := hb.out; have k2 := pre8_le hbare; unfold pre8 at k2; rw [flag_true, pv_nat]; simp only [ByteArray.size_append] at k2 ⊢; omega)).mono ?_
                rintro e x3 ⟨v8, rfl, s3⟩
                go_wp2_with fail
                refine hK.out _ _ (hS.out x3 _ _ s3) (fun _ => ?_)
                clear hK K
                try simp only [Act.put, List.setIfInBounds_toArray, List.set_cons_zero, List.set_cons_succ]
                refine wpAnyH_ready (rs := [11]) (by kernel_rfl) (by simp) ?_
                refine AllReadyH.cons rfl (fun K hK => ?_) AllReadyH.nil
                go_simp
                refine hK.out _ _ (hS.out x3 _ _ s3) (fun _ => ?_)
                clear hK K
                try simp only [Act.put, List.setIfInBounds_toArray, List.set_cons_zero, List.set_cons_succ]
                refine wpAnyH_done (by kernel_rfl) ?_ _
                have T9 : Hid (St (fun _ => False) w0 (.slice av B.size cv) x3 v8 (B ++ pre8 p)) := by
                  show St (fun _ => False) w0 (.slice av B.size cv) x3 v8 _
                  rw [flag_true, pv_nat] at s3
                  unfold pre8
                  rw [← ByteArray.append_assoc]
                  exact s3
                clear hS hH s1 s2 s3 z1 z2 z3 T8
                go_wp2_with fail
                go_loopw [0, 8] (fun o i wr => ∃ i' : Nat, i = .int .i64 (i' : Int) ∧ i' ≤ p.lines.n ∧ Hid (St (fun _ => False) w0 (.slice av B.size cv) wr o (B ++ (pre8 p ++ cat (fun i => WPut.pv (p.lines.f i)) i'))))
                  (fun _ i _ => p.lines.n - (intOf i).toNat)
                case atStart => exact ⟨0, rfl, by omega, (by show St (fun _ => False) w0 (.slice av B.size cv) _ _ (B ++ (pre8 p ++ ByteArray.empty)); rw [ByteArray.append_empty]; exact T9.out)⟩
                case round =>
                  obtain ⟨i', rfl, hin, hT⟩ := hrel
                  obtain ⟨wz4, hwz⟩ : ∃ x, x = wr := ⟨_, rfl⟩
                  subst hwz
                  have cl := (hcell.out wz4 _ _ hT.out).2.2.2.2.2.2.2.2.1
                  by_cases hlt : i' < p.lines.n
                  · have hii : (i' : Int) < (p.lines.n : Int) := by omega
                    have hsm : (i' : Int) + 1 ≤ 9223372036854775807 := by omega
                    obtain ⟨bb, oo, rfl, hbb, hcc⟩ := arr_cells h8.out (by omega)
                    replace hcc : Hid _ := hcc
                    have hsz : Hid (B.size + ((pre8 p).size + (cat (fun i => WPut.pv (p.lines.f i)) i').size) + (WPut.pv (p.lines.f i')).size ≤ 70368744177664) := by
                      have k1 := hb.out
                      have k2 := cat_lt (fun i => WPut.pv (p.lines.f i)) hlt
                      have k3 := pre8_le hbare
                      unfold linesB at k3
                      show _ ≤ _
                      omega
                    have hd := hcc.out wz4 (hlow.out wz4 _ _ hT.out) i' hlt
                    have d0 : wz4.cell? ⟨bb, oo + i', none⟩ = some (.int .i64 (p.lines.f i')) := by simpa [iC] using hd 0 (by omega)
                    go_wp2_with fail
                    refine (pv_st hT.out (p.lines.f i')).mono ?_
                    rintro e ya ⟨rfl, sa⟩
                    go_wp2_with fail
                    refine (put_st sa _ (by have := hsz.out; simp only [ByteArray.size_append] at this ⊢; omega)).mono ?_
                    rintro e yb ⟨vb, rfl, sb⟩
                    have hT1 : Hid (St (fun _ => False) w0 (.slice av B.size cv) yb vb (B ++ (pre8 p ++ cat (fun i => WPut.pv (p.lines.f i)) (i' + 1)))) := by
                      show St (fun _ => False) w0 (.slice av B.size cv) yb vb (B ++ (pre8 p ++ (cat (fun i => WPut.pv (p.lines.f i)) i' ++ WPut.pv (p.lines.f i'))))
                      have := sb
                      simp only [ByteArray.append_assoc] at this ⊢
                      exact this
                    clear sa sb hT hcc hw hb hsz hd cl
                    go_wp2_with fail
                    go_roundw
                    case rel => exact ⟨i' + 1, by go_num, by omega, hT1.out⟩
                    case measure => simp [intOf]; omega
                  · obtain rfl : i' = p.lines.n := by omega
                    have hTe : Hid (St (fun _ => False) w0 (.slice av B.size cv) wz4 u0 (B ++ (pre8 p ++ cat (fun i => WPut.pv (p.lines.f i)) p.lines.n))) := hT.out
                    clear hT hin hlt
                    have cl2 := (hcell.out wz4 _ _ hTe.out).2.2.2.2.2.2.2.2.2
                    go_wp2_with fail
                    refine (pv_st hTe.out _).mono ?_
                    rintro e ya ⟨rfl, sa⟩
                    clear cl cl2
                    go_wp2_with fail
                    refine (put_st sa _ (by have k1 := hb.out; have k2 := pre8_le hbare; simp only [ByteArray.size_append, pv_nat] at k2 ⊢; unfold linesB at k2; omega)).mono ?_
                    rintro e y9 ⟨v9, rfl, sb⟩
                    have T10 : Hid (St (fun _ => False) w0 (.slice av B.size cv) y9 v9 (B ++ pre9 p)) := by
                      show St (fun _ => False) w0 (.slice av B.size cv) y9 v9 _
                      unfold pre9
                      rw [pv_nat] at sb
                      unfold linesB
                      simp only [ByteArray.append_assoc] at sb ⊢
                      exact sb
                    clear sa sb hTe
                    go_wp2_with fail
                    go_loopw [0, 9] (fun o i wr => ∃ i' : Nat, i = .int .i64 (i' : Int) ∧ i' ≤ p.upNames.n ∧ Hid (St (fun _ => False) w0 (.slice av B.size cv) wr o (B ++ (pre9 p ++ cat (fun i => sizedB (p.upNames.f i)) i'))))
                      (fun _ i _ => p.upNames.n - (intOf i).toNat)
                    case atStart => exact ⟨0, rfl, by omega, (by show St (fun _ => False) w0 (.slice av B.size cv) _ _ (B ++ (pre9 p ++ ByteArray.empty)); rw [ByteArray.append_empty]; exact T10.out)⟩
                    case round =>
                      obtain ⟨i', rfl, hin, hT⟩ := hrel
                      obtain ⟨wz5, hwz⟩ : ∃ x, x = wr := ⟨_, rfl⟩
                      subst hwz
                      have cl := (hcell.out wz5 _ _ hT.out).2.2.2.2.2.2.2.2.2
                      by_cases hlt : i' < p.upNames.n
                      · have hii : (i' : Int) < (p.upNames.n : Int) := by omega
                        have hsm : (i' : Int) + 1 ≤ 9223372036854775807 := by omega
                        obtain ⟨bb, oo, rfl, hbb, hcc⟩ := arr_cells h9.out (by omega)
                        replace hcc : Hid _ := hcc
                        have hsz : Hid (B.size + ((pre9 p).size + (cat (fun i => sizedB (p.upNames.f i)) i').size) + (sizedB (p.upNames.f i')).size ≤ 70368744177664) := by
                          have k1 := hb.out
                          have k2 := cat_lt (fun i => sizedB (p.upNames.f i)) hlt
                          have k3 := pre9_le hbare
                          unfold upNamesB at k3
                          show _ ≤ _
                          omega
                        have hd := hcc.out wz5 (hlow.out wz5 _ _ hT.out) i' hlt
                        have d0 : wz5.cell? ⟨bb, oo + i', none⟩ = some (.string (p.upNames.f i')) := by simpa [sC] using hd 0 (by omega)
                        go_wp2_with fail
                        refine (sized_st hT.out (p.upNames.f i') (hw.out.upNames i' hlt)).mono ?_
                        rintro e ya ⟨rfl, sa⟩
                        go_wp2_with fail
                        refine (put_st sa _ (by have := hsz.out; simp only [ByteArray.size_append] at this ⊢; omega)).mono ?_
                        rintro e yb ⟨vb, rfl, sb⟩
                        have hT1 : Hid (St (fun _ => False) w0 (.slice av B.size cv) yb vb (B ++ (pre9 p ++ cat (fun i => sizedB (p.upNames.f i)) (i' + 1)))) := by
                          show St (fun _ => False) w0 (.slice av B.size cv) yb vb (B ++ (pre9 p ++ (cat (fun i => sizedB (p.upNames.f i)) i' ++ sizedB (p.upNames.f i'))))
                          have := sb
                          simp only [ByteArray.append_assoc] at this ⊢
                          exact this
                        clear sa sb hT hcc hw hb hsz hd cl
                        go_wp2_with fail
                        go_roundw
                        case rel => exact ⟨i' + 1, by go_num, by omega, hT1.out⟩
                        case measure => simp [intOf]; omega
                      · obtain rfl : i' = p.upNames.n := by omega
                        have hTe : Hid (St (fun _ => False) w0 (.slice av B.size cv) wz5 u0 (B ++ (pre9 p ++ cat (fun i => sizedB (p.upNames.f i)) p.upNames.n))) := hT.out
                        clear hT hin hlt
                        have hF : Hid (Fr (fun _ => False) w (.slice av B.size cv) wz5 u0) := Fr.after hbw.out hTe.out.fr
                        have hB2 : Hid (Buf wz5 5 u0 (B ++ protoB p)) := by
                          show Buf _ _ _ _
                          rw [protoB_full hbare]
                          exact hTe.out.buf
                        clear hTe
                        go_wp2_with fail
                        go_ret
                        exact ⟨_, rfl, hB2.out, hF.out⟩
end Go.Proofs.Ytcbifllencnbaaa

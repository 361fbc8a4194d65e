import Derived.Test.YtplijnfaiofckaaGreatDoorGo
import Derived.Test.YtplijnfaiofckaaGreatDoorGp
import Derived.Test.YtplijnfaiofckaaGreatDoorGm
namespace Go.Proofs.YtplijnfaiofckaaGreatDoor
open Go.RowKit
set_option linter.unusedVariables false
set_option linter.unusedSimpArgs false
set_option maxRecDepth 100000
set_option maxHeartbeats 9000000
theorem us_wide (k : Nat) (h : k < 34) : usC k 3 = .int .i64 (if WideOp k then (if k = 1 then 3 else if k = 25 then 5 else 6) else 0) := by
 match k, h with
 | 0, _ => rfl
 | 1, _ => rfl
 | 2, _ => rfl
 | 3, _ => rfl
 | 4, _ => rfl
 | 5, _ => rfl
 | 6, _ => rfl
 | 7, _ => rfl
 | 8, _ => rfl
 | 9, _ => rfl
 | 10, _ => rfl
 | 11, _ => rfl
 | 12, _ => rfl
 | 13, _ => rfl
 | 14, _ => rfl
 | 15, _ => rfl
 | 16, _ => rfl
 | 17, _ => rfl
 | 18, _ => rfl
 | 19, _ => rfl
 | 20, _ => rfl
 | 21, _ => rfl
 | 22, _ => rfl
 | 23, _ => rfl
 | 24, _ => rfl
 | 25, _ => rfl
 | 26, _ => rfl
 | 27, _ => rfl
 | 28, _ => rfl
 | 29, _ => rfl
 | 30, _ => rfl
 | 31, _ => rfl
 | 32, _ => rfl
 | 33, _ => rfl
 | n + 34, h => omega
theorem Lw.use {P : Nat} {w0 y : World} {v0 v : Value} {X : ByteArray} (h : Lw P usTab.toList w0 v0 y v X) {n j : Nat} (hn : n < 64) (hj : j < 10) : y.cell? ⟨P, 2 + (10 * n + j), none⟩ = some (usC n j) := by
 obtain ⟨a, _, hb⟩ := h.box;refine hb.cell _ ?_;have := usTab_get hn hj;rw [← Array.getElem?_toList] at this;rw [show 2 + (10 * n + j) = (10 * n + j) + 1 + 1 by omega, List.getElem?_cons_succ, List.getElem?_cons_succ];exact this
theorem lword_wide (P : Nat) (k : Nat) (hk : k < 34) (a b c s : Int) (da : (-9223372036854775808 ≤ a ∧ a ≤ 9223372036854775807)) (db : (-9223372036854775808 ≤ b ∧ b ≤ 9223372036854775807)) (dc : (-9223372036854775808 ≤ c ∧ c ≤ 9223372036854775807)) (ds : (-9223372036854775808 ≤ s ∧ s ≤ 9223372036854775807)) (z : Int) (w0 : World) (v0 : Value) (y : World) (v : Value) (X : ByteArray) (h : Lw P usTab.toList w0 v0 y v X) (hS : Spans y) (hN : Named y) (ht : PowTab y) (hs : X.size ≤ 70368744177664)
  (hU : ∀ y, Spans y → Calls Tryz.prog 109 #[.int .u32 z] y fun e w' => e = .returned (.agg #[.int .i64 (k : Int), .int .i64 a, .int .i64 b, .int .i64 c, .int .i64 s]) ∧ Below y.heap.size y w') (hw : WideOp k) :
  Calls Tryz.prog 55 #[.pointer (some ⟨P, 0, none⟩), .int .u32 z] y fun e w' => ∃ v', e = .returned (.tuple #[]) ∧ Lw P usTab.toList w0 v0 w' v' (X ++ (nm k ++ spB ++ dec a ++ spB ++ dec s ++ ⟨#[10]⟩)) := by
 have hkI : ¬ (k : Int) > 33 := by omega
 have hk64 : (k : Int) < 64 := by omega
 have hun := hidR (hU y hS);have hL := hidR h
 have hup : lineB [nm k, joinB [dec a, dec s]] = nm k ++ spB ++ dec a ++ spB ++ dec s ++ ⟨#[10]⟩ := by
  unfold lineB;rw [qa6, qb1, qa6, qb1];simp only [ByteArray.append_assoc]
 have zj : (joinB [dec a, dec s]).size ≤ 1000 := by
  have z1 := qa4 a da.1 da.2;have z2 := qa4 b db.1 db.2;have z3 := qa4 c dc.1 dc.2;have z4 := qa4 s ds.1 ds.2;rw [qd9];omega
 have hjs : (joinB [nm k, joinB [dec a, dec s]]).size ≤ 100000 := by
  have z0 := nm_size hk;rw [qd9];omega
 obtain ⟨Z, hZ⟩ : ∃ Z : ByteArray, nm k ++ spB ++ dec a ++ spB ++ dec s ++ ⟨#[10]⟩ = Z := ⟨_, rfl⟩;rw [hZ] at hup ⊢;have hnm := hidR (fun y => fun h => implName k hk y h)
 have hdm := hidR (show ∀ (y1 : World) (bk : Nat), PowTab y1 → bk < y1.heap.size → (∀ (j : Nat) x, ([a, s] : List Int)[j]? = some x → y1.cell? ⟨bk, 0 + j, none⟩ = some (.int .i64 x)) → Calls Tryz.prog 51 #[.slice (some ⟨bk, 0, none⟩) 2 2] y1 fun e w' => e = .returned (.string (joinB [dec a, dec s])) ∧ Below y1.heap.size y1 w' from
  fun y1 bk hp hb hc => qg6 [a, s] bk 0 2 y1 hc hb (by simp) (by simp) (fun x hx => by simp at hx; rcases hx with rfl | rfl <;> assumption) hp (by show (joinB [dec a, dec s]).size ≤ 100000; omega) (by omega))
 have hln := hidR (show ∀ (y1 : World) (bk : Nat), Lw P usTab.toList w0 v0 y1 v X → bk < y1.heap.size → (∀ (j : Nat) x, ([nm k, joinB [dec a, dec s]] : List ByteArray)[j]? = some x → y1.cell? ⟨bk, 0 + j, none⟩ = some (.string x)) → Calls Tryz.prog 52 #[.pointer (some ⟨P, 0, none⟩), .slice (some ⟨bk, 0, none⟩) 2 2] y1 fun e w' => ∃ v', e = .returned (.tuple #[]) ∧ Lw P usTab.toList w0 v0 w' v' (X ++ lineB [nm k, joinB [dec a, dec s]]) ∧ Fr (fun k => k = P) y1 v w' v' from
  fun y1 bk hl hbk hc => (qg5 P usTab.toList (by rw [Array.length_toList, qe6]) bk 0 2 [nm k, joinB [dec a, dec s]] y1 v y1 v X hl.fresh hc hbk (by simp) (by simp) hjs hs).mono fun e w' ⟨v', he, h'⟩ => ⟨v', he, hl.trans h', h'.fr⟩)
 rw [hup] at hln;generalize joinB [dec a, dec s] = D at hdm hln;generalize nm k = N at hnm hln;replace hS := hidR hS;replace hN := hidR hN;replace ht := hidR ht;clear hU h hup hjs zj hZ da db dc ds;go_enter Tryz.func55, Tryz.ntmps55;go_wp2_with fail;refine Calls.mono hun.out ?_;rintro e y1 ⟨rfl, b1⟩;have R0 := RowL.new y1 [.int .i64 (k : Int), .int .i64 a, .int .i64 b, .int .i64 c, .int .i64 s] 88;have b2 : Below y.heap.size y (y1.alloc (.cells #[.int .i64 (k : Int), .int .i64 a, .int .i64 b, .int .i64 c, .int .i64 s] 88)) := b1.alloc b1.size _;have bz1 := b1.size;clear hun b1;go_upto_region 4 with fail;replace R0 : RowL (y1.alloc (.cells #[.int .i64 (k : Int), .int .i64 a, .int .i64 b, .int .i64 c, .int .i64 s] 88)) y1.heap.size 88 [.int .i64 (k : Int), .int .i64 a, .int .i64 b, .int .i64 c, .int .i64 s] := R0;have hPI : P < y1.heap.size := Nat.lt_of_lt_of_le hL.out.lt bz1;have hvI := hidR (fun q (hq : v.ownBlock = some q) => show q < y1.heap.size from Nat.lt_of_lt_of_le (hL.out.buf.lt q hq) bz1);clear bz1;generalize y1.alloc (.cells #[.int .i64 (k : Int), .int .i64 a, .int .i64 b, .int .i64 c, .int .i64 s] 88) = y2 at R0 b2 ⊢;generalize y1.heap.size = I at R0 hPI hvI ⊢;have hu := us_wide k hk;obtain ⟨sv, hsv⟩ : ∃ sv : Int, (if WideOp k then (if k = 1 then (3 : Int) else if k = 25 then 5 else 6) else 0) = sv := ⟨_, rfl⟩;rw [hsv] at hu
 have hb9 : (sv != 0) = true := by
  rw [← hsv];rw [if_pos hw];split
  ·rfl
  ·split <;> rfl
 have b3 := hidR b2.drew;have q0 := hidR ((hL.out.later b3.out).use (n := k) (j := 3) (by omega) (by omega));rw [hu, show 2 + (10 * k + 3) = 2 + k * 10 + 3 by omega] at q0;have R3 := hidR (R0.call (Below.refl _ _).drew);clear R0 hu hsv hw b2;refine wp_region_held_drew (S := fun wv => RowL wv I 88 [.int .i64 (k : Int), .int .i64 a, .int .i64 b, .int .i64 c, .int .i64 s] ∧ wv.cell? ⟨P, 2 + k * 10 + 3, none⟩ = some (.int .i64 sv)) (by kernel_rfl) ⟨R3.out, q0.out⟩ (fun hH => ?_);refine tkd 0 32 (.pointer (some ⟨P, 0, none⟩)) hH ?_ (hy := Or.inl ⟨by rfl, by intro wv hSv; clear hSv; go_simp⟩);refine tkd 1 33 (.pointer (some ⟨I, 0, none⟩)) hH ?_ (hy := Or.inl ⟨by rfl, by intro wv hSv; clear hSv; go_simp⟩);refine tkd 2 34 (.int .i64 (k : Int)) hH ?_ (hy := Or.inl ⟨by rfl, by intro wv hSv; have g0 := hSv.1.cell 0 rfl; clear hSv; go_simp⟩);refine tkd 3 35 (.pointer (some ⟨P, 0, none⟩)) hH ?_ (hy := Or.inl ⟨by rfl, by intro wv hSv; clear hSv; go_simp⟩);refine tkd 4 36 (.pointer (some ⟨P, 2, none⟩)) hH ?_ (hy := Or.inl ⟨by rfl, by intro wv hSv; clear hSv; go_simp⟩);refine tkd 5 37 (.pointer (some ⟨P, 2 + k * 10, none⟩)) hH ?_ (hy := Or.inl ⟨by rfl, by intro wv hSv; clear hSv; go_simp⟩);refine tkd 6 38 (.pointer (some ⟨P, 2 + k * 10 + 3, none⟩)) hH ?_ (hy := Or.inl ⟨by rfl, by intro wv hSv; clear hSv; go_simp⟩);refine tkd 7 39 (.int .i64 sv) hH ?_ (hy := Or.inl ⟨by rfl, by intro wv hSv; have g0 := hSv.2; clear hSv; go_simp⟩);refine tkd 8 40 (.bool (sv != 0)) hH ?_ (hy := Or.inl ⟨by rfl, by intro wv hSv; clear hSv; go_simp⟩);rw [hb9];refine rdy1 9 (fun K hK => ?_);go_simp;refine hK.out _ _ hH (fun hzz => ?_);clear hK K hzz;try simp only [tK]
 refine wpAnyH_done (by kernel_rfl) ?_ _;clear hH q0 hb9;generalize y2.drew = y3 at R3 b3 ⊢;go_upto_region 5 with fail;have R5 := hidR (R3.out.call (Below.refl _ _).drew);have b5 := hidR b3.out.drew;clear R3 b3;refine wp_region_held_drew (S := fun wv => RowL wv I 88 [.int .i64 (k : Int), .int .i64 a, .int .i64 b, .int .i64 c, .int .i64 s]) (by kernel_rfl) R5.out (fun hH => ?_);clear hH;generalize y3.drew = y4 at R5 b5 ⊢;refine tkd 0 41 (.pointer (some ⟨P, 0, none⟩)) R5.out ?_ (hy := Or.inl ⟨by rfl, by intro wv hSv; clear hSv; go_simp⟩);refine tkd 1 42 (.pointer (some ⟨I, 0, none⟩)) R5.out ?_ (hy := Or.inl ⟨by rfl, by intro wv hSv; clear hSv; go_simp⟩);refine tkd 2 43 (.int .i64 (k : Int)) R5.out ?_ (hy := Or.inl ⟨by rfl, by intro wv hSv; have g0 := hSv.cell 0 rfl; clear hSv; go_simp⟩);refine tkd 4 45 (.pointer (some ⟨I, 1, none⟩)) R5.out ?_ (hy := Or.inl ⟨by rfl, by intro wv hSv; clear hSv; go_simp⟩);refine tkd 5 46 (.int .i64 a) R5.out ?_ (hy := Or.inl ⟨by rfl, by intro wv hSv; have g0 := hSv.cell 1 rfl; clear hSv; go_simp⟩);refine tkd 6 47 (.pointer (some ⟨I, 4, none⟩)) R5.out ?_ (hy := Or.inl ⟨by rfl, by intro wv hSv; clear hSv; go_simp⟩);refine tkd 7 48 (.int .i64 s) R5.out ?_ (hy := Or.inl ⟨by rfl, by intro wv hSv; have g0 := hSv.cell 4 rfl; clear hSv; go_simp⟩);refine rdy2 3 8 (fun K hK => ?_) (fun K hK => ?_)
 focus
  have hn9 := hidR (hnm.out y4 (hN.out.below b5.out));go_simp;refine Calls.mono hn9.out ?_;rintro e y5 ⟨rfl, b6⟩;have R6 := hidR (R5.out.call b6);have B6 := hidR (b5.out.trans (b6.mono b5.out.size));clear hn9 b6 R5 b5 hnm;go_wp2_with fail;refine hK.out _ _ R6.out (fun hzz => ?_);clear hK K hzz;try simp only [tK]
  refine rdy1 8 (fun K hK => ?_);have RA := hidR (R6.out.alloc (.cells #[.int .i64 a, .int .i64 s] 3));have BA := hidR (B6.out.alloc B6.out.size (.cells #[.int .i64 a, .int .i64 s] 3));go_simp;refine hK.out _ _ RA.out (fun hzz => ?_);clear hK K hzz R6 B6;try simp only [tK]
  refine rdy1 9 (fun K hK => ?_);have hd9 := hidR (hdm.out _ y5.heap.size (qa2 ht.out BA.out) (by rw [World.size_alloc]; omega) (fun j x hx => by refine cellsOf (L := [.int .i64 a, .int .i64 s]) ?_; rcases j with _ | _ | j <;> simp at hx <;> simp [hx]));go_simp;refine Calls.mono hd9.out ?_;rintro e y7 ⟨rfl, b7⟩;have R7 := hidR (RA.out.call b7);have B7 := hidR (BA.out.trans (b7.mono BA.out.size));clear hd9 b7 RA BA hdm
 rotate_left
 focus
  have RA := hidR (R5.out.alloc (.cells #[.int .i64 a, .int .i64 s] 3));have BA := hidR (b5.out.alloc b5.out.size (.cells #[.int .i64 a, .int .i64 s] 3));have hn9 := hidR (hnm.out _ (hN.out.below BA.out));have hcc := hidR (show ∀ (j : Nat) x, ([a, s] : List Int)[j]? = some x → (y4.alloc (.cells #[.int .i64 a, .int .i64 s] 3)).cell? ⟨y4.heap.size, 0 + j, none⟩ = some (.int .i64 x) from fun j x hx => by refine cellsOf (L := [.int .i64 a, .int .i64 s]) ?_; rcases j with _ | _ | j <;> simp at hx <;> simp [hx]);go_simp;refine hK.out _ _ RA.out (fun hzz => ?_);clear hK K hzz;try simp only [tK]
  clear R5 b5 hnm;refine rdy1 3 (fun K hK => ?_);go_simp;refine Calls.mono hn9.out ?_;rintro e y5 ⟨rfl, b6⟩;have R6 := hidR (RA.out.call b6);have B6 := hidR (BA.out.trans (b6.mono BA.out.size));have hc6 := hidR (show ∀ (j : Nat) x, ([a, s] : List Int)[j]? = some x → y5.cell? ⟨y4.heap.size, 0 + j, none⟩ = some (.int .i64 x) from fun j x hx => (b6.cell (p := ⟨y4.heap.size, 0 + j, none⟩) (by simp)).trans (hcc.out j x hx));have hz6 : y4.heap.size < y5.heap.size := by have := b6.size; rw [World.size_alloc] at this; omega
  clear hn9 b6 RA BA hcc;go_wp2_with fail;refine hK.out _ _ R6.out (fun hzz => ?_);clear hK K hzz;try simp only [tK]
  refine rdy1 9 (fun K hK => ?_);have hd9 := hidR (hdm.out _ y4.heap.size (qa2 ht.out B6.out) hz6 hc6.out);go_simp;refine Calls.mono hd9.out ?_;rintro e y7 ⟨rfl, b7⟩;have R7 := hidR (R6.out.call b7);have B7 := hidR (B6.out.trans (b7.mono B6.out.size));clear hd9 b7 R6 B6 hdm
 all_goals
  go_wp2_with fail;refine hK.out _ _ R7.out (fun hzz => ?_);clear hK K hzz;try simp only [tK]
  refine rdy1 10 (fun K hK => ?_);have R8 := hidR (R7.out.alloc (.cells #[.string N, .string D] 9));have B8 := hidR (B7.out.alloc B7.out.size (.cells #[.string N, .string D] 9))
  have hl9 := hidR (hln.out _ y7.heap.size (hL.out.later B8.out) (by rw [World.size_alloc]; omega) (fun j x hx => by
   refine cellsOf (L := [.string N, .string D]) ?_;rcases j with _ | _ | j
   ·simp at hx; simp [hx]
   ·simp at hx; simp [hx]
   ·simp at hx))
  clear R7 B7 hln;go_simp;refine hK.out _ _ R8.out (fun hzz => ?_);clear hK K hzz;try simp only [tK]
  refine rdy1 11 (fun K hK => ?_);go_simp;refine Calls.mono hl9.out ?_;rintro e y9 ⟨v9, rfl, h9, f9⟩;have R9 := hidR (show RowL y9 I 88 [.int .i64 (k : Int), .int .i64 a, .int .i64 b, .int .i64 c, .int .i64 s] from World.rowIs.of_block R8.out (f9.block I (World.rowIs.lt R8.out) (by omega) (fun e => by have := hvI.out I e; omega)));replace h9 := hidR h9;clear hl9 R8 B8 f9;go_wp2_with fail;refine hK.out _ _ R9.out (fun hzz => ?_);clear hK K hzz;try simp only [tK]
  refine wpAnyH_done (by kernel_rfl) ?_ _;go_wp2_with fail
  go_end0
  exact ⟨_, rfl, h9.out⟩
theorem lword_abc (P : Nat) (k : Nat) (hk : k < 34) (a b c s : Int) (da : (-9223372036854775808 ≤ a ∧ a ≤ 9223372036854775807)) (db : (-9223372036854775808 ≤ b ∧ b ≤ 9223372036854775807)) (dc : (-9223372036854775808 ≤ c ∧ c ≤ 9223372036854775807)) (ds : (-9223372036854775808 ≤ s ∧ s ≤ 9223372036854775807)) (z : Int) (w0 : World) (v0 : Value) (y : World) (v : Value) (X : ByteArray) (h : Lw P usTab.toList w0 v0 y v X) (hS : Spans y) (hN : Named y) (ht : PowTab y) (hs : X.size ≤ 70368744177664)
  (hU : ∀ y, Spans y → Calls Tryz.prog 109 #[.int .u32 z] y fun e w' => e = .returned (.agg #[.int .i64 (k : Int), .int .i64 a, .int .i64 b, .int .i64 c, .int .i64 s]) ∧ Below y.heap.size y w') (hw : ¬ WideOp k) :
  Calls Tryz.prog 55 #[.pointer (some ⟨P, 0, none⟩), .int .u32 z] y fun e w' => ∃ v', e = .returned (.tuple #[]) ∧ Lw P usTab.toList w0 v0 w' v' (X ++ (nm k ++ spB ++ dec a ++ spB ++ dec b ++ spB ++ dec c ++ ⟨#[10]⟩)) := by
 have hkI : ¬ (k : Int) > 33 := by omega
 have hk64 : (k : Int) < 64 := by omega
 have hun := hidR (hU y hS);have hL := hidR h
 have hup : lineB [nm k, joinB [dec a, dec b, dec c]] = nm k ++ spB ++ dec a ++ spB ++ dec b ++ spB ++ dec c ++ ⟨#[10]⟩ := by
  unfold lineB;rw [qa6, qb1, qa6, qa6, qb1];simp only [ByteArray.append_assoc]
 have zj : (joinB [dec a, dec b, dec c]).size ≤ 1000 := by
  have z1 := qa4 a da.1 da.2;have z2 := qa4 b db.1 db.2;have z3 := qa4 c dc.1 dc.2;have z4 := qa4 s ds.1 ds.2;rw [qe9];omega
 have hjs : (joinB [nm k, joinB [dec a, dec b, dec c]]).size ≤ 100000 := by
  have z0 := nm_size hk;rw [qd9];omega
 obtain ⟨Z, hZ⟩ : ∃ Z : ByteArray, nm k ++ spB ++ dec a ++ spB ++ dec b ++ spB ++ dec c ++ ⟨#[10]⟩ = Z := ⟨_, rfl⟩;rw [hZ] at hup ⊢;have hnm := hidR (fun y => fun h => implName k hk y h)
 have hdm := hidR (show ∀ (y1 : World) (bk : Nat), PowTab y1 → bk < y1.heap.size → (∀ (j : Nat) x, ([a, b, c] : List Int)[j]? = some x → y1.cell? ⟨bk, 0 + j, none⟩ = some (.int .i64 x)) → Calls Tryz.prog 51 #[.slice (some ⟨bk, 0, none⟩) 3 3] y1 fun e w' => e = .returned (.string (joinB [dec a, dec b, dec c])) ∧ Below y1.heap.size y1 w' from
  fun y1 bk hp hb hc => qg6 [a, b, c] bk 0 3 y1 hc hb (by simp) (by simp) (fun x hx => by simp at hx; rcases hx with rfl | rfl | rfl <;> assumption) hp (by show (joinB [dec a, dec b, dec c]).size ≤ 100000; omega) (by omega))
 have hln := hidR (show ∀ (y1 : World) (bk : Nat), Lw P usTab.toList w0 v0 y1 v X → bk < y1.heap.size → (∀ (j : Nat) x, ([nm k, joinB [dec a, dec b, dec c]] : List ByteArray)[j]? = some x → y1.cell? ⟨bk, 0 + j, none⟩ = some (.string x)) → Calls Tryz.prog 52 #[.pointer (some ⟨P, 0, none⟩), .slice (some ⟨bk, 0, none⟩) 2 2] y1 fun e w' => ∃ v', e = .returned (.tuple #[]) ∧ Lw P usTab.toList w0 v0 w' v' (X ++ lineB [nm k, joinB [dec a, dec b, dec c]]) ∧ Fr (fun k => k = P) y1 v w' v' from
  fun y1 bk hl hbk hc => (qg5 P usTab.toList (by rw [Array.length_toList, qe6]) bk 0 2 [nm k, joinB [dec a, dec b, dec c]] y1 v y1 v X hl.fresh hc hbk (by simp) (by simp) hjs hs).mono fun e w' ⟨v', he, h'⟩ => ⟨v', he, hl.trans h', h'.fr⟩)
 rw [hup] at hln;generalize joinB [dec a, dec b, dec c] = D at hdm hln;generalize nm k = N at hnm hln;replace hS := hidR hS;replace hN := hidR hN;replace ht := hidR ht;clear hU h hup hjs zj hZ da db dc ds;go_enter Tryz.func55, Tryz.ntmps55;go_wp2_with fail;refine Calls.mono hun.out ?_;rintro e y1 ⟨rfl, b1⟩;have R0 := RowL.new y1 [.int .i64 (k : Int), .int .i64 a, .int .i64 b, .int .i64 c, .int .i64 s] 88;have b2 : Below y.heap.size y (y1.alloc (.cells #[.int .i64 (k : Int), .int .i64 a, .int .i64 b, .int .i64 c, .int .i64 s] 88)) := b1.alloc b1.size _;have bz1 := b1.size;clear hun b1;go_upto_region 4 with fail;replace R0 : RowL (y1.alloc (.cells #[.int .i64 (k : Int), .int .i64 a, .int .i64 b, .int .i64 c, .int .i64 s] 88)) y1.heap.size 88 [.int .i64 (k : Int), .int .i64 a, .int .i64 b, .int .i64 c, .int .i64 s] := R0;have hPI : P < y1.heap.size := Nat.lt_of_lt_of_le hL.out.lt bz1;have hvI := hidR (fun q (hq : v.ownBlock = some q) => show q < y1.heap.size from Nat.lt_of_lt_of_le (hL.out.buf.lt q hq) bz1);clear bz1;generalize y1.alloc (.cells #[.int .i64 (k : Int), .int .i64 a, .int .i64 b, .int .i64 c, .int .i64 s] 88) = y2 at R0 b2 ⊢;generalize y1.heap.size = I at R0 hPI hvI ⊢;have hu := us_wide k hk;obtain ⟨sv, hsv⟩ : ∃ sv : Int, (if WideOp k then (if k = 1 then (3 : Int) else if k = 25 then 5 else 6) else 0) = sv := ⟨_, rfl⟩;rw [hsv] at hu
 have hb9 : (sv != 0) = false := by
  rw [← hsv];rw [if_neg hw];rfl
 have b3 := hidR b2.drew;have q0 := hidR ((hL.out.later b3.out).use (n := k) (j := 3) (by omega) (by omega));rw [hu, show 2 + (10 * k + 3) = 2 + k * 10 + 3 by omega] at q0;have R3 := hidR (R0.call (Below.refl _ _).drew);clear R0 hu hsv hw b2;refine wp_region_held_drew (S := fun wv => RowL wv I 88 [.int .i64 (k : Int), .int .i64 a, .int .i64 b, .int .i64 c, .int .i64 s] ∧ wv.cell? ⟨P, 2 + k * 10 + 3, none⟩ = some (.int .i64 sv)) (by kernel_rfl) ⟨R3.out, q0.out⟩ (fun hH => ?_);refine tkd 0 32 (.pointer (some ⟨P, 0, none⟩)) hH ?_ (hy := Or.inl ⟨by rfl, by intro wv hSv; clear hSv; go_simp⟩);refine tkd 1 33 (.pointer (some ⟨I, 0, none⟩)) hH ?_ (hy := Or.inl ⟨by rfl, by intro wv hSv; clear hSv; go_simp⟩);refine tkd 2 34 (.int .i64 (k : Int)) hH ?_ (hy := Or.inl ⟨by rfl, by intro wv hSv; have g0 := hSv.1.cell 0 rfl; clear hSv; go_simp⟩);refine tkd 3 35 (.pointer (some ⟨P, 0, none⟩)) hH ?_ (hy := Or.inl ⟨by rfl, by intro wv hSv; clear hSv; go_simp⟩);refine tkd 4 36 (.pointer (some ⟨P, 2, none⟩)) hH ?_ (hy := Or.inl ⟨by rfl, by intro wv hSv; clear hSv; go_simp⟩);refine tkd 5 37 (.pointer (some ⟨P, 2 + k * 10, none⟩)) hH ?_ (hy := Or.inl ⟨by rfl, by intro wv hSv; clear hSv; go_simp⟩);refine tkd 6 38 (.pointer (some ⟨P, 2 + k * 10 + 3, none⟩)) hH ?_ (hy := Or.inl ⟨by rfl, by intro wv hSv; clear hSv; go_simp⟩);refine tkd 7 39 (.int .i64 sv) hH ?_ (hy := Or.inl ⟨by rfl, by intro wv hSv; have g0 := hSv.2; clear hSv; go_simp⟩);refine tkd 8 40 (.bool (sv != 0)) hH ?_ (hy := Or.inl ⟨by rfl, by intro wv hSv; clear hSv; go_simp⟩);rw [hb9];refine rdy1 9 (fun K hK => ?_);go_simp;refine hK.out _ _ hH (fun hzz => ?_);clear hK K hzz;try simp only [tK]
 refine wpAnyH_done (by kernel_rfl) ?_ _;clear hH q0 hb9;generalize y2.drew = y3 at R3 b3 ⊢;go_upto_region 1 with fail;have R5 := hidR (R3.out.call (Below.refl _ _).drew);have b5 := hidR b3.out.drew;clear R3 b3;refine wp_region_held_drew (S := fun wv => RowL wv I 88 [.int .i64 (k : Int), .int .i64 a, .int .i64 b, .int .i64 c, .int .i64 s]) (by kernel_rfl) R5.out (fun hH => ?_);clear hH;generalize y3.drew = y4 at R5 b5 ⊢;refine tkd 0 7 (.pointer (some ⟨P, 0, none⟩)) R5.out ?_ (hy := Or.inl ⟨by rfl, by intro wv hSv; clear hSv; go_simp⟩);refine tkd 1 8 (.pointer (some ⟨I, 0, none⟩)) R5.out ?_ (hy := Or.inl ⟨by rfl, by intro wv hSv; clear hSv; go_simp⟩);refine tkd 2 9 (.int .i64 (k : Int)) R5.out ?_ (hy := Or.inl ⟨by rfl, by intro wv hSv; have g0 := hSv.cell 0 rfl; clear hSv; go_simp⟩);refine tkd 4 11 (.pointer (some ⟨I, 1, none⟩)) R5.out ?_ (hy := Or.inl ⟨by rfl, by intro wv hSv; clear hSv; go_simp⟩);refine tkd 5 12 (.int .i64 a) R5.out ?_ (hy := Or.inl ⟨by rfl, by intro wv hSv; have g0 := hSv.cell 1 rfl; clear hSv; go_simp⟩);refine tkd 6 13 (.pointer (some ⟨I, 2, none⟩)) R5.out ?_ (hy := Or.inl ⟨by rfl, by intro wv hSv; clear hSv; go_simp⟩);refine tkd 7 14 (.int .i64 b) R5.out ?_ (hy := Or.inl ⟨by rfl, by intro wv hSv; have g0 := hSv.cell 2 rfl; clear hSv; go_simp⟩);refine tkd 8 15 (.pointer (some ⟨I, 3, none⟩)) R5.out ?_ (hy := Or.inl ⟨by rfl, by intro wv hSv; clear hSv; go_simp⟩);refine tkd 9 16 (.int .i64 c) R5.out ?_ (hy := Or.inl ⟨by rfl, by intro wv hSv; have g0 := hSv.cell 3 rfl; clear hSv; go_simp⟩);refine rdy2 3 10 (fun K hK => ?_) (fun K hK => ?_)
 focus
  have hn9 := hidR (hnm.out y4 (hN.out.below b5.out));go_simp;refine Calls.mono hn9.out ?_;rintro e y5 ⟨rfl, b6⟩;have R6 := hidR (R5.out.call b6);have B6 := hidR (b5.out.trans (b6.mono b5.out.size));clear hn9 b6 R5 b5 hnm;go_wp2_with fail;refine hK.out _ _ R6.out (fun hzz => ?_);clear hK K hzz;try simp only [tK]
  refine rdy1 10 (fun K hK => ?_);have RA := hidR (R6.out.alloc (.cells #[.int .i64 a, .int .i64 b, .int .i64 c] 3));have BA := hidR (B6.out.alloc B6.out.size (.cells #[.int .i64 a, .int .i64 b, .int .i64 c] 3));go_simp;refine hK.out _ _ RA.out (fun hzz => ?_);clear hK K hzz R6 B6;try simp only [tK]
  refine rdy1 11 (fun K hK => ?_);have hd9 := hidR (hdm.out _ y5.heap.size (qa2 ht.out BA.out) (by rw [World.size_alloc]; omega) (fun j x hx => by refine cellsOf (L := [.int .i64 a, .int .i64 b, .int .i64 c]) ?_; rcases j with _ | _ | _ | j <;> simp at hx <;> simp [hx]));go_simp;refine Calls.mono hd9.out ?_;rintro e y7 ⟨rfl, b7⟩;have R7 := hidR (RA.out.call b7);have B7 := hidR (BA.out.trans (b7.mono BA.out.size));clear hd9 b7 RA BA hdm
 rotate_left
 focus
  have RA := hidR (R5.out.alloc (.cells #[.int .i64 a, .int .i64 b, .int .i64 c] 3));have BA := hidR (b5.out.alloc b5.out.size (.cells #[.int .i64 a, .int .i64 b, .int .i64 c] 3));have hn9 := hidR (hnm.out _ (hN.out.below BA.out));have hcc := hidR (show ∀ (j : Nat) x, ([a, b, c] : List Int)[j]? = some x → (y4.alloc (.cells #[.int .i64 a, .int .i64 b, .int .i64 c] 3)).cell? ⟨y4.heap.size, 0 + j, none⟩ = some (.int .i64 x) from fun j x hx => by refine cellsOf (L := [.int .i64 a, .int .i64 b, .int .i64 c]) ?_; rcases j with _ | _ | _ | j <;> simp at hx <;> simp [hx]);go_simp;refine hK.out _ _ RA.out (fun hzz => ?_);clear hK K hzz;try simp only [tK]
  clear R5 b5 hnm;refine rdy1 3 (fun K hK => ?_);go_simp;refine Calls.mono hn9.out ?_;rintro e y5 ⟨rfl, b6⟩;have R6 := hidR (RA.out.call b6);have B6 := hidR (BA.out.trans (b6.mono BA.out.size));have hc6 := hidR (show ∀ (j : Nat) x, ([a, b, c] : List Int)[j]? = some x → y5.cell? ⟨y4.heap.size, 0 + j, none⟩ = some (.int .i64 x) from fun j x hx => (b6.cell (p := ⟨y4.heap.size, 0 + j, none⟩) (by simp)).trans (hcc.out j x hx));have hz6 : y4.heap.size < y5.heap.size := by have := b6.size; rw [World.size_alloc] at this; omega
  clear hn9 b6 RA BA hcc;go_wp2_with fail;refine hK.out _ _ R6.out (fun hzz => ?_);clear hK K hzz;try simp only [tK]
  refine rdy1 11 (fun K hK => ?_);have hd9 := hidR (hdm.out _ y4.heap.size (qa2 ht.out B6.out) hz6 hc6.out);go_simp;refine Calls.mono hd9.out ?_;rintro e y7 ⟨rfl, b7⟩;have R7 := hidR (R6.out.call b7);have B7 := hidR (B6.out.trans (b7.mono B6.out.size));clear hd9 b7 R6 B6 hdm
 all_goals
  go_wp2_with fail;refine hK.out _ _ R7.out (fun hzz => ?_);clear hK K hzz;try simp only [tK]
  refine rdy1 12 (fun K hK => ?_);have R8 := hidR (R7.out.alloc (.cells #[.string N, .string D] 9));have B8 := hidR (B7.out.alloc B7.out.size (.cells #[.string N, .string D] 9))
  have hl9 := hidR (hln.out _ y7.heap.size (hL.out.later B8.out) (by rw [World.size_alloc]; omega) (fun j x hx => by
   refine cellsOf (L := [.string N, .string D]) ?_;rcases j with _ | _ | j
   ·simp at hx; simp [hx]
   ·simp at hx; simp [hx]
   ·simp at hx))
  clear R7 B7 hln;go_simp;refine hK.out _ _ R8.out (fun hzz => ?_);clear hK K hzz;try simp only [tK]
  refine rdy1 13 (fun K hK => ?_);go_simp;refine Calls.mono hl9.out ?_;rintro e y9 ⟨v9, rfl, h9, f9⟩;have R9 := hidR (show RowL y9 I 88 [.int .i64 (k : Int), .int .i64 a, .int .i64 b, .int .i64 c, .int .i64 s] from World.rowIs.of_block R8.out (f9.block I (World.rowIs.lt R8.out) (by omega) (fun e => by have := hvI.out I e; omega)));replace h9 := hidR h9;clear hl9 R8 B8 f9;go_wp2_with fail;refine hK.out _ _ R9.out (fun hzz => ?_);clear hK K hzz;try simp only [tK]
  refine wpAnyH_done (by kernel_rfl) ?_ _;go_wp2_with fail
  go_end0
  exact ⟨_, rfl, h9.out⟩
theorem lword_big (P : Nat) (op a b c s : Int) (hop : 33 < op) (x : Nat) (hx : x ≤ 4294967295) (w0 : World) (v0 : Value) (y : World) (v : Value) (X : ByteArray) (h : Lw P usTab.toList w0 v0 y v X) (hS : Spans y) (ht : PowTab y) (hs : X.size ≤ 70368744177664)
  (hU : ∀ y, Spans y → Calls Tryz.prog 109 #[.int .u32 (x : Int)] y fun e w' => e = .returned (.agg #[.int .i64 op, .int .i64 a, .int .i64 b, .int .i64 c, .int .i64 s]) ∧ Below y.heap.size y w') :
  Calls Tryz.prog 55 #[.pointer (some ⟨P, 0, none⟩), .int .u32 (x : Int)] y fun e w' => ∃ v', e = .returned (.tuple #[]) ∧ Lw P usTab.toList w0 v0 w' v' (X ++ (⟨#[119, 111, 114, 100, 32]⟩ ++ dec (x : Int) ++ ⟨#[10]⟩)) := by
 have hopI : op > 33 := hop;have hun := hidR (hU y hS);have hL := hidR h;have hw64 : IntKind.u64.wrap (x : Int) = (x : Int) := by rw [IntKind.wrap_u64]; omega
 have zd := qa4 (x : Int) (by omega) (by omega);have hfu := hidR (fun (y1 : World) (hp : PowTab y1) => formatUint_in x hx y1 hp)
 have hup : lineB [⟨#[119, 111, 114, 100]⟩, dec (x : Int)] = ((⟨#[119, 111, 114, 100, 32]⟩ ++ dec (x : Int) : ByteArray) ++ ⟨#[10]⟩ : ByteArray) := by
  unfold lineB;rw [qa6, qb1];rfl
 have hjs : (joinB [⟨#[119, 111, 114, 100]⟩, dec (x : Int)]).size ≤ 100000 := by
  rw [qd9];have e0 : (⟨#[119, 111, 114, 100]⟩ : ByteArray).size = 4 := rfl;omega
 generalize (⟨#[119, 111, 114, 100, 32]⟩ ++ dec (x : Int) ++ ⟨#[10]⟩ : ByteArray) = Z at hup ⊢;generalize dec (x : Int) = D at zd hfu hup hjs
 have hln := hidR (show ∀ (y1 : World) (bk : Nat), Lw P usTab.toList w0 v0 y1 v X → bk < y1.heap.size → (∀ (j : Nat) x, ([⟨#[119, 111, 114, 100]⟩, D] : List ByteArray)[j]? = some x → y1.cell? ⟨bk, 0 + j, none⟩ = some (.string x)) → Calls Tryz.prog 52 #[.pointer (some ⟨P, 0, none⟩), .slice (some ⟨bk, 0, none⟩) 2 2] y1 fun e w' => ∃ v', e = .returned (.tuple #[]) ∧ Lw P usTab.toList w0 v0 w' v' (X ++ lineB [⟨#[119, 111, 114, 100]⟩, D]) from
  fun y1 bk hl hbk hc => qg5 P usTab.toList (by rw [Array.length_toList, qe6]) bk 0 2 [⟨#[119, 111, 114, 100]⟩, D] w0 v0 y1 v X hl hc hbk (by simp) (by simp) hjs hs)
 rw [hup] at hln;replace ht := hidR ht;clear hU h hup hjs hS;go_enter Tryz.func55, Tryz.ntmps55;go_wp2_with fail;refine Calls.mono hun.out ?_;rintro e y1 ⟨rfl, b1⟩;have b2 := hidR (show Below y.heap.size y (y1.alloc (.cells #[.int .i64 op, .int .i64 a, .int .i64 b, .int .i64 c, .int .i64 s] 88)) from b1.alloc b1.size _);have hf9 := hidR (hfu.out _ (qa2 ht.out b2.out));clear hun b1 hfu;go_wp2_with fail;refine Calls.mono hf9.out ?_;rintro e y3 ⟨rfl, b3⟩;have B3 := b2.out.trans (b3.mono b2.out.size);have B4 : Below y.heap.size y (y3.alloc (.cells #[.string ⟨#[119, 111, 114, 100]⟩, .string D] 9)) := B3.alloc B3.size _
 have hl9 := hidR (hln.out _ y3.heap.size (hL.out.later B4) (by rw [World.size_alloc]; omega) (fun j x hx => by
  refine cellsOf (L := [.string ⟨#[119, 111, 114, 100]⟩, .string D]) ?_;rcases j with _ | _ | j
  ·simp at hx; simp [hx]
  ·simp at hx; simp [hx]
  ·simp at hx))
 clear hf9 b3 b2 B3 B4 hln hL;go_wp2_with fail;refine Calls.mono hl9.out ?_;rintro e y5 ⟨v5, rfl, h5⟩;replace h5 := hidR h5;clear hl9;go_wp2_with fail
 go_end0
 exact ⟨_, rfl, h5.out⟩
theorem lword_in (P : Nat) (z : Int) (h1 : 0 ≤ z) (h2 : z ≤ 4294967295) (w0 : World) (v0 : Value) (y : World) (v : Value) (X : ByteArray) (h : Lw P usTab.toList w0 v0 y v X) (hS : Spans y) (hN : Named y) (ht : PowTab y) (hs : X.size ≤ 70368744177664) :
  Calls Tryz.prog 55 #[.pointer (some ⟨P, 0, none⟩), .int .u32 z] y fun e w' => ∃ v', e = .returned (.tuple #[]) ∧ Lw P usTab.toList w0 v0 w' v' (X ++ (wordT z ++ ⟨#[10]⟩)) := by
 obtain ⟨x, rfl⟩ := Int.eq_ofNat_of_zero_le h1;unfold wordT;by_cases hop : 33 < opW (x : Int)
 ·rw [if_pos hop];exact lword_big P _ _ _ _ _ hop x (by omega) w0 v0 y v X h hS ht hs (fun y1 hy => unpackI (x : Int) y1 hy (by omega) (by omega))
 ·rw [if_neg hop];have ho : 0 ≤ opW (x : Int) := by unfold opW; omega
  have da : -9223372036854775808 ≤ aW (x : Int) ∧ aW (x : Int) ≤ 9223372036854775807 := by unfold aW; omega
  have db : -9223372036854775808 ≤ bW (x : Int) ∧ bW (x : Int) ≤ 9223372036854775807 := by unfold bW; omega
  have dc : -9223372036854775808 ≤ cW (x : Int) ∧ cW (x : Int) ≤ 9223372036854775807 := by unfold cW; omega
  have ds : -9223372036854775808 ≤ sW (x : Int) ∧ sW (x : Int) ≤ 9223372036854775807 := by unfold sW bW cW; omega
  have hk : ((opW (x : Int)).toNat : Int) = opW (x : Int) := by omega
  have hU : ∀ y, Spans y → Calls Tryz.prog 109 #[.int .u32 (x : Int)] y fun e w' => e = .returned (.agg #[.int .i64 (((opW (x : Int)).toNat : Nat) : Int), .int .i64 (aW (x : Int)), .int .i64 (bW (x : Int)), .int .i64 (cW (x : Int)), .int .i64 (sW (x : Int))]) ∧ Below y.heap.size y w' := fun y hy => by
   rw [hk];exact unpackI (x : Int) y hy (by omega) (by omega)
  by_cases hw : WideOp (opW (x : Int)).toNat
  ·rw [if_pos hw];exact lword_wide P (opW (x : Int)).toNat (by omega) _ (bW (x : Int)) (cW (x : Int)) _ da db dc ds (x : Int) w0 v0 y v X h hS hN ht hs hU hw
  ·rw [if_neg hw];exact lword_abc P (opW (x : Int)).toNat (by omega) _ _ _ (sW (x : Int)) da db dc ds (x : Int) w0 v0 y v X h hS hN ht hs hU hw
theorem tx0 {t : ByteArray} (h : t.size = 0) : t = ⟨#[]⟩ := ByteArray.ext (Array.eq_empty_of_size_eq_zero h)
theorem l6Const_in (d : VD) (hp : Plain d) (h0 : -9223372036854775808 ≤ d.num) (h1 : d.num ≤ 9223372036854775807) (w : World) :
  Calls Tryz.prog 60 #[.agg #[.int .i64 d.kind, .int .i64 d.num, .string d.text]] w fun e w' => e = .returned (.string (constT d)) ∧ Below w.heap.size w w' := by
 obtain ⟨k, n, t⟩ := d;unfold Plain at hp;dsimp only at hp h0 h1 ⊢;rcases hp with ⟨rfl, rfl, ht⟩ | ⟨rfl, hn, ht⟩ | ⟨rfl, ht⟩ | ⟨rfl, rfl, ht⟩
 ·obtain rfl := tx0 ht;exact l6Const_nil w
 ·obtain rfl := tx0 ht;rcases hn with rfl | rfl
  ·exact l6Const_false w
  ·exact l6Const_true w
 ·obtain rfl := tx0 ht;exact l6Const_int n h0 h1 w
 ·exact l6Const_text t ht w
theorem lval_in (P : Nat) (U : List Value) (hU : U.length = 640) (d : VD) (hp : Plain d) (h0 : -9223372036854775808 ≤ d.num) (h1 : d.num ≤ 9223372036854775807) (w0 : World) (v0 : Value) (y : World) (v : Value) (X : ByteArray) (h : Lw P U w0 v0 y v X) (ht : PowTab y) (hs : X.size ≤ 70368744177664) :
  Calls Tryz.prog 53 #[.pointer (some ⟨P, 0, none⟩), .agg #[.int .i64 d.kind, .int .i64 d.num, .string d.text]] y fun e w' => ∃ v', e = .returned (.tuple #[]) ∧ Lw P U w0 v0 w' v' (X ++ (constT d ++ ⟨#[10]⟩)) := by
 obtain ⟨k, n, t⟩ := d;unfold Plain at hp;dsimp only at hp h0 h1 ⊢;rcases hp with ⟨rfl, rfl, hx⟩ | ⟨rfl, hn, hx⟩ | ⟨rfl, hx⟩ | ⟨rfl, rfl, hx⟩
 ·obtain rfl := tx0 hx;exact lval_nil P U hU w0 v0 y v X h ht hs
 ·obtain rfl := tx0 hx;rcases hn with rfl | rfl
  ·exact lval_false P U hU w0 v0 y v X h ht hs
  ·exact lval_true P U hU w0 v0 y v X h ht hs
 ·obtain rfl := tx0 hx;exact lval_int P U hU n h0 h1 w0 v0 y v X h ht hs
 ·exact lval_text P U hU t hx w0 v0 y v X h ht hs
def catL (f : Nat → ByteArray) : Nat → ByteArray
 | 0 => ⟨#[]⟩
 | n + 1 => catL f n ++ f n
theorem catL_size {f : Nat → ByteArray} {b : Nat} : ∀ (n : Nat), (∀ i, i < n → (f i).size ≤ b) → (catL f n).size ≤ n * b
 | 0, _ => by show (⟨#[]⟩ : ByteArray).size ≤ _; exact Nat.zero_le _
 | n + 1, h => by
  have h1 := catL_size n fun i hi => h i (by omega);have h2 := h n (by omega);rw [catL, ByteArray.size_append, Nat.add_mul, Nat.one_mul];omega
noncomputable def protoT (p : PD) : ByteArray :=
 headT p ++ ⟨#[10]⟩ ++ catL (fun i => constT (p.consts.f i) ++ ⟨#[10]⟩) p.consts.n ++ catL (fun i => upT (p.ups.f i) ++ ⟨#[10]⟩) p.ups.n ++ catL (fun i => wordT (p.code.f i) ++ ⟨#[10]⟩) p.code.n
noncomputable def listT (s : Sl PD) : ByteArray := catL (fun i => protoT (s.f i)) s.n
end Go.Proofs.YtplijnfaiofckaaGreatDoor

import Derived.Test.YtplijnfaiofckaaGreatDoorHf
import Derived.Test.YtplijnfaiofckaaGreatDoorHg
namespace Go.Proofs.YtplijnfaiofckaaGreatDoor
open Go.RowKit Go.Shelf
set_option linter.unusedVariables false
set_option linter.unusedSimpArgs false
def fA (pB : Nat) : Value := .func (.func 63) #[] #[.pointer (some ⟨pB, 0, none⟩)]
structure Nums (lo sB rB nB mB X B : Nat) (ib ob : Nat → Nat) : Prop where
 m : mB = lo + 2
 x : X = lo + 3
 r : X + 3 < rB
 n : rB < nB
 s : nB < sB
 b : B = sB + 1
 i : ∀ j, j < 34 → X + 3 < ib j ∧ ib j < rB ∧ X + 3 < ob j ∧ ob j < rB
structure AsI (w : World) (lo sB rB nB mB X B : Nat) (ib ob : Nat → Nat) (pre : List ByteArray) (sv : Value) (Q : List PVa) (W : World) : Prop where
 bel : Below lo w W
 res0 : RowL W lo 25 [.slice none 0 0]
 res1 : RowL W (lo + 1) 3 [.int .i64 0]
 rb : RowL W rB 68 [.map (some (X + 3))]
 nb : RowL W nB 3 [.int .i64 (pre.length : Int)]
 map : W.heap[X + 3]? = some (.map (ents X (X + 1) (X + 2) ib ob 34).toArray 38)
 ar : RowL W (X + 2) 111 [fA (X + 1)]
 ir : ∀ j, j < 34 → RowL W (ib j) 120 [fI j] ∧ RowL W (ob j) 3 [.int .i64 (j : Int)]
 mw : Mw W B mB X (X + 1) sv Q
 st : Steps [] (pre.map trimNL) (Q.map (·.p))
 far : ∀ k, some k ∈ sv.ownBlock :: Q.flatMap PVa.blks → sB + 3 ≤ k
theorem Mw.keep {w w' : World} {B mB xB pB : Nat} {sv : Value} {Q : List PVa} (h : Mw w B mB xB pB sv Q) (hs : w.heap.size ≤ w'.heap.size) (hm : w'.heap[mB]? = w.heap[mB]?) (hx : w'.heap[xB]? = w.heap[xB]?) (hp : w'.heap[pB]? = w.heap[pB]?) (hk : ∀ k, some k ∈ sv.ownBlock :: Q.flatMap PVa.blks → w'.heap[k]? = w.heap[k]?) : Mw w' B mB xB pB sv Q :=
 ⟨World.rowIs.of_block h.made hm, World.rowIs.of_block h.mp hx, World.rowIs.of_block h.p hp, h.mem.keepB hk, h.rg.up hs, h.l1, h.l2, h.l3, h.n1⟩
def AI (w : World) (lo sB rB nB mB X B : Nat) (ib ob : Nat → Nat) (pre : List ByteArray) (U : Nat → Prop) (W : World) : Prop :=
 ∃ sv Q, AsI w lo sB rB nB mB X B ib ob pre sv Q W ∧ ∀ b, U b ↔ (lo ≤ b ∧ b < sB) ∨ some b ∈ sv.ownBlock :: Q.flatMap PVa.blks
def AX (w : World) (lo sB : Nat) (c : Code) (pre : List ByteArray) (U : Nat → Prop) (W : World) : Prop :=
 c = .ret ∧ Below lo w W ∧ (∀ b, U b ↔ lo ≤ b ∧ b < sB) ∧ sB ≤ W.heap.size ∧ ∃ (pre0 : List ByteArray) (x : ByteArray) (L : List PD), pre = pre0 ++ [x] ∧ Steps [] (pre0.map trimNL) L ∧ LineTo L (trimNL x) none ∧
  RowL W lo 25 [.slice none 0 0] ∧ RowL W (lo + 1) 3 [.int .i64 ((pre0.length : Int) + 2)]
theorem AsI.keep {w W C : World} {lo sB rB nB mB X B : Nat} {ib ob : Nat → Nat} {pre : List ByteArray} {sv : Value} {Q : List PVa} (h : AsI w lo sB rB nB mB X B ib ob pre sv Q W) (hn : Nums lo sB rB nB mB X B ib ob) (e1 : C.os = W.os) (e2 : C.tape = W.tape) (e3 : C.output = W.output) (e4 : W.heap.size ≤ C.heap.size)
  (e5 : ∀ b, lo ≤ b → b < sB → C.heap[b]? = W.heap[b]?) (e6 : ∀ b, b < lo → C.heap[b]? = W.heap[b]?) (e7 : ∀ k, some k ∈ sv.ownBlock :: Q.flatMap PVa.blks → C.heap[k]? = W.heap[k]?) : AsI w lo sB rB nB mB X B ib ob pre sv Q C := by
 have h1 := hn.m; have h2 := hn.x; have h3 := hn.r; have h4 := hn.n; have h5 := hn.s;refine ⟨⟨e1.trans h.bel.os, e2.trans h.bel.tape, e3.trans h.bel.output, Nat.le_trans h.bel.size e4, fun k hk => (e6 k hk).trans (h.bel.block k hk)⟩, World.rowIs.of_block h.res0 (e5 _ (by omega) (by omega)), World.rowIs.of_block h.res1 (e5 _ (by omega) (by omega)), World.rowIs.of_block h.rb (e5 _ (by omega) (by omega)), World.rowIs.of_block h.nb (e5 _ (by omega) (by omega)), (e5 _ (by omega) (by omega)).trans h.map, World.rowIs.of_block h.ar (e5 _ (by omega) (by omega)), fun j hj => ?_, h.mw.keep e4 (e5 _ (by omega) (by omega)) (e5 _ (by omega) (by omega)) (e5 _ (by omega) (by omega)) e7, h.st, h.far⟩;have := hn.i j hj;exact ⟨World.rowIs.of_block (h.ir j hj).1 (e5 _ (by omega) (by omega)), World.rowIs.of_block (h.ir j hj).2 (e5 _ (by omega) (by omega))⟩
theorem AI.foot {w : World} {lo sB rB nB mB X B : Nat} {ib ob : Nat → Nat} (hn : Nums lo sB rB nB mB X B ib ob) : FootU lo (AI w lo sB rB nB mB X B ib ob) := by
 rintro pre U A C ⟨sv, Q, h, hU⟩ e1 e2 e3 e4 e5 e6;exact ⟨sv, Q, h.keep hn e1 e2 e3 e4 (fun b h1 h2 => e5 b ((hU b).2 (.inl ⟨h1, h2⟩))) e6 (fun k hk => e5 k ((hU k).2 (.inr hk))), hU⟩
theorem AX.foot {w : World} {lo sB : Nat} (hls : lo + 2 < sB) (c : Code) : FootU lo (AX w lo sB c) := by
 rintro pre U A C ⟨h1, h2, h3, h4, p0, x, L, h5, h6, h7, h8, h9⟩ e1 e2 e3 e4 e5 e6;exact ⟨h1, ⟨e1.trans h2.os, e2.trans h2.tape, e3.trans h2.output, Nat.le_trans h2.size e4, fun k hk => (e6 k hk).trans (h2.block k hk)⟩, h3, Nat.le_trans h4 e4, p0, x, L, h5, h6, h7, World.rowIs.of_block h8 (e5 _ ((h3 _).2 (by omega))), World.rowIs.of_block h9 (e5 _ ((h3 _).2 (by omega)))⟩
theorem AsI.lt {w W : World} {lo sB rB nB mB X B : Nat} {ib ob : Nat → Nat} {pre : List ByteArray} {sv : Value} {Q : List PVa} (h : AsI w lo sB rB nB mB X B ib ob pre sv Q W) : ∀ k, some k ∈ sv.ownBlock :: Q.flatMap PVa.blks → B ≤ k ∧ k < W.heap.size := fun k hk => ⟨(h.mw.mem.blkLt k hk).2, (h.mw.mem.blkLt k hk).1⟩
theorem AI.step {w W W2 W3 : World} {lo sB rB nB mB X B : Nat} {ib ob : Nat → Nat} {pre : List ByteArray} {x p0 : ByteArray} {r : List ByteArray} {sv sv' : Value} {Q Q' : List PVa} {U : Nat → Prop} (h : AsI w lo sB rB nB mB X B ib ob pre sv Q W) (hU : ∀ b, U b ↔ (lo ≤ b ∧ b < sB) ∨ some b ∈ sv.ownBlock :: Q.flatMap PVa.blks)
  (hn : Nums lo sB rB nB mB X B ib ob) (hs : sB + 3 ≤ W.heap.size) (hb : Below W.heap.size W W2) (hc : Chg W2 W3 mB (X + 1) sv Q) (hm : Mw W3 B mB X (X + 1) sv' Q') (hf : Foot W2 sv Q sv' Q') (hcut : cutB 32 (trimNL x) = p0 :: r) (hl : LStep (Q.map (·.p)) p0 r (some (Q'.map (·.p)))) :
  ∃ U', GrowU U U' W (W3.setCell ⟨nB, 0, none⟩ (.int .i64 ((pre.length : Int) + 1))) ∧ AI w lo sB rB nB mB X B ib ob (pre ++ [x]) U' (W3.setCell ⟨nB, 0, none⟩ (.int .i64 ((pre.length : Int) + 1))) := by
 have h1 := hn.m; have h2 := hn.x; have h3 := hn.r; have h4 := hn.n; have h5 := hn.s; have h6 := hn.b;obtain ⟨W4, hW4⟩ : ∃ W4, W3.setCell ⟨nB, 0, none⟩ (.int .i64 ((pre.length : Int) + 1)) = W4 := ⟨_, rfl⟩;rw [hW4];have hsz : W4.heap.size = W3.heap.size := by rw [← hW4, World.size_setCell]
 have k4 : ∀ b, b ≠ nB → W4.heap[b]? = W3.heap[b]? := fun b hb => by rw [← hW4]; exact heap_setCell_other W3 ⟨nB, 0, none⟩ b _ hb
 have k3 : ∀ b, b < W.heap.size → b ≠ mB → b ≠ X + 1 → some b ∉ sv.ownBlock :: Q.flatMap PVa.blks → W3.heap[b]? = W.heap[b]? := fun b hb1 hb2 hb3 hb4 => (hc.block b (Nat.lt_of_lt_of_le hb1 hb.size) hb2 hb3 hb4).trans (hb.block b hb1);have kc : ∀ b, lo ≤ b → b < sB → b ≠ mB → b ≠ X + 1 → W3.heap[b]? = W.heap[b]? := fun b hb1 hb2 hb3 hb4 => k3 b (by omega) hb3 hb4 (fun e => by have := (h.lt b e).1; omega);have eo : W4.os = W3.os ∧ W4.tape = W3.tape ∧ W4.output = W3.output := by rw [← hW4]; exact ⟨rfl, rfl, rfl⟩
 have hbl : ∀ b, some b ∈ sv'.ownBlock :: Q'.flatMap PVa.blks → some b ∈ sv.ownBlock :: Q.flatMap PVa.blks ∨ W.heap.size ≤ b := fun b hb9 => by
  rcases hf b hb9 with e | e
  ·exact .inl e
  ·exact .inr (Nat.le_trans hb.size e)
 have hnb3 : RowL W3 nB 3 [.int .i64 (pre.length : Int)] := World.rowIs.of_block h.nb (kc nB (by omega) (by omega) (by omega) (by omega));refine ⟨fun b => (lo ≤ b ∧ b < sB) ∨ some b ∈ sv'.ownBlock :: Q'.flatMap PVa.blks, ⟨by rw [hsz]; exact Nat.le_trans hb.size hc.size, fun b hb9 hU9 => ?_, fun b hb9 => ?_⟩, sv', Q', ⟨?_, ?_, ?_, ?_, ?_, ?_, ?_, fun j hj => ?_, ?_, ?_, fun b hb9 => ?_⟩, fun _ => Iff.rfl⟩
 ·rw [hU] at hU9;have hx : ¬ (lo ≤ b ∧ b < sB) := fun e => hU9 (.inl e);rw [k4 b (fun e => hx (by omega)), k3 b hb9 (fun e => hx (by omega)) (fun e => hx (by omega)) (fun e => hU9 (.inr e))]
 ·rw [hU];rcases hb9 with e | e
  ·exact .inl (.inl e)
  ·rcases hbl b e with e | e
   ·exact .inl (.inr e)
   ·exact .inr e
 ·exact ⟨eo.1.trans (hc.os.trans (hb.os.trans h.bel.os)), eo.2.1.trans (hc.tape.trans (hb.tape.trans h.bel.tape)), eo.2.2.trans (hc.output.trans (hb.output.trans h.bel.output)), by rw [hsz]; exact Nat.le_trans h.bel.size (Nat.le_trans hb.size hc.size), fun k hk => by
   rw [k4 k (by omega), k3 k (by omega) (by omega) (by omega) (fun e => by have := (h.lt k e).1; omega)];exact h.bel.block k hk⟩
 ·exact World.rowIs.of_block h.res0 ((k4 _ (by omega)).trans (kc _ (by omega) (by omega) (by omega) (by omega)))
 ·exact World.rowIs.of_block h.res1 ((k4 _ (by omega)).trans (kc _ (by omega) (by omega) (by omega) (by omega)))
 ·exact World.rowIs.of_block h.rb ((k4 _ (by omega)).trans (kc _ (by omega) (by omega) (by omega) (by omega)))
 ·have := hnb3.set 0 (.int .i64 ((pre.length : Int) + 1));rw [hW4] at this
  simpa using this
 ·exact ((k4 _ (by omega)).trans (kc _ (by omega) (by omega) (by omega) (by omega))).trans h.map
 ·exact World.rowIs.of_block h.ar ((k4 _ (by omega)).trans (kc _ (by omega) (by omega) (by omega) (by omega)))
 ·have := hn.i j hj;exact ⟨World.rowIs.of_block (h.ir j hj).1 ((k4 _ (by omega)).trans (kc _ (by omega) (by omega) (by omega) (by omega))), World.rowIs.of_block (h.ir j hj).2 ((k4 _ (by omega)).trans (kc _ (by omega) (by omega) (by omega) (by omega)))⟩
 ·exact hm.keep (by omega) (k4 _ (by omega)) (k4 _ (by omega)) (k4 _ (by omega)) (fun k hk => k4 k (by have := (hm.mem.blkLt k hk).2; omega))
 ·rw [List.map_append];exact h.st.snoc ⟨p0, r, hcut, hl⟩
 ·rcases hbl b hb9 with e | e
  ·exact h.far b e
  ·omega
theorem AI.bad {w W W2 W3 : World} {lo sB rB nB mB X B : Nat} {ib ob : Nat → Nat} {pre : List ByteArray} {x p0 : ByteArray} {r : List ByteArray} {sv : Value} {Q : List PVa} {U : Nat → Prop} (h : AsI w lo sB rB nB mB X B ib ob pre sv Q W) (hU : ∀ b, U b ↔ (lo ≤ b ∧ b < sB) ∨ some b ∈ sv.ownBlock :: Q.flatMap PVa.blks)
  (hn : Nums lo sB rB nB mB X B ib ob) (hs : sB + 3 ≤ W.heap.size) (hb : Below W.heap.size W W2) (hc : Chg W2 W3 mB (X + 1) sv Q) (hcut : cutB 32 (trimNL x) = p0 :: r) (hl : LStep (Q.map (·.p)) p0 r none) :
  (W3.cell? ⟨nB, 0, none⟩ = some (.int .i64 (pre.length : Int)) ∧ RowL W3 lo 25 [.slice none 0 0] ∧ RowL W3 (lo + 1) 3 [.int .i64 0]) ∧
  ∃ U', GrowU U U' W ((W3.drew.setCell ⟨lo, 0, none⟩ (.slice none 0 0)).setCell ⟨lo + 1, 0, none⟩ (.int .i64 ((pre.length : Int) + 2))) ∧ AX w lo sB .ret (pre ++ [x]) U' ((W3.drew.setCell ⟨lo, 0, none⟩ (.slice none 0 0)).setCell ⟨lo + 1, 0, none⟩ (.int .i64 ((pre.length : Int) + 2))) := by
 have h1 := hn.m; have h2 := hn.x; have h3 := hn.r; have h4 := hn.n; have h5 := hn.s; have h6 := hn.b;have k3 : ∀ b, b < W.heap.size → b ≠ mB → b ≠ X + 1 → some b ∉ sv.ownBlock :: Q.flatMap PVa.blks → W3.heap[b]? = W.heap[b]? := fun b hb1 hb2 hb3 hb4 => (hc.block b (Nat.lt_of_lt_of_le hb1 hb.size) hb2 hb3 hb4).trans (hb.block b hb1);have kc : ∀ b, lo ≤ b → b < sB → b ≠ mB → b ≠ X + 1 → W3.heap[b]? = W.heap[b]? := fun b hb1 hb2 hb3 hb4 => k3 b (by omega) hb3 hb4 (fun e => by have := (h.lt b e).1; omega);have r0 : RowL W3 lo 25 [.slice none 0 0] := World.rowIs.of_block h.res0 (kc lo (by omega) (by omega) (by omega) (by omega));have r1 : RowL W3 (lo + 1) 3 [.int .i64 0] := World.rowIs.of_block h.res1 (kc (lo + 1) (by omega) (by omega) (by omega) (by omega));have rn : RowL W3 nB 3 [.int .i64 (pre.length : Int)] := World.rowIs.of_block h.nb (kc nB (by omega) (by omega) (by omega) (by omega));refine ⟨⟨rn.cell 0 rfl, r0, r1⟩, ?_⟩;obtain ⟨W4, hW4⟩ : ∃ W4, (W3.drew.setCell ⟨lo, 0, none⟩ (.slice none 0 0)).setCell ⟨lo + 1, 0, none⟩ (.int .i64 ((pre.length : Int) + 2)) = W4 := ⟨_, rfl⟩;have q0 : RowL W4 lo 25 [.slice none 0 0] := by rw [← hW4]; exact ((r0.call (Below.refl _ _).drew).set 0 (.slice none 0 0)).other (a := ⟨lo + 1, 0, none⟩) (show lo ≠ lo + 1 by omega) _
 have q1 : RowL W4 (lo + 1) 3 [.int .i64 ((pre.length : Int) + 2)] := by rw [← hW4]; exact ((r1.call (Below.refl _ _).drew).other (a := ⟨lo, 0, none⟩) (show lo + 1 ≠ lo by omega) _).set 0 _
 have k4 : ∀ b, b ≠ lo → b ≠ lo + 1 → W4.heap[b]? = W3.heap[b]? := fun b hb hb2 => by rw [← hW4]; exact (heap_setCell_other _ ⟨lo + 1, 0, none⟩ b _ hb2).trans (heap_setCell_other W3.drew ⟨lo, 0, none⟩ b _ hb)
 have hsz : W4.heap.size = W3.heap.size := by rw [← hW4, World.size_setCell, World.size_setCell]; rfl
 have eo : W4.os = W3.os ∧ W4.tape = W3.tape ∧ W4.output = W3.output := by rw [← hW4]; exact ⟨rfl, rfl, rfl⟩
 rw [hW4];refine ⟨fun b => lo ≤ b ∧ b < sB, ⟨by rw [hsz]; exact Nat.le_trans hb.size hc.size, fun b hb9 hU9 => ?_, fun b hb9 => .inl ((hU b).2 (.inl hb9))⟩, rfl, ?_, fun _ => Iff.rfl, by rw [hsz]; have := hb.size; have := hc.size; omega, pre, x, _, rfl, h.st, ⟨p0, r, hcut, hl⟩, q0, q1⟩
 ·rw [hU] at hU9;have hx : ¬ (lo ≤ b ∧ b < sB) := fun e => hU9 (.inl e);rw [k4 b (fun e => hx (by omega)) (fun e => hx (by omega)), k3 b hb9 (fun e => hx (by omega)) (fun e => hx (by omega)) (fun e => hU9 (.inr e))]
 ·exact ⟨eo.1.trans (hc.os.trans (hb.os.trans h.bel.os)), eo.2.1.trans (hc.tape.trans (hb.tape.trans h.bel.tape)), eo.2.2.trans (hc.output.trans (hb.output.trans h.bel.output)), by rw [hsz]; exact Nat.le_trans h.bel.size (Nat.le_trans hb.size hc.size), fun k hk => by
   rw [k4 k (by omega) (by omega), k3 k (by omega) (by omega) (by omega) (fun e => by have := (h.lt k e).1; omega)];exact h.bel.block k hk⟩
end Go.Proofs.YtplijnfaiofckaaGreatDoor

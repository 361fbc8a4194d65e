import Derived.Test.YtplijnfaiofckaaGreatDoorGc
namespace Go.Proofs.YtplijnfaiofckaaGreatDoor
open Go.RowKit
set_option linter.unusedVariables false
set_option linter.unusedSimpArgs false
set_option maxRecDepth 100000
set_option maxHeartbeats 9000000
theorem l4Block_in (c : Sl Int) (p : Nat) (kids ups : Int) (va inn : Bool) (k1 : 0 ≤ kids) (k2 : kids ≤ 3) (u1 : 0 ≤ ups) (u2 : ups ≤ 3) (hp : p ≤ 100000) : BlkOk c p kids ups va inn := by
  obtain ⟨a, ha⟩ : ∃ a, tk c p 30 = a := ⟨_, rfl⟩;obtain ⟨x, hx⟩ : ∃ x, tk c (p + 1) 4 = x := ⟨_, rfl⟩;obtain ⟨y, hy⟩ : ∃ y, tk c (p + 2) 4 = y := ⟨_, rfl⟩;obtain ⟨z, hz⟩ : ∃ z, tk c (p + 3) 16 = z := ⟨_, rfl⟩;have ba := tk_bd c p 30;have bx := tk_bd c (p + 1) 4;have bY := tk_bd c (p + 2) 4;have bz := tk_bd c (p + 3) 16;rw [ha] at ba;rw [hx] at bx;rw [hy] at bY;rw [hz] at bz;have a1 := ba.1;have a2 := ba.2 (by omega);have x1 := bx.1;have x2 : x ≤ 3 := by have := bx.2 (by omega); omega
  have y1 := bY.1;have y2 : y ≤ 3 := by have := bY.2 (by omega); omega
  have z1 := bz.1;have z2 : z ≤ 15 := by have := bz.2 (by omega); omega
  have hd : Dr c p a x y z := ⟨ha, hx, hy, hz⟩;clear ba bx bY bz ha hx hy hz;by_cases c6 : a < 6
  focus
    by_cases cz : z ≤ 13
    focus
      refine blk_of [pI (9 + z % 3) (x) (y) (z / 4), pI (0) (z % 4) (x) (0)] ?_
    rotate_left 1
    refine blk_of [pI (12 + z % 2) (x) (y) (z / 4), pI (0) (z % 4) (x) (0)] ?_
  rotate_left 2
  by_cases c9 : a < 9
  focus
    refine blk_of [pI (8) (4) (x) (y), pI (7) (6 + z % 3) (4) (z % 4), pI (17) (10) (4) (0)] ?_
  rotate_left 1
  by_cases e9 : a = 9
  focus
    refine blk_of [pI (14) (5) (5) (x), pI (17) (y) (5) (0)] ?_
  rotate_left 1
  by_cases c12 : a < 12
  focus
    refine blk_of [pI (19 + z % 2) (z / 2 % 2) (x) (y), pW (18) (0) (1), pI (9) (x) (x) (3), pI (16) (y) (x) (0)] ?_
  rotate_left 1
  by_cases e12 : a = 12
  focus
    refine blk_of [pI (15) (10) (x) (0), pI (21) (10) (0) (z % 2), pW (18) (0) (1), pI (0) (x) (y) (0), pI (2) (8) (2) (0)] ?_
  rotate_left 1
  by_cases c15 : a < 15
  focus
    by_cases ck : kids = 0
    focus
      exact blk6b c p kids ups va inn a x y z hd x1 x2 y1 y2 z1 z2 k1 k2 u1 u2 hp (by omega) c15 ck
    by_cases cz : z % 2 = 0
    focus
      exact blk6a c p kids ups va inn a x y z hd x1 x2 y1 y2 z1 z2 k1 k2 u1 u2 hp (by omega) c15 (by omega) cz
    exact blk6c c p kids ups va inn a x y z hd x1 x2 y1 y2 z1 z2 k1 k2 u1 u2 hp (by omega) c15 (by omega) cz
  by_cases c19 : a < 19
  focus
    by_cases cu : ups = 0
    focus
      by_cases e15 : a = 15
      focus
        by_cases ck : kids = 0
        focus
          refine blk_of [pI (9) (x) (y) (3)] ?_
        rotate_left 1
        obtain ⟨L, hl, hu, hcb⟩ := qh5 x y z kids ⟨x1, x2⟩ ⟨y1, y2⟩ ⟨z1, z2⟩ ⟨by omega, k2⟩;replace hcb : Hid _ := hcb;refine ⟨L, by omega, hu, ?_⟩
      rotate_left 2
      by_cases ck : kids = 0
      focus
        refine blk_of [pI (9) (x) (y) (3)] ?_
      rotate_left 1
      obtain ⟨L, hl, hu, hcb⟩ := qh5 x y z kids ⟨x1, x2⟩ ⟨y1, y2⟩ ⟨z1, z2⟩ ⟨by omega, k2⟩;replace hcb : Hid _ := hcb;refine ⟨L, by omega, hu, ?_⟩
    rotate_left 4
    by_cases e15 : a = 15
    focus
      exact blk7 c p kids ups va inn a x y z hd x1 x2 y1 y2 z1 z2 k1 k2 u1 u2 hp e15 (by omega)
    exact blk8 c p kids ups va inn a x y z hd x1 x2 y1 y2 z1 z2 k1 k2 u1 u2 hp (by omega) c19 (by omega)
  rotate_left 4
  by_cases c23 : a < 23
  focus
    by_cases ck : kids = 0
    focus
      refine blk_of [pI (9) (x) (y) (3)] ?_
    rotate_left 1
    obtain ⟨L, hl, hu, hcb⟩ := qh5 x y z kids ⟨x1, x2⟩ ⟨y1, y2⟩ ⟨z1, z2⟩ ⟨by omega, k2⟩;replace hcb : Hid _ := hcb;refine ⟨L, by omega, hu, ?_⟩
  rotate_left 2
  by_cases c27 : a < 27
  focus
    by_cases ck : kids = 0
    focus
      refine blk_of [pI (9) (x) (y) (3)] ?_
    rotate_left 1
    obtain ⟨L, hl, hu, hcb⟩ := l4ThreadBlock_in x y z kids ⟨x1, x2⟩ ⟨y1, y2⟩ ⟨z1, z2⟩ ⟨by omega, k2⟩;replace hcb : Hid _ := hcb;refine ⟨L, by omega, hu, ?_⟩
  rotate_left 2
  by_cases e27 : a = 27
  focus
    cases inn
    focus
      refine blk_of [pI (9) (x) (y) (3)] ?_
    rotate_left 1
    refine blk_of [pI (0) (7) (x) (0), pI (31) (7) (z % 3) (1 + z % 2), pI (0) (y) (7) (0)] ?_
  rotate_left 2
  by_cases e28 : a = 28
  focus
    cases inn
    focus
      cases va
      focus
        refine blk_of [pI (9) (x) (y) (3)] ?_
      rotate_left 1
      refine blk_of [pI (24) (7) (2) (0), pI (0) (x) (7) (0)] ?_
    rotate_left 2
    by_cases cz : z < 4
    focus
      refine blk_of [pI (0) (7) (x) (0), pI (31) (7) (1) (511), pI (23) (7) (511) (0)] ?_
    rotate_left 1
    cases va
    focus
      refine blk_of [pI (9) (x) (y) (3)] ?_
    rotate_left 1
    refine blk_of [pI (24) (7) (2) (0), pI (0) (x) (7) (0)] ?_
  rotate_left 5
  have e29 : a = 29 := by omega
  by_cases cz : z = 0
  focus
    refine blk_of [pI (33) (x) (0) (0)] ?_
  rotate_left 1
  refine blk_of [pI (3) (10) (z % 2) (0), pI (26) (z % 12) (0) (0), pI (6) (11) (0) (0), pI (8) (11) (5) (10), pI (7) (9) (11) (5)] ?_
  all_goals
    intro w v hC;have B := Below.refl w.heap.size w;obtain ⟨ha, hx, hy, hz⟩ := hd;replace ha : Hid _ := ha;replace hx : Hid _ := hx;replace hy : Hid _ := hy;replace hz : Hid _ := hz;obtain ⟨ao, cap, rfl, hl0⟩ : ∃ ao cap, v = .slice ao c.n cap ∧ c.n ≤ 9223372036854775807 := by obtain ⟨⟨ao, cap, h1, h2, -⟩, -, -⟩ := hC; exact ⟨ao, cap, h1, h2⟩
    replace hC : Hid _ := hC;go_enter Tryz.func132, Tryz.ntmps132;go_wp2_with fail;refine (qc4 c _ p p 30 w rfl hC.out (by omega) (by omega) ha.out).mono ?_;rintro e w' ⟨rfl, rfl⟩;go_wp2_with fail;refine (qc4 c _ (p + 1) (p + 1) 4 _ (by omega) hC.out (by omega) (by omega) hx.out).mono ?_;rintro e w' ⟨rfl, rfl⟩;go_wp2_with fail;refine (qc4 c _ (p + 2) (p + 1 + 1) 4 _ (by omega) hC.out (by omega) (by omega) hy.out).mono ?_;rintro e w' ⟨rfl, rfl⟩;go_wp2_with fail;refine (qc4 c _ (p + 3) (p + 1 + 1 + 1) 16 _ (by omega) hC.out (by omega) (by omega) hz.out).mono ?_;rintro e w' ⟨rfl, rfl⟩;clear ha hx hy hz hC;go_wp2_with fail
    first
      | refine Calls.mono (hcb.out _) ?_
        rintro e w' ⟨u, rfl, S⟩;go_wp2_with fail
        go_ret2
        exact ⟨_, _, rfl, by omega, S⟩
      | repeat
          first | refine (l4I_in _ _ _ _ _).mono ?_ | refine (l4W_in _ _ _ _).mono ?_
          rintro e yy ⟨rfl, bb⟩;replace B := B.trans (bb.mono B.size);clear bb;go_wp2_with fail
        go_ret2
        first | exact ⟨_, _, rfl, by omega, WS.lit1 B _⟩ | exact ⟨_, _, rfl, by omega, WS.lit2 B _ _⟩ | exact ⟨_, _, rfl, by omega, WS.lit3 B _ _ _⟩ | exact ⟨_, _, rfl, by omega, WS.lit4 B _ _ _ _⟩ | exact ⟨_, _, rfl, by omega, WS.lit5 B _ _ _ _ _⟩
end Go.Proofs.YtplijnfaiofckaaGreatDoor
namespace Go.Proofs.YtplijnfaiofckaaGreatDoor
open Go.RowKit Go.Shelf
set_option linter.unusedVariables false
set_option linter.unusedSimpArgs false
set_option maxRecDepth 100000
set_option maxHeartbeats 9000000
def cnt (c : Sl Int) : Nat := if 2 + c.n / 10 > 7 then 7 else 2 + c.n / 10
theorem cnt_le (c : Sl Int) : cnt c ≤ 7 := by unfold cnt; split <;> omega
theorem l1Count_in (c : Sl Int) (ao : Option Addr) (cap : Nat) (w : World) (hc : c.n ≤ 1048576) :
  Calls Tryz.prog 131 #[.slice ao c.n cap, .int .i64 10, .int .i64 2, .int .i64 7] w fun e w' => e = .returned (.int .i64 (cnt c : Nat)) ∧ w = w' := by
 by_cases h : 2 + c.n / 10 > 7
 ·have e : cnt c = 7 := if_pos h;rw [e];go_enter Tryz.func131, Tryz.ntmps131;go_wp2_with fail;go_ret;exact ⟨rfl, rfl⟩
 ·have e : cnt c = 2 + c.n / 10 := if_neg h;rw [e];go_enter Tryz.func131, Tryz.ntmps131;go_wp2_with fail;go_ret;exact ⟨by simp, rfl⟩
theorem RowL.lt {w : World} {b : Nat} {t : TypeId} {L : List Value} (h : RowL w b t L) : b < w.heap.size := World.rowIs.lt h
theorem qa3 {y : World} {base : Nat} {e t : TypeId} {z n b : Nat} {v : Value} {xs L : List Value} (h : y.ownsRow base e z v n xs) (k : RowL y b t L) (he : e ≠ t) : v.ownBlock ≠ some b := fun e1 => by
 rcases h.2 with ⟨rfl, _⟩ | ⟨g, cap, cur, rfl, _, hg, _⟩
 ·simp [Value.ownBlock] at e1
 ·simp only [Value.ownBlock, Option.some.injEq] at e1;subst e1;obtain ⟨cur', h2, _⟩ := k;rw [hg] at h2;simp only [Option.some.injEq, Obj.cells.injEq] at h2;exact he h2.2.1
theorem qe8 {y : World} {base base' : Nat} {e t : TypeId} {z z' n n' : Nat} {v u : Value} {xs ys : List Value} (h : y.ownsRow base e z v n xs) (k : y.ownsRow base' t z' u n' ys) (he : e ≠ t) : ∀ b, u.ownBlock = some b → v.ownBlock ≠ some b := fun b hb e1 => by
 rcases h.2 with ⟨rfl, _⟩ | ⟨g, cap, cur, rfl, _, hg, _⟩
 ·simp [Value.ownBlock] at e1
 ·rcases k.2 with ⟨rfl, _⟩ | ⟨g', cap', cur', rfl, _, hg', _⟩
  ·simp [Value.ownBlock] at hb
  ·simp only [Value.ownBlock, Option.some.injEq] at e1 hb;subst e1 hb;rw [hg] at hg';simp only [Option.some.injEq, Obj.cells.injEq] at hg';exact he hg'.2.1
theorem qa7 {base : Nat} {e : TypeId} {z n : Nat} {y y' : World} {v : Value} {xs : List Value} (h : y.ownsRow base e z v n xs) (hk : ∀ k, v.ownBlock = some k → y'.heap[k]? = y.heap[k]?) : y'.ownsRow base e z v n xs := by
 refine ⟨h.1, ?_⟩;rcases h.2 with hn | ⟨g, cap, cur, hv, hbb, hg, rest⟩
 ·exact .inl hn
 ·exact .inr ⟨g, cap, cur, hv, hbb, (hk g (by rw [hv]; rfl)).trans hg, rest⟩
def qc6 : List UD → List Value
 | [] => []
 | u :: us => .bool u.stack :: .int .i64 u.index :: qc6 us
theorem qh4 (a b : List UD) : qc6 (a ++ b) = qc6 a ++ qc6 b := by
 induction a with
 | nil => rfl
 | cons u us ih => simp [qc6, ih]
theorem upCells_len (a : List UD) : (qc6 a).length = a.length * 2 := by
 induction a with
 | nil => rfl
 | cons u us ih => simp only [qc6, List.length_cons, ih]; omega
structure QSt (w0 : World) (Bq Bc : Nat) (pa : Int) (va : Bool) (kids : Int) (KC : List Value) (y : World) (vc : Value) (L : List Int) (vu : Value) (U : List UD) : Prop where
 box : RowL y Bq 63 [.int .i64 pa, .bool va, .int .i64 12, vc, .slice (some ⟨Bc, 0, none⟩) 6 6, vu, .int .i64 kids, .string ⟨#[]⟩, .slice none 0 0, .slice none 0 0]
 cst : RowL y Bc 96 KC
 code : y.ownsRow w0.heap.size 101 1 vc L.length (L.map (Value.int .u32))
 ups : y.ownsRow w0.heap.size 99 2 vu U.length (qc6 U)
 bel : Below w0.heap.size w0 y
 hBq : w0.heap.size ≤ Bq
 hBc : w0.heap.size ≤ Bc
section
variable {w0 : World} {Bq Bc : Nat} {pa : Int} {va : Bool} {kids : Int} {KC : List Value} {y : World} {vc : Value} {L : List Int} {vu : Value} {U : List UD}
theorem QSt.later (h : QSt w0 Bq Bc pa va kids KC y vc L vu U) {y' : World} (hb : Below y.heap.size y y') : QSt w0 Bq Bc pa va kids KC y' vc L vu U :=
 ⟨h.box.call hb, h.cst.call hb, qb0 h.code hb, qb0 h.ups hb, h.bel.trans (hb.mono h.bel.size), h.hBq, h.hBc⟩
theorem QSt.drew (h : QSt w0 Bq Bc pa va kids KC y vc L vu U) : QSt w0 Bq Bc pa va kids KC y.drew vc L vu U := h.later (Below.refl _ _).drew
theorem QSt.app (h : QSt w0 Bq Bc pa va kids KC y vc L vu U) {w' : World} {v' : Value} {N : List Int} (hrow : w'.ownsRow w0.heap.size 101 1 v' (L ++ N).length ((L ++ N).map (Value.int .u32))) (hg : y.grownBy w' vc.ownBlock) :
  QSt w0 Bq Bc pa va kids KC (w'.setCell ⟨Bq, 3, none⟩ v') v' (L ++ N) vu U ∧ RowL w' Bq 63 [.int .i64 pa, .bool va, .int .i64 12, vc, .slice (some ⟨Bc, 0, none⟩) 6 6, vu, .int .i64 kids, .string ⟨#[]⟩, .slice none 0 0, .slice none 0 0] := by
 have n1 := qa3 h.code h.box (by decide);have n2 := qa3 h.code h.cst (by decide);have n3 := qe8 h.code h.ups (by decide);have b1 : RowL w' Bq 63 _ := World.rowIs.of_block h.box (hg.block Bq h.box.lt fun e => n1 e.symm);have b2 : RowL w' Bc 96 KC := World.rowIs.of_block h.cst (hg.block Bc h.cst.lt fun e => n2 e.symm)
 have hu : w'.ownsRow w0.heap.size 99 2 vu U.length (qc6 U) := World.ownsRow.kept h.ups hg (by
  cases e : vu.ownBlock with
  | none => exact .inl rfl
  | some q => exact .inr fun e2 => n3 q e e2.symm)
 have n4 := qa3 hrow b1 (by decide);have n5 := qa3 hu b1 (by decide)
 have hne : Bq ≠ Bc := by
  rintro rfl;obtain ⟨c1, e1, _⟩ := b1;obtain ⟨c2, e2, _⟩ := b2;rw [e1] at e2;simp at e2
 refine ⟨⟨b1.set 3 v', b2.other (a := ⟨Bq, 3, none⟩) (Ne.symm hne) v', ?_, ?_, ?_, h.hBq, h.hBc⟩, b1⟩
 ·exact qa7 hrow fun k hk => Below.heap_setCell _ _ _ _ (by rintro rfl; exact n4 hk)
 ·exact qa7 hu fun k hk => Below.heap_setCell _ _ _ _ (by rintro rfl; exact n5 hk)
 ·exact (Below.grown h.bel hg h.bel.size (fun q hq => (h.code.lt q hq).1)).setCell (p := ⟨Bq, 3, none⟩) h.hBq _
end
end Go.Proofs.YtplijnfaiofckaaGreatDoor
namespace Go.Proofs.YtplijnfaiofckaaGreatDoor
open Go.RowKit Go.Shelf
set_option linter.unusedVariables false
set_option linter.unusedSimpArgs false
section
variable {w0 : World} {Bq Bc : Nat} {pa : Int} {va : Bool} {kids : Int} {KC : List Value} {y : World} {vc : Value} {L : List Int} {vu : Value} {U : List UD}
theorem QSt.appUp (h : QSt w0 Bq Bc pa va kids KC y vc L vu U) {w' : World} {v' : Value} {N : List UD} (hrow : w'.ownsRow w0.heap.size 99 2 v' (U ++ N).length (qc6 (U ++ N))) (hg : y.grownBy w' vu.ownBlock) :
  QSt w0 Bq Bc pa va kids KC (w'.setCell ⟨Bq, 5, none⟩ v') vc L v' (U ++ N) ∧ RowL w' Bq 63 [.int .i64 pa, .bool va, .int .i64 12, vc, .slice (some ⟨Bc, 0, none⟩) 6 6, vu, .int .i64 kids, .string ⟨#[]⟩, .slice none 0 0, .slice none 0 0] := by
 have n1 := qa3 h.ups h.box (by decide);have n2 := qa3 h.ups h.cst (by decide);have n3 := qe8 h.ups h.code (by decide);have b1 : RowL w' Bq 63 _ := World.rowIs.of_block h.box (hg.block Bq h.box.lt fun e => n1 e.symm);have b2 : RowL w' Bc 96 KC := World.rowIs.of_block h.cst (hg.block Bc h.cst.lt fun e => n2 e.symm)
 have hu : w'.ownsRow w0.heap.size 101 1 vc L.length (L.map (Value.int .u32)) := World.ownsRow.kept h.code hg (by
  cases e : vc.ownBlock with
  | none => exact .inl rfl
  | some q => exact .inr fun e2 => n3 q e e2.symm)
 have n4 := qa3 hrow b1 (by decide);have n5 := qa3 hu b1 (by decide)
 have hne : Bq ≠ Bc := by
  rintro rfl;obtain ⟨c1, e1, _⟩ := b1;obtain ⟨c2, e2, _⟩ := b2;rw [e1] at e2;simp at e2
 refine ⟨⟨b1.set 5 v', b2.other (a := ⟨Bq, 5, none⟩) (Ne.symm hne) v', ?_, ?_, ?_, h.hBq, h.hBc⟩, b1⟩
 ·exact qa7 hu fun k hk => Below.heap_setCell _ _ _ _ (by rintro rfl; exact n5 hk)
 ·exact qa7 hrow fun k hk => Below.heap_setCell _ _ _ _ (by rintro rfl; exact n4 hk)
 ·exact (Below.grown h.bel hg h.bel.size (fun q hq => (h.ups.lt q hq).1)).setCell (p := ⟨Bq, 5, none⟩) h.hBq _
end
theorem infoUp : (Tryz.prog.info? 99).map (fun i => (i.zero, i.size, i.bytes)) = some (some (.agg #[.bool false, .int .i64 0]), 2, 16) := by kernel_rfl
def blkCat (M : Nat → List Int) : Nat → List Int
 | 0 => []
 | k + 1 => blkCat M k ++ M k
def ldL (a : Int) (i0 : Nat) : Nat → List Int
 | 0 => []
 | k + 1 => ldL a i0 k ++ [pW 1 (i0 + k : Nat) ((a + (i0 + k : Nat)) % 4)]
theorem ldL_len (a : Int) (i0 : Nat) : ∀ k, (ldL a i0 k).length = k
 | 0 => rfl
 | k + 1 => by simp [ldL, ldL_len a i0 k]
def kcL (c : Sl Int) (p : Nat) : List Value := [.int .i64 2, .int .i64 (tk c (p + 1) 12), .string ⟨#[]⟩, .int .i64 2, .int .i64 (tk c (p + 2) 6 - 2), .string ⟨#[]⟩, .int .i64 2, .int .i64 (tk c (p + 2) 6 + 1), .string ⟨#[]⟩, .int .i64 2, .int .i64 1, .string ⟨#[]⟩, .int .i64 3, .int .i64 0, .string ⟨#[115]⟩, .int .i64 1, .int .i64 1, .string ⟨#[]⟩]
def endL (a : Int) (b : Int) : List Int := if a = 0 ∧ b < 3 then [pI 24 2 511 0, pI 23 0 511 0] else [pI 23 0 (1 + a) 0]
def codeL (c : Sl Int) (p : Nat) (M : Nat → List Int) : List Int :=
 ldL (tk c (p + 1) 12) (tk c (p + 1) 12 % 4).toNat (4 - (tk c (p + 1) 12 % 4).toNat) ++ [pI 6 4 0 0, pW 1 5 4] ++ blkCat M (cnt c) ++ endL (tk c (p + 3 + 4 * cnt c) 6) (tk c (p + 2) 6)
def upL (c : Sl Int) (p : Nat) : Nat → List UD
 | 0 => []
 | k + 1 => upL c p k ++ [⟨true, tk c (p + 4 + 4 * cnt c + k) 4⟩]
theorem qg4 (c : Sl Int) (p : Nat) : ∀ k, (upL c p k).length = k
 | 0 => rfl
 | k + 1 => by simp [upL, qg4 c p k]
def slOf {α : Type} [Inhabited α] (L : List α) : Sl α := ⟨L.length, fun i => L.getD i default⟩
instance : Inhabited UD := ⟨⟨false, 0⟩⟩
instance : Inhabited VD := ⟨⟨0, 0, ⟨#[]⟩⟩⟩
instance : Inhabited PD := ⟨⟨0, false, 0, slOf [], slOf [], slOf [], 0, ⟨#[]⟩, slOf [], slOf []⟩⟩
structure PV where
  p : PD
  a3 : Value
  a4 : Value
  a5 : Value
  a8 : Value
  a9 : Value
def PV.cells (x : PV) : List Value := [.int .i64 x.p.params, .bool x.p.vararg, .int .i64 x.p.regs, x.a3, x.a4, x.a5, .int .i64 x.p.kids, .string x.p.name, x.a8, x.a9]
def qa5 : List PV → List Value
  | [] => []
  | x :: xs => x.cells ++ qa5 xs
theorem qf1 (a b : List PV) : qa5 (a ++ b) = qa5 a ++ qa5 b := by
  induction a with
  | nil => rfl
  | cons u us ih => simp [qa5, ih]
theorem pvCells_len (a : List PV) : (qa5 a).length = a.length * 10 := by
  induction a with
  | nil => rfl
  | cons u us ih => simp only [qa5, List.length_append, List.length_cons, ih, PV.cells, List.length_nil]; omega
theorem qd8 : ∀ (L : List PV) (i : Nat) (x : PV), L[i]? = some x → ∀ j, j < 10 → (qa5 L)[i * 10 + j]? = x.cells[j]? := by
  intro L
  induction L with
  | nil => intro i x h; simp at h
  | cons u us ih =>
    intro i x h j hj
    cases i with
    | zero =>
      simp at h;subst h;rw [qa5, Nat.zero_mul, Nat.zero_add, List.getElem?_append_left (by simp [PV.cells]; omega)]
    | succ i =>
      simp at h;rw [qa5, List.getElem?_append_right (by simp [PV.cells]; omega)];have := ih i x h j hj;rw [← this]
      congr 1
      simp [PV.cells];omega
theorem upCells_get : ∀ (L : List UD) (i : Nat) (x : UD), L[i]? = some x → (qc6 L)[i * 2]? = some (.bool x.stack) ∧ (qc6 L)[i * 2 + 1]? = some (.int .i64 x.index) := by
  intro L
  induction L with
  | nil => intro i x h; simp at h
  | cons u us ih =>
    intro i x h
    cases i with
    | zero => simp at h; subst h; exact ⟨rfl, rfl⟩
    | succ i =>
      simp at h;obtain ⟨h1, h2⟩ := ih i x h;constructor
      · rw [show (i + 1) * 2 = i * 2 + 1 + 1 by omega]; simpa [qc6] using h1
      · rw [show (i + 1) * 2 + 1 = i * 2 + 1 + 1 + 1 by omega]; simpa [qc6] using h2
theorem qg3 {y : World} {lo : Nat} {e : TypeId} {z n : Nat} {v : Value} {xs : List Value} {C : Nat → Nat → Value} {av : Nat → Prop} (h : y.ownsRow lo e z v n xs) (hC : ∀ i, i < n → ∀ j, j < z → xs[i * z + j]? = some (C i j)) (hav : ∀ b, v.ownBlock = some b → av b) : IsArr av y v z n C := by
  rcases h.2 with ⟨rfl, rfl⟩ | ⟨g, cap, cur, rfl, hb, hg, h1, h2, h3, h4⟩
  · exact ⟨none, 0, rfl, by omega, fun h0 => absurd h0 (by omega)⟩
  · refine ⟨_, cap, rfl, by simp only [maxLen] at h2; omega, fun h0 => ⟨g, 0, rfl, hav g rfl, fun i hi j hj => ?_⟩⟩
    have hlt := lt_mul_of hi hj;rw [Nat.add_assoc, Nat.zero_add, h.cellAt _ hlt];exact hC i hi j hj
theorem ints_of_own {y : World} {lo : Nat} {e : TypeId} {k : IntKind} {v : Value} {L : List Int} {av : Nat → Prop} (h : y.ownsRow lo e 1 v L.length (L.map (Value.int k))) (hav : ∀ b, v.ownBlock = some b → av b) : IsInts k av y v (slOf L) := by
  refine qg3 h (fun i hi j hj => ?_) hav;obtain rfl : j = 0 := by omega
  have hi' : i < L.length := hi;simp [iC, slOf, hi']
theorem strs_of_own {y : World} {lo : Nat} {e : TypeId} {v : Value} {L : List ByteArray} {av : Nat → Prop} (h : y.ownsRow lo e 1 v L.length (L.map Value.string)) (hav : ∀ b, v.ownBlock = some b → av b) (hs : ∀ s ∈ L, s.size ≤ 9223372036854775807) : IsStrs av y v (slOf L) := by
  refine ⟨qg3 h (fun i hi j hj => ?_) hav, fun i hi => ?_⟩
  · obtain rfl : j = 0 := by omega
    have hi' : i < L.length := hi;simp [sC, slOf, hi']
  · have hi' : i < L.length := hi
    refine hs _ ?_;show L.getD i default ∈ L;rw [List.getD_eq_getElem?_getD, List.getElem?_eq_getElem hi'];exact List.getElem_mem _
theorem ups_of_own {y : World} {lo : Nat} {e : TypeId} {v : Value} {L : List UD} {av : Nat → Prop} (h : y.ownsRow lo e 2 v L.length (qc6 L)) (hav : ∀ b, v.ownBlock = some b → av b) : IsUps av y v (slOf L) := by
  refine qg3 h (fun i hi j hj => ?_) hav;have hi' : i < L.length := hi;obtain ⟨h1, h2⟩ := upCells_get L i L[i] (List.getElem?_eq_getElem hi')
  match j, hj with
  | 0, _ => simpa [uC, slOf, hi'] using h1
  | 1, _ => simpa [uC, slOf, hi'] using h2
structure KIn (lo : Nat) (y : World) (vc vk vu : Value) (LC : List Int) (KD : List VD) (U : List UD) : Prop where
  code : IsInts .u32 (fun b => lo ≤ b ∧ b < y.heap.size ∧ vu.ownBlock ≠ some b) y vc (slOf LC)
  consts : IsVals (fun b => lo ≤ b ∧ b < y.heap.size ∧ vu.ownBlock ≠ some b) y vk (slOf KD)
  ups : y.ownsRow lo 99 2 vu U.length (qc6 U)
def kdL (c : Sl Int) (p : Nat) : List VD := [⟨2, tk c (p + 1) 12, ⟨#[]⟩⟩, ⟨2, tk c (p + 2) 6 - 2, ⟨#[]⟩⟩, ⟨2, tk c (p + 2) 6 + 1, ⟨#[]⟩⟩, ⟨2, 1, ⟨#[]⟩⟩, ⟨3, 0, ⟨#[115]⟩⟩, ⟨1, 1, ⟨#[]⟩⟩]
theorem QSt.kin {c : Sl Int} {p : Nat} {w0 : World} {Bq Bc : Nat} {pa : Int} {va : Bool} {kids : Int} {y : World} {vc : Value} {L : List Int} {vu : Value} {U : List UD} (h : QSt w0 Bq Bc pa va kids (kcL c p) y vc L vu U) :
    KIn w0.heap.size y vc (.slice (some ⟨Bc, 0, none⟩) 6 6) vu L (kdL c p) U := by
  refine ⟨ints_of_own h.code fun b hb => ?_, ⟨⟨_, _, rfl, by show 6 ≤ _; omega, fun _ => ⟨Bc, 0, rfl, ⟨h.hBc, h.cst.lt, qa3 h.ups h.cst (by decide)⟩, fun i hi j hj => ?_⟩⟩, fun i hi => ?_⟩, h.ups⟩
  · have := h.code.lt b hb
    exact ⟨this.1, this.2, fun e => qe8 h.code h.ups (by decide) b e hb⟩
  · have hi' : i < 6 := hi
    refine h.cst.cell _ ?_
    match i, hi' with
    | 0, _ => match j, hj with
      | 0, _ => rfl
      | 1, _ => rfl
      | 2, _ => rfl
    | 1, _ => match j, hj with
      | 0, _ => rfl
      | 1, _ => rfl
      | 2, _ => rfl
    | 2, _ => match j, hj with
      | 0, _ => rfl
      | 1, _ => rfl
      | 2, _ => rfl
    | 3, _ => match j, hj with
      | 0, _ => rfl
      | 1, _ => rfl
      | 2, _ => rfl
    | 4, _ => match j, hj with
      | 0, _ => rfl
      | 1, _ => rfl
      | 2, _ => rfl
    | 5, _ => match j, hj with
      | 0, _ => rfl
      | 1, _ => rfl
      | 2, _ => rfl
  · have hi' : i < 6 := hi
    match i, hi' with
    | 0, _ => (show 0 ≤ 9223372036854775807; omega)
    | 1, _ => (show 0 ≤ 9223372036854775807; omega)
    | 2, _ => (show 0 ≤ 9223372036854775807; omega)
    | 3, _ => (show 0 ≤ 9223372036854775807; omega)
    | 4, _ => (show 1 ≤ 9223372036854775807; omega)
    | 5, _ => (show 0 ≤ 9223372036854775807; omega)
def Av (lo : Nat) (y : World) (v u : Value) (b : Nat) : Prop := lo ≤ b ∧ b < y.heap.size ∧ u.ownBlock ≠ some b ∧ v.ownBlock ≠ some b
structure TreeS (lo : Nat) (y : World) (v : Value) (x0 : PV) (U : List UD) (L : List PV) : Prop where
  row : y.ownsRow lo 63 10 v (L.length + 1) (qa5 (x0 :: L))
  ups : y.ownsRow lo 99 2 x0.a5 U.length (qc6 U)
  pups : x0.p.ups = slOf U
  code : IsInts .u32 (Av lo y v x0.a5) y x0.a3 x0.p.code
  consts : IsVals (Av lo y v x0.a5) y x0.a4 x0.p.consts
  lines : IsInts .i64 (Av lo y v x0.a5) y x0.a8 x0.p.lines
  upNames : IsStrs (Av lo y v x0.a5) y x0.a9 x0.p.upNames
  name : x0.p.name.size ≤ 9223372036854775807
  rest : ∀ x ∈ L, IsProto (Av lo y v x0.a5) y x.a3 x.a4 x.a5 x.a8 x.a9 x.p
section
variable {lo : Nat} {y y' : World} {v v' : Value} {x0 : PV} {U : List UD} {L : List PV}
theorem TreeS.move (h : TreeS lo y v x0 U L) {L' : List PV} (hrow : y'.ownsRow lo 63 10 v' (L'.length + 1) (qa5 (x0 :: L')))
    (hk : ∀ b, b < y.heap.size → v.ownBlock ≠ some b → y'.heap[b]? = y.heap[b]?) (hs : y.heap.size ≤ y'.heap.size) (hv : ∀ b, b < y.heap.size → v.ownBlock ≠ some b → v'.ownBlock ≠ some b)
    (hrest : ∀ x ∈ L', x ∈ L ∨ IsProto (Av lo y v x0.a5) y x.a3 x.a4 x.a5 x.a8 x.a9 x.p) : TreeS lo y' v' x0 U L' := by
  have hk' : ∀ b, Av lo y v x0.a5 b → y'.heap[b]? = y.heap[b]? := fun b hb => hk b hb.2.1 hb.2.2.2;have hm : ∀ b, Av lo y v x0.a5 b → Av lo y' v' x0.a5 b := fun b hb => ⟨hb.1, Nat.lt_of_lt_of_le hb.2.1 hs, hb.2.2.1, hv b hb.2.1 hb.2.2.2⟩;have hu := qe8 h.row h.ups (by decide);refine ⟨hrow, qa7 h.ups fun k hk1 => hk k (h.ups.lt k hk1).2 (hu k hk1), h.pups, (IsArr.keep h.code hk').mono hm, ⟨(IsArr.keep h.consts.1 hk').mono hm, h.consts.2⟩, (IsArr.keep h.lines hk').mono hm, ⟨(IsArr.keep h.upNames.1 hk').mono hm, h.upNames.2⟩, h.name, fun x hx => ?_⟩;rcases hrest x hx with h1 | h1
  · exact ((h.rest x h1).keep hk').mono hm
  · exact (h1.keep hk').mono hm
theorem TreeS.later (h : TreeS lo y v x0 U L) (hb : Below y.heap.size y y') : TreeS lo y' v x0 U L :=
  h.move (qb0 h.row hb) (fun b hb1 _ => hb.block b hb1) hb.size (fun _ _ e => e) (fun x hx => .inl hx)
theorem TreeS.app (h : TreeS lo y v x0 U L) {x : PV} (hrow : y'.ownsRow lo 63 10 v' (L.length + 1 + 1) (qa5 (x0 :: L) ++ x.cells)) (hg : y.grownBy y' v.ownBlock) (hat : v'.ownBlock = v.ownBlock ∨ v'.ownBlock = some y.heap.size)
    (hx : IsProto (Av lo y v x0.a5) y x.a3 x.a4 x.a5 x.a8 x.a9 x.p) : TreeS lo y' v' x0 U (L ++ [x]) := by
  refine h.move ?_ (fun b hb hne => hg.block b hb fun e => hne e.symm) hg.size (fun b hb hne e => ?_) (fun x' hx' => ?_)
  · rw [List.length_append, ← List.cons_append, qf1]
    simpa [qa5] using hrow
  · rcases hat with h1 | h1
    · exact hne (h1 ▸ e)
    · rw [h1] at e
      simp at e;omega
  · rcases List.mem_append.1 hx' with h1 | h1
    · exact .inl h1
    · simp at h1
      subst h1;exact .inr hx
theorem TreeS.all (h : TreeS lo y v x0 U L) : ∀ x ∈ x0 :: L, IsProto (fun b => lo ≤ b ∧ b < y.heap.size) y x.a3 x.a4 x.a5 x.a8 x.a9 x.p := by
  intro x hx;rcases List.mem_cons.1 hx with rfl | hx
  · exact ⟨IsArr.mono h.code fun b hb => ⟨hb.1, hb.2.1⟩, ⟨IsArr.mono h.consts.1 fun b hb => ⟨hb.1, hb.2.1⟩, h.consts.2⟩, h.pups ▸ ups_of_own h.ups h.ups.lt, IsArr.mono h.lines fun b hb => ⟨hb.1, hb.2.1⟩, ⟨IsArr.mono h.upNames.1 fun b hb => ⟨hb.1, hb.2.1⟩, h.upNames.2⟩, h.name⟩
  · exact (h.rest x hx).mono fun b hb => ⟨hb.1, hb.2.1⟩
end
theorem qf7 {lo : Nat} {y : World} {v : Value} {X : List PV} {av : Nat → Prop} (hrow : y.ownsRow lo 63 10 v X.length (qa5 X)) (hv : ∀ b, v.ownBlock = some b → av b) (hall : ∀ x ∈ X, IsProto av y x.a3 x.a4 x.a5 x.a8 x.a9 x.p) : qa0 av y v (slOf (X.map PV.p)) := by
  have hd : ∀ i (hi : i < X.length), (X.map PV.p).getD i default = X[i].p := fun i hi => by simp [hi]
  refine ⟨fun i => (X[i]?.map PV.a3).getD undef, fun i => (X[i]?.map PV.a4).getD undef, fun i => (X[i]?.map PV.a5).getD undef, fun i => (X[i]?.map PV.a8).getD undef, fun i => (X[i]?.map PV.a9).getD undef, ?_, fun i hi => ?_⟩
  · have e : (slOf (X.map PV.p)).n = X.length := by simp [slOf]
    rw [e];refine qg3 hrow (fun i hi j hj => ?_) hv;rw [qd8 X i X[i] (List.getElem?_eq_getElem hi) j hj];have e1 : (slOf (X.map PV.p)).f i = X[i].p := hd i hi
    match j, hj with
    | 0, _ => simp [PV.cells, pC, e1]
    | 1, _ => simp [PV.cells, pC, e1]
    | 2, _ => simp [PV.cells, pC, e1]
    | 3, _ => simp [PV.cells, pC, hi]
    | 4, _ => simp [PV.cells, pC, hi]
    | 5, _ => simp [PV.cells, pC, hi]
    | 6, _ => simp [PV.cells, pC, e1]
    | 7, _ => simp [PV.cells, pC, e1]
    | 8, _ => simp [PV.cells, pC, hi]
    | 9, _ => simp [PV.cells, pC, hi]
  · have hi' : i < X.length := by simpa [slOf] using hi
    have e1 : (slOf (X.map PV.p)).f i = X[i].p := hd i hi';rw [e1];simp only [List.getElem?_eq_getElem hi', Option.map_some, Option.getD_some];exact hall X[i] (List.getElem_mem hi')
theorem TreeS.protos {lo : Nat} {y : World} {v : Value} {x0 : PV} {U : List UD} {L : List PV} (h : TreeS lo y v x0 U L) : qa0 (fun b => lo ≤ b ∧ b < y.heap.size) y v (slOf ((x0 :: L).map PV.p)) :=
  qf7 (X := x0 :: L) h.row h.row.lt h.all
def slSet {α : Type} (s : Sl α) (i : Nat) (a : α) : Sl α := ⟨s.n, fun j => if j = i then a else s.f j⟩
theorem slOf_set {α : Type} [Inhabited α] (L : List α) (i : Nat) (a : α) (hi : i < L.length) : slOf (L.set i a) = slSet (slOf L) i a := by
  unfold slOf slSet;simp only [List.length_set, Sl.mk.injEq, true_and];funext j;by_cases e : j = i
  · subst e
    simp [hi]
  · simp [e, List.getElem?_set, Ne.symm e]
def fixU : List PD → Int → List PD
  | [], _ => []
  | x :: xs, n => { x with ups := slSet x.ups 0 ⟨false, n⟩ } :: xs
def qD (pa : Int) (va : Bool) (kids : Int) (LC : List Int) (KD : List VD) (U : List UD) (a : Int) : PD :=
  { params := pa, vararg := va, regs := 12, code := slOf LC, consts := slOf KD, ups := slOf U, kids := kids, name := if a < 3 then strOfNums [102, 97 + a] else ⟨#[]⟩, lines := if a = 2 then slOf ((List.range LC.length).map fun (i : Nat) => (i : Int) * 37) else slOf [], upNames := if a = 2 then slOf (List.replicate U.length ⟨#[117]⟩) else slOf [] }
def kSeq (c : Sl Int) (T : Nat → Int → List PD × Nat) (q : PD) (nu : Nat) (p0 : Nat) : Nat → List PD × Nat
  | 0 => ([q], p0)
  | i + 1 => ((kSeq c T q nu p0 i).1 ++ (if 0 < nu ∧ 0 < tk c (kSeq c T q nu p0 i).2 3 ∧ i = 0 then fixU (T ((kSeq c T q nu p0 i).2 + 1) (tk c (kSeq c T q nu p0 i).2 3)).1 ((nu : Int) - 1) else (T ((kSeq c T q nu p0 i).2 + 1) (tk c (kSeq c T q nu p0 i).2 3)).1),
      (T ((kSeq c T q nu p0 i).2 + 1) (tk c (kSeq c T q nu p0 i).2 3)).2)
def TreeA (c : Sl Int) (level : Int) (p : Nat) (ups : Int) (t : List PD × Nat) : Prop :=
  t.2 ≤ p + 2000 ∧ t.1.length ≤ 100 ∧ ∀ w v, IsCode w v c → Calls Tryz.prog 84 #[v, .int .i64 p, .int .i64 level, .int .i64 ups] w fun e w' => ∃ u, e = .returned (.tuple #[u, .int .i64 (t.2 : Nat)]) ∧ Below w.heap.size w w' ∧ ∃ x0 U L, TreeS w.heap.size w' u x0 U L ∧ (U.length : Int) = ups ∧ (x0 :: L).map PV.p = t.1
end Go.Proofs.YtplijnfaiofckaaGreatDoor
namespace Go.Proofs.YtplijnfaiofckaaGreatDoor
open Go.RowKit Go.Shelf
set_option linter.unusedVariables false
set_option linter.unusedSimpArgs false
set_option maxRecDepth 100000
set_option maxHeartbeats 9000000
attribute [local go_sem] Oper.semAt_some
theorem conv_one (w : World) (n : Int) : (convert 22 9 (.slice (some ⟨w.heap.size, 0, none⟩) 1 1)).run Tryz.prog (w.alloc (.cells #[.int .u8 n] 5)) = .ok (.string (strOfNums [n])) (w.alloc (.cells #[.int .u8 n] 5)) := by
 refine run_convert_bytes_arg _ 22 5 Tryz.underlying22 Tryz.underlying5 _ 0 1 1 [n] rfl (fun i hi => ?_) 9 Tryz.underlying9;obtain rfl : i = 0 := by omega
 simp [go_sem]
theorem l1Byte_any (n : Int) (w : World) (h0 : 0 ≤ n) (h1 : n ≤ 255) :
  Calls Tryz.prog 152 #[.int .i64 n] w fun e w' => e = .returned (.string (strOfNums [n])) ∧ Below w.heap.size w w' := by
 have hcv := conv_one w n;go_enter Tryz.func152, Tryz.ntmps152
 go_wp2
 go_ret;exact ⟨rfl, by go_grown⟩
theorem infoInt : (Tryz.prog.info? 3).map (fun i => (i.zero, i.size, i.bytes)) = some (some (.int .i64 0), 1, 8) := by kernel_rfl
theorem infoStr : (Tryz.prog.info? 9).map (fun i => (i.zero, i.size, i.bytes)) = some (some (.string ⟨#[]⟩), 1, 16) := by kernel_rfl
theorem infoPro : (Tryz.prog.info? 63).map (fun i => (i.zero, i.size, i.bytes)) = some (some (.agg #[.int .i64 0, .bool false, .int .i64 0, .slice none 0 0, .slice none 0 0, .slice none 0 0, .int .i64 0, .string ⟨#[]⟩, .slice none 0 0, .slice none 0 0]), 10, 168) := by kernel_rfl
structure KSt (w0 : World) (pa : Int) (va : Bool) (vc vk vu : Value) (kids : Int) (nm : ByteArray) (y : World) (vl : Value) (LI : List Int) (vn : Value) (NM : List ByteArray) : Prop where
 box : RowL y w0.heap.size 63 [.int .i64 pa, .bool va, .int .i64 12, vc, vk, vu, .int .i64 kids, .string nm, vl, vn]
 lines : y.ownsRow w0.heap.size 3 1 vl LI.length (LI.map (Value.int .i64))
 names : y.ownsRow w0.heap.size 9 1 vn NM.length (NM.map Value.string)
 bel : Below w0.heap.size w0 y
section
variable {w0 : World} {pa : Int} {va : Bool} {vc vk vu : Value} {kids : Int} {nm : ByteArray} {y : World} {vl : Value} {LI : List Int} {vn : Value} {NM : List ByteArray}
theorem KSt.later (h : KSt w0 pa va vc vk vu kids nm y vl LI vn NM) {y' : World} (hb : Below y.heap.size y y') : KSt w0 pa va vc vk vu kids nm y' vl LI vn NM :=
 ⟨h.box.call hb, qb0 h.lines hb, qb0 h.names hb, h.bel.trans (hb.mono h.bel.size)⟩
theorem KSt.named (h : KSt w0 pa va vc vk vu kids nm y vl LI vn NM) (nm' : ByteArray) : KSt w0 pa va vc vk vu kids nm' (y.setCell ⟨w0.heap.size, 7, none⟩ (.string nm')) vl LI vn NM := by
 have n1 := qa3 h.lines h.box (by decide);have n2 := qa3 h.names h.box (by decide);exact ⟨h.box.set 7 _, qa7 h.lines fun k hk => Below.heap_setCell _ _ _ _ (by rintro rfl; exact n1 hk), qa7 h.names fun k hk => Below.heap_setCell _ _ _ _ (by rintro rfl; exact n2 hk), h.bel.setCell (p := ⟨w0.heap.size, 7, none⟩) (Nat.le_refl _) _⟩
theorem KSt.line (h : KSt w0 pa va vc vk vu kids nm y vl LI vn NM) {w' : World} {v' : Value} {N : List Int} (hrow : w'.ownsRow w0.heap.size 3 1 v' (LI ++ N).length ((LI ++ N).map (Value.int .i64))) (hg : y.grownBy w' vl.ownBlock) :
  KSt w0 pa va vc vk vu kids nm (w'.setCell ⟨w0.heap.size, 8, none⟩ v') v' (LI ++ N) vn NM ∧ RowL w' w0.heap.size 63 [.int .i64 pa, .bool va, .int .i64 12, vc, vk, vu, .int .i64 kids, .string nm, vl, vn] := by
 have n1 := qa3 h.lines h.box (by decide);have n3 := qe8 h.lines h.names (by decide);have b1 : RowL w' w0.heap.size 63 _ := World.rowIs.of_block h.box (hg.block _ h.box.lt fun e => n1 e.symm)
 have hu : w'.ownsRow w0.heap.size 9 1 vn NM.length (NM.map Value.string) := World.ownsRow.kept h.names hg (by
  cases e : vn.ownBlock with
  | none => exact .inl rfl
  | some q => exact .inr fun e2 => n3 q e e2.symm)
 have n4 := qa3 hrow b1 (by decide);have n5 := qa3 hu b1 (by decide);exact ⟨⟨b1.set 8 v', qa7 hrow fun k hk => Below.heap_setCell _ _ _ _ (by rintro rfl; exact n4 hk), qa7 hu fun k hk => Below.heap_setCell _ _ _ _ (by rintro rfl; exact n5 hk), (Below.grown h.bel hg h.bel.size (fun q hq => (h.lines.lt q hq).1)).setCell (p := ⟨w0.heap.size, 8, none⟩) (Nat.le_refl _) _⟩, b1⟩
theorem KSt.upn (h : KSt w0 pa va vc vk vu kids nm y vl LI vn NM) {w' : World} {v' : Value} {N : List ByteArray} (hrow : w'.ownsRow w0.heap.size 9 1 v' (NM ++ N).length ((NM ++ N).map Value.string)) (hg : y.grownBy w' vn.ownBlock) :
  KSt w0 pa va vc vk vu kids nm (w'.setCell ⟨w0.heap.size, 9, none⟩ v') vl LI v' (NM ++ N) ∧ RowL w' w0.heap.size 63 [.int .i64 pa, .bool va, .int .i64 12, vc, vk, vu, .int .i64 kids, .string nm, vl, vn] := by
 have n1 := qa3 h.names h.box (by decide);have n3 := qe8 h.names h.lines (by decide);have b1 : RowL w' w0.heap.size 63 _ := World.rowIs.of_block h.box (hg.block _ h.box.lt fun e => n1 e.symm)
 have hu : w'.ownsRow w0.heap.size 3 1 vl LI.length (LI.map (Value.int .i64)) := World.ownsRow.kept h.lines hg (by
  cases e : vl.ownBlock with
  | none => exact .inl rfl
  | some q => exact .inr fun e2 => n3 q e e2.symm)
 have n4 := qa3 hrow b1 (by decide);have n5 := qa3 hu b1 (by decide);exact ⟨⟨b1.set 9 v', qa7 hu fun k hk => Below.heap_setCell _ _ _ _ (by rintro rfl; exact n5 hk), qa7 hrow fun k hk => Below.heap_setCell _ _ _ _ (by rintro rfl; exact n4 hk), (Below.grown h.bel hg h.bel.size (fun q hq => (h.names.lt q hq).1)).setCell (p := ⟨w0.heap.size, 9, none⟩) (Nat.le_refl _) _⟩, b1⟩
theorem KSt.tree (h : KSt w0 pa va vc vk vu kids nm y vl LI vn NM) {lo : Nat} {LC : List Int} {KD : List VD} {U : List UD} (hin : KIn lo w0 vc vk vu LC KD U) (hlo : lo ≤ w0.heap.size) (q : PD) (hq : q = { params := pa, vararg := va, regs := 12, code := slOf LC, consts := slOf KD, ups := slOf U, kids := kids, name := nm, lines := slOf LI, upNames := slOf NM }) (hnm : nm.size ≤ 100) (hNM : ∀ s ∈ NM, s.size ≤ 9223372036854775807) :
  TreeS lo (y.alloc (.cells #[.int .i64 pa, .bool va, .int .i64 12, vc, vk, vu, .int .i64 kids, .string nm, vl, vn] 63)) (.slice (some ⟨y.heap.size, 0, none⟩) 1 1) ⟨q, vc, vk, vu, vl, vn⟩ U [] := by
 subst hq;have hbs := h.bel.size;have hul := hin.ups.lt;have hb1 : Below y.heap.size y (y.alloc (.cells #[.int .i64 pa, .bool va, .int .i64 12, vc, vk, vu, .int .i64 kids, .string nm, vl, vn] 63)) := (Below.refl _ _).alloc (Nat.le_refl _) _;have hb2 : Below w0.heap.size w0 (y.alloc (.cells #[.int .i64 pa, .bool va, .int .i64 12, vc, vk, vu, .int .i64 kids, .string nm, vl, vn] 63)) := h.bel.trans (hb1.mono hbs);have m1 : ∀ b, (lo ≤ b ∧ b < w0.heap.size ∧ vu.ownBlock ≠ some b) → Av lo (y.alloc (.cells #[.int .i64 pa, .bool va, .int .i64 12, vc, vk, vu, .int .i64 kids, .string nm, vl, vn] 63)) (.slice (some ⟨y.heap.size, 0, none⟩) 1 1) vu b := fun b hb => ⟨hb.1, by rw [World.size_alloc]; omega, hb.2.2, fun e => by simp [Value.ownBlock] at e; omega⟩;have m2 : ∀ b, w0.heap.size ≤ b ∧ b < y.heap.size → Av lo (y.alloc (.cells #[.int .i64 pa, .bool va, .int .i64 12, vc, vk, vu, .int .i64 kids, .string nm, vl, vn] 63)) (.slice (some ⟨y.heap.size, 0, none⟩) 1 1) vu b := fun b hb => ⟨by omega, by rw [World.size_alloc]; omega, fun e => by have := (hul b e).2; omega, fun e => by simp [Value.ownBlock] at e; omega⟩;refine ⟨World.ownsRow_lit y _ 1 (by omega) (by simp only [maxLen]; omega) rfl, qb0 (qb0 hin.ups (h.bel)) hb1, rfl, (IsArr.keep hin.code fun b hb => hb2.block b hb.2.1).mono m1, ⟨(IsArr.keep hin.consts.1 fun b hb => hb2.block b hb.2.1).mono m1, hin.consts.2⟩, ?_, ?_, by show nm.size ≤ _; omega, by simp⟩
 ·exact (IsArr.keep (ints_of_own h.lines h.lines.lt) fun b hb => hb1.block b hb.2).mono m2
 ·have := strs_of_own h.names h.names.lt hNM;exact ⟨(IsArr.keep this.1 fun b hb => hb1.block b hb.2).mono m2, this.2⟩
end
theorem IsArr.slice {av : Nat → Prop} {w : World} {v : Value} {z n : Nat} {C : Nat → Nat → Value} (h : IsArr av w v z n C) : ∃ ao cap, v = .slice ao n cap := by
 obtain ⟨ao, cap, h, -⟩ := h;exact ⟨ao, cap, h⟩
theorem fCat (a : Int) : (⟨#[102]⟩ : ByteArray) ++ strOfNums [97 + a] = strOfNums [102, 97 + a] := by
 apply ByteArray.ext;apply Array.ext';simp [strOfNums]
def lnL (i : Nat) : List Int := (List.range i).map fun (k : Nat) => (k : Int) * 37
theorem lnL_len (i : Nat) : (lnL i).length = i := by simp [lnL]
theorem lnL_succ (i : Nat) : lnL (i + 1) = lnL i ++ [(i : Int) * 37] := by simp [lnL, List.range_succ]
theorem qf3 {y : World} {lo : Nat} {e : TypeId} {z n : Nat} {v : Value} {xs : List Value} (h : y.ownsRow lo e z v n xs) : ∃ ao cap, v = .slice ao n cap := by
 rcases h.2 with ⟨h1, h2⟩ | ⟨g, cm, cur, h1, -⟩
 ·exact ⟨none, 0, by rw [h1, h2]⟩
 ·exact ⟨_, cm, h1⟩
theorem TreeS.setU {lo : Nat} {y : World} {v : Value} {x0 : PV} {U : List UD} {L : List PV} {gu cu : Nat} (h : TreeS lo y v x0 U L) (hu : x0.a5 = .slice (some ⟨gu, 0, none⟩) U.length cu) (h0 : 0 < U.length) (n : Int) :
  TreeS lo ((y.setCell ⟨gu, 0, none⟩ (.bool false)).setCell ⟨gu, 1, none⟩ (.int .i64 n)) v { x0 with p := { x0.p with ups := slSet x0.p.ups 0 ⟨false, n⟩ } } (U.set 0 ⟨false, n⟩) L := by
 have hk : ∀ b, b ≠ gu → ((y.setCell ⟨gu, 0, none⟩ (.bool false)).setCell ⟨gu, 1, none⟩ (.int .i64 n)).heap[b]? = y.heap[b]? := fun b hb => by
  rw [Below.heap_setCell _ _ _ _ hb, Below.heap_setCell _ _ _ _ hb]
 have hsz : ((y.setCell ⟨gu, 0, none⟩ (.bool false)).setCell ⟨gu, 1, none⟩ (.int .i64 n)).heap.size = y.heap.size := by rw [World.size_setCell, World.size_setCell]
 have hne : ∀ b, Av lo y v x0.a5 b → b ≠ gu := fun b hb e => hb.2.2.1 (by rw [hu, e]; rfl);have hk' : ∀ b, Av lo y v x0.a5 b → ((y.setCell ⟨gu, 0, none⟩ (.bool false)).setCell ⟨gu, 1, none⟩ (.int .i64 n)).heap[b]? = y.heap[b]? := fun b hb => hk b (hne b hb);have hm : ∀ b, Av lo y v x0.a5 b → Av lo ((y.setCell ⟨gu, 0, none⟩ (.bool false)).setCell ⟨gu, 1, none⟩ (.int .i64 n)) v x0.a5 b := fun b hb => ⟨hb.1, by rw [hsz]; exact hb.2.1, hb.2.2⟩;have hvu := qe8 h.row h.ups (by decide) gu (by rw [hu]; rfl);have hups := h.ups;rw [hu] at hups;have s1 := (hups.stored 0 (.bool false)).1;have s2 := (s1.stored 1 (.int .i64 n)).1
 have hcs : ((qc6 U).set 0 (.bool false)).set 1 (.int .i64 n) = qc6 (U.set 0 ⟨false, n⟩) := by
  cases U with
  | nil => simp at h0
  | cons u us => rfl
 rw [hcs] at s2;refine ⟨?_, by show World.ownsRow _ lo _ 2 x0.a5 _ _; rw [hu, List.length_set]; exact s2, by show slSet x0.p.ups 0 _ = _; rw [h.pups, slOf_set _ _ _ h0], (IsArr.keep h.code hk').mono hm, ⟨(IsArr.keep h.consts.1 hk').mono hm, h.consts.2⟩, (IsArr.keep h.lines hk').mono hm, ⟨(IsArr.keep h.upNames.1 hk').mono hm, h.upNames.2⟩, h.name, fun x hx => ((h.rest x hx).keep hk').mono hm⟩;exact qa7 h.row fun k hk1 => hk k (by rintro rfl; exact hvu hk1)
structure OutI (w : World) (lo : Nat) (x0 : PV) (U : List UD) (bx : List Value) (PS : List PD) (L : List PV) (v : Value) (y : World) : Prop where
 tree : TreeS lo y v x0 U L
 data : (x0 :: L).map PV.p = PS
 box : RowL y w.heap.size 63 bx
 bel : Below w.heap.size w y
 ne : ∀ k, v.ownBlock = some k → w.heap.size < k
structure InI (w : World) (lo : Nat) (x0 : PV) (U : List UD) (bx : List Value) (lo2 : Nat) (y3 : World) (L : List PV) (v : Value) (y : World) : Prop where
 tree : TreeS lo y v x0 U L
 keep : ∀ b, lo2 ≤ b → b < y3.heap.size → y.heap[b]? = y3.heap[b]? ∧ v.ownBlock ≠ some b
 box : RowL y w.heap.size 63 bx
 bel : Below w.heap.size w y
 ne : ∀ k, v.ownBlock = some k → w.heap.size < k
 size : y3.heap.size ≤ y.heap.size
theorem OutI.start {w : World} {lo : Nat} {x0 : PV} {U : List UD} {bx : List Value} {PS : List PD} {L : List PV} {v : Value} {y y2 y3 : World} (h : OutI w lo x0 U bx PS L v y) (b2 : Below y.heap.size y y2) (hk : ∀ b, b < y.heap.size → y3.heap[b]? = y2.heap[b]?) (b3 : Below w.heap.size w y3) (hs : y2.heap.size ≤ y3.heap.size) : InI w lo x0 U bx y.heap.size y3 L v y3 := by
 have hk' : ∀ b, b < y.heap.size → y3.heap[b]? = y.heap[b]? := fun b hb => (hk b hb).trans (b2.block b hb);have h2 := b2.size;have h1 := h.tree.row.lt;exact ⟨h.tree.move (qa7 h.tree.row fun k hk1 => hk' k (h1 k hk1).2) (fun b hb _ => hk' b hb) (by omega) (fun _ _ e => e) (fun x hx => .inl hx), fun b hb1 hb2 => ⟨rfl, fun e => by have := (h1 b e).2; omega⟩, World.rowIs.of_block h.box (hk' _ h.box.lt), b3, h.ne, Nat.le_refl _⟩
theorem InI.step {w : World} {lo : Nat} {x0 : PV} {U : List UD} {bx : List Value} {lo2 : Nat} {y3 : World} {L : List PV} {v v' : Value} {y w' : World} {x : PV} {o : Obj} (h : InI w lo x0 U bx lo2 y3 L v y) (hlo : lo ≤ lo2) (hx0 : ∀ b, x0.a5.ownBlock = some b → b < lo2) (hx : IsProto (fun b => lo2 ≤ b ∧ b < y3.heap.size) y3 x.a3 x.a4 x.a5 x.a8 x.a9 x.p)
  (hrow : w'.ownsRow lo 63 10 v' (L.length + 1 + 1) (qa5 (x0 :: L) ++ x.cells)) (hg : (y.alloc o).grownBy w' v.ownBlock) (hat : v'.ownBlock = v.ownBlock ∨ v'.ownBlock = some (y.alloc o).heap.size) : InI w lo x0 U bx lo2 y3 (L ++ [x]) v' w' := by
 have hba : Below y.heap.size y (y.alloc o) := (Below.refl _ _).alloc (Nat.le_refl _) _;have hsa : (y.alloc o).heap.size = y.heap.size + 1 := World.size_alloc _ _;have hsz := h.size;have hws := h.bel.size
 have hxA : IsProto (Av lo (y.alloc o) v x0.a5) (y.alloc o) x.a3 x.a4 x.a5 x.a8 x.a9 x.p := by
  refine (hx.keep fun b hb => ?_).mono fun b hb => ⟨by omega, by omega, fun e => by have := hx0 b e; omega, (h.keep b hb.1 hb.2).2⟩;exact (hba.block b (by omega)).trans (h.keep b hb.1 hb.2).1
 have hne' : ∀ k, v'.ownBlock = some k → w.heap.size < k := fun k hk => by
  rcases hat with e | e
  ·exact h.ne k (e ▸ hk)
  ·rw [e] at hk;simp at hk;omega
 refine ⟨(h.tree.later hba).app hrow hg hat hxA, fun b hb1 hb2 => ⟨?_, fun e => ?_⟩, ?_, ?_, hne', ?_⟩
 ·exact ((hg.block b (by omega) fun e => (h.keep b hb1 hb2).2 e.symm).trans (hba.block b (by omega))).trans (h.keep b hb1 hb2).1
 ·rcases hat with e2 | e2
  ·exact (h.keep b hb1 hb2).2 (e2 ▸ e)
  ·rw [e2] at e;simp at e;omega
 ·exact World.rowIs.of_block (h.box.call hba) (hg.block _ (h.box.call hba).lt fun e => by have := h.ne _ e.symm; omega)
 ·exact Below.grown (h.bel.trans (hba.mono hws)) hg (by omega) fun k hk => Nat.le_of_lt (h.ne k hk)
 ·have := hg.size;omega
theorem kSeq_bd (c : Sl Int) (level : Int) (T : Nat → Int → List PD × Nat) (q : PD) (nu p : Nat) (kids : Nat) (hp : p ≤ 100000) (hk3 : kids ≤ 3) (hT : 0 < kids → ∀ p' ups, p' ≤ p + 10000 → 0 ≤ ups → ups ≤ 2 → TreeA c level p' ups (T p' ups)) : ∀ i, i ≤ kids → (kSeq c T q nu (p + 1) i).2 ≤ p + 1 + 2001 * i ∧ (kSeq c T q nu (p + 1) i).1.length ≤ 1 + 100 * i := by
 intro i
 induction i with
 | zero => intro _; simp [kSeq]
 | succ i ih =>
  intro hi;obtain ⟨h1, h2⟩ := ih (by omega);have bt := tk_bd c (kSeq c T q nu (p + 1) i).2 3;obtain ⟨t1, t2, -⟩ := hT (by omega) ((kSeq c T q nu (p + 1) i).2 + 1) (tk c (kSeq c T q nu (p + 1) i).2 3) (by omega) bt.1 (by have := bt.2 (by omega); omega);rw [kSeq];refine ⟨Nat.le_trans t1 (by omega), ?_⟩;have hfl : ∀ (S : List PD) (n : Int), (fixU S n).length = S.length := fun S n => by cases S <;> rfl
  show List.length (_ ++ _) ≤ _;rw [List.length_append];split
  ·rw [hfl]; omega
  ·omega
end Go.Proofs.YtplijnfaiofckaaGreatDoor
namespace Go.Proofs.YtplijnfaiofckaaGreatDoor
open Go.RowKit Go.Shelf
set_option linter.unusedVariables false
set_option linter.unusedSimpArgs false
set_option maxRecDepth 100000
set_option maxHeartbeats 9000000
def rep (z : UInt8) (n : Nat) : ByteArray := ⟨Array.replicate n z⟩
theorem qf6 (z : UInt8) (n : Nat) : (rep z n).size = n := by simp [rep, ByteArray.size]
theorem rep_add (z : UInt8) (a b : Nat) : rep z a ++ rep z b = rep z (a + b) := by
 apply ByteArray.ext;apply Array.ext';simp [rep]
theorem l1Long_in (z : UInt8) : ∀ (n : Nat), n ≤ 2000 → ∀ (w : World), Calls Tryz.prog 90 #[.int .i64 n, .string (rep z 1)] w fun e w' => e = .returned (.string (rep z n)) ∧ w = w' := by
 intro n
 induction n using Nat.strongRecOn with
 | ind n ih =>
 intro hn w;by_cases h0 : n = 0
 ·subst h0;go_enter Tryz.func90, Tryz.ntmps90;go_wp2_with fail;go_loopw [5] (fun s wr => s = .string ⟨#[]⟩ ∧ w = wr) (fun _ _ => 0);case atStart => exact ⟨rfl, rfl⟩
  case round =>
   obtain ⟨rfl, rfl⟩ := hrel;go_wp2_with fail;go_ret;exact ⟨rfl, rfl⟩
 ·have hpos : (0 : Int) < (n : Int) := by omega
  have ih' : Hid (∀ m, m < n → m ≤ 2000 → ∀ (w : World), Calls Tryz.prog 90 #[.int .i64 m, .string (rep z 1)] w fun e w' => e = .returned (.string (rep z m)) ∧ w = w') := ih;clear ih;go_enter Tryz.func90, Tryz.ntmps90;go_wp2_with fail;go_loopw [5] (fun s wr => ∃ k : Nat, s = .string (rep z k) ∧ 1 ≤ k ∧ k ≤ n ∧ w = wr) (fun s _ => match s with | .string b => n - b.size | _ => 0)
  case atStart => exact ⟨1, rfl, by omega, by omega, rfl⟩
  case round =>
   obtain ⟨k, rfl, hk1, hk2, rfl⟩ := hrel;have hsz := qf6 z k;have hsz2 := qf6 z (k + k);have hcat := rep_add z k k;by_cases hk : k * 2 ≤ n
   ·have hkI : (k : Int) * 2 ≤ (n : Int) := by omega
    go_wp2_with fail;go_roundw;case rel => exact ⟨k + k, rfl, by omega, by omega, trivial⟩
    case measure => simp [hsz, hsz2, hcat]; omega
   ·have hkI : ¬ ((k : Int) * 2 ≤ (n : Int)) := by omega
    by_cases hkn : k < n
    ·have hknI : (k : Int) < (n : Int) := by omega
     have hrec := ih'.out (n - k) (by omega) (by omega) w;rw [show ((n - k : Nat) : Int) = (n : Int) - (k : Int) by omega] at hrec;have hc2 : rep z k ++ rep z (n - k) = rep z n := by rw [rep_add]; congr 1; omega
     have hs2 := qf6 z (n - k);have hs3 := qf6 z n;replace hrec : Hid _ := hrec;have hw : IntKind.i64.wrap ((n : Int) - (k : Int)) = (n : Int) - (k : Int) := by simp [IntKind.wrap, IntKind.bits, IntKind.signed]; omega
     go_wp2_with fail;refine Calls.mono hrec.out ?_;rintro e w' ⟨rfl, rfl⟩;go_wp2_with fail;go_ret;exact ⟨rfl, rfl⟩
    ·obtain rfl : k = n := by omega
     go_wp2_with fail;go_ret;exact ⟨rfl, rfl⟩
end Go.Proofs.YtplijnfaiofckaaGreatDoor

import Derived.Test.YtndpbdpngniepaaStI
import Derived.Test.YtndpbdpngniepaaRngN
import Derived.Test.YtndpbdpngniepaaChQ
namespace Go.Proofs.Ytndpbdpngniepaa
open Go.RowKit Go.Shelf
set_option linter.unusedVariables false
set_option linter.unusedSimpArgs false

theorem ownsRow_keepG {w w' : World} {base : Nat} {e : TypeId} {z n : Nat} {v : Value} {xs : List Value} (h : w.ownsRow base e z v n xs) (hk : ∀ g, v.ownBlock = some g → w'.heap[g]? = w.heap[g]?) : w'.ownsRow base e z v n xs := by
  obtain ⟨h1, h2⟩ := h
  refine ⟨h1, ?_⟩
  rcases h2 with h | ⟨g, cap', cur, rfl, hb, hc, h3⟩
  · exact .inl h
  · exact .inr ⟨g, cap', cur, rfl, hb, (hk g rfl).trans hc, h3⟩
theorem flat_succ (z n : Nat) (hz : 0 < z) (C : Nat → Nat → Value) : flat z (n + 1) C = flat z n C ++ (List.range z).map (C n) := by
  unfold flat
  rw [Nat.succ_mul, List.range_add, List.map_append, List.map_map]
  congr 1
  refine List.map_congr_left fun j hj => ?_
  have hj' : j < z := by simpa using hj
  simp only [Function.comp]
  rw [show (n * z + j) / z = n by rw [Nat.mul_comm, Nat.mul_add_div hz, Nat.div_eq_of_lt hj']; rfl, show (n * z + j) % z = j by rw [Nat.mul_comm, Nat.mul_add_mod, Nat.mod_eq_of_lt hj']]
theorem flat_congr {z n : Nat} (hz : 0 < z) {C D : Nat → Nat → Value} (h : ∀ i, i < n → C i = D i) : flat z n C = flat z n D := by
  unfold flat
  refine List.map_congr_left fun j hj => ?_
  have hj' : j < n * z := by simpa using hj
  rw [h _ ((Nat.div_lt_iff_lt_mul hz).2 hj')]

/-- the prototypes that have been walked, stripped. -/
def fP (s : Sl PD) (pre : List (Fin s.n)) : Nat → PD := fun j => stripP (s.f ((pre.map Fin.val).getD j 0))
theorem fP_old (s : Sl PD) (pre : List (Fin s.n)) (x : Fin s.n) {j : Nat} (h : j < pre.length) : fP s (pre ++ [x]) j = fP s pre j := by
  simp [fP, List.getD, List.getElem?_append_left (show j < (pre.map Fin.val).length by simpa using h), h]
theorem fP_new (s : Sl PD) (pre : List (Fin s.n)) (x : Fin s.n) : fP s (pre ++ [x]) pre.length = stripP (s.f x.val) := by
  simp [fP, List.getD]
structure SOwn (s : Sl PD) (pre : List (Fin s.n)) (base Y : Nat) (W : World) (U : Nat → Prop) (vo : Value) (rng : Nat → Nat) (a : Nat → Nat → Value) (b : Nat → Nat → Nat) : Prop where
  box : RowL W Y 38 [vo]
  row : W.ownsRow base 61 10 vo pre.length (flat 10 pre.length (pC (fP s pre) (a 3) (a 4) (a 5) (a 8) (a 9)))
  rlo : base ≤ rng 0
  mono : ∀ i, rng i ≤ rng (i + 1)
  rhi : ∀ i, rng i ≤ W.heap.size
  out : ∀ g, vo.ownBlock = some g → base ≤ g ∧ g < W.heap.size ∧ ∀ i, i < pre.length → g < rng (2 * i) ∨ rng (2 * i + 1) ≤ g
  each : ∀ i, i < pre.length → OwnProto W (rng (2 * i)) (rng (2 * i + 1)) (a 3 i) (a 4 i) (a 5 i) (a 8 i) (a 9 i) (b 3 i) (b 4 i) (b 5 i) (b 8 i) (b 9 i) (fP s pre i)
  foot : ∀ c, U c ↔ c = Y ∨ vo.ownBlock = some c ∨ ∃ i, i < pre.length ∧ rng (2 * i) ≤ c ∧ c < rng (2 * i + 1)
/-- between two rounds of Strip. -/
def SI (s : Sl PD) (base Y lo : Nat) (w0 : World) (pre : List (Fin s.n)) (U : Nat → Prop) (W : World) : Prop :=
  Below lo w0 W ∧ base ≤ W.heap.size ∧ ∃ vo rng a b, SOwn s pre base Y W U vo rng a b
theorem SI.footU (s : Sl PD) (base Y lo : Nat) (w0 : World) (hlo : lo ≤ w0.heap.size) : FootU lo (SI s base Y lo w0) := by
  rintro pre U A C ⟨hB, hs, vo, rng, a, b, h⟩ h1 h2 h3 h4 h5 h6
  refine ⟨⟨h1.trans hB.os, h2.trans hB.tape, h3.trans hB.output, Nat.le_trans hB.size h4, fun c hc => (h6 c hc).trans (hB.block c hc)⟩, by omega, vo, rng, a, b, ?_⟩
  have hf := h.foot
  refine ⟨World.rowIs.of_block h.box (h5 _ ((hf _).2 (.inl rfl))), ownsRow_keepG h.row fun g hg => h5 _ ((hf _).2 (.inr (.inl hg))), h.rlo, h.mono, fun i => Nat.le_trans (h.rhi i) h4, fun g hg => ?_, fun i hi => (h.each i hi).keep fun c h1 h2 h3 => h5 _ ((hf _).2 (.inr (.inr ⟨i, hi, h1, h2⟩))), hf⟩
  obtain ⟨q1, q2, q3⟩ := h.out g hg
  exact ⟨q1, by omega, q3⟩
/-- the ten cells of a prototype. -/
def pL (p : PD) (a3 a4 a5 a8 a9 : Value) : List Value := [.int .i64 p.params, .bool p.vararg, .int .i64 p.regs, a3, a4, a5, .int .i64 p.kids, .string p.name, a8, a9]

theorem SI.step {s : Sl PD} {base Y lo : Nat} {w0 : World} {pre : List (Fin s.n)} {U : Nat → Prop} {W Wd y w' : World} {vo : Value} {rng : Nat → Nat} {a : Nat → Nat → Value} {b : Nat → Nat → Nat} {x : Fin s.n}
    (hB : Below lo w0 W) (hbase : base ≤ W.heap.size) (h : SOwn s pre base Y W U vo rng a b) (hY : Y < base) (hlY : lo ≤ Y) (hbl : lo ≤ base) (hd : Below W.heap.size W Wd) (hds : Wd.heap.size = W.heap.size) (hy : Below Wd.heap.size Wd y)
    {b3 b4 b5 b8 b9 : Value} {B3 B4 B5 B8 B9 : Nat} (hp : OwnProto y Wd.heap.size y.heap.size b3 b4 b5 b8 b9 B3 B4 B5 B8 B9 (stripP (s.f x.val)))
    {o : Obj} {g cap : Nat} (hrow : w'.ownsRow base 61 10 (.slice (some ⟨g, 0, none⟩) (pre.length + 1) cap) (pre.length + 1) (flat 10 pre.length (pC (fP s pre) (a 3) (a 4) (a 5) (a 8) (a 9)) ++ pL (stripP (s.f x.val)) b3 b4 b5 b8 b9))
    (hgrow : (y.alloc o).grownBy w' vo.ownBlock) (hat : vo.ownBlock = some g ∨ g = (y.alloc o).heap.size) :
    ∃ U', GrowU U U' W (w'.setCell ⟨Y, 0, none⟩ (.slice (some ⟨g, 0, none⟩) (pre.length + 1) cap)) ∧ SI s base Y lo w0 (pre ++ [x]) U' (w'.setCell ⟨Y, 0, none⟩ (.slice (some ⟨g, 0, none⟩) (pre.length + 1) cap)) := by
  obtain ⟨box, row, rlo, mono, rhi, out, each, foot⟩ := h
  generalize hK : pre.length = K at *
  have sy := hy.size
  rw [hds] at sy hp
  have szo : (y.alloc o).heap.size = y.heap.size + 1 := by simp
  have sz' := hgrow.size
  have szc : (w'.setCell ⟨Y, 0, none⟩ (.slice (some ⟨g, 0, none⟩) (K + 1) cap)).heap.size = w'.heap.size := by simp
  have hgl := (hrow.lt g rfl)
  have keepY : ∀ c, c < y.heap.size → c ≠ Y → vo.ownBlock ≠ some c → (w'.setCell ⟨Y, 0, none⟩ (.slice (some ⟨g, 0, none⟩) (K + 1) cap)).heap[c]? = y.heap[c]? := fun c h1 h2 h3 => by
    rw [Below.heap_setCell _ _ _ _ h2, hgrow.block c (by omega) (fun e => h3 e.symm), Below.heap_alloc _ _ _ h1]
  have keepW : ∀ c, c < W.heap.size → c ≠ Y → vo.ownBlock ≠ some c → (w'.setCell ⟨Y, 0, none⟩ (.slice (some ⟨g, 0, none⟩) (K + 1) cap)).heap[c]? = W.heap[c]? := fun c h1 h2 h3 => by
    rw [keepY c (by omega) h2 h3, hy.block c (by omega), hd.block c h1]
  have bY : RowL w' Y 38 [vo] := by
    have hYl := box.lt
    refine World.rowIs.of_block box ?_
    have hne : vo.ownBlock ≠ some Y := fun e => by have := (out Y e).1; omega
    rw [hgrow.block Y (by omega) (fun e => hne e.symm), Below.heap_alloc _ _ _ (by omega), hy.block Y (by omega), hd.block Y hYl]
  have hng : ∀ i, i < K → g < rng (2 * i) ∨ rng (2 * i + 1) ≤ g := fun i hi => by
    rcases hat with e | e
    · exact (out g e).2.2 i hi
    · have := rhi (2 * i + 1)
      omega
  refine ⟨fun c => c = Y ∨ g = c ∨ (∃ i, i < K ∧ rng (2 * i) ≤ c ∧ c < rng (2 * i + 1)) ∨ (W.heap.size ≤ c ∧ c < y.heap.size), ⟨by omega, fun c h1 h2 => keepW c h1 (fun e => h2 ((foot c).2 (.inl e))) (fun e => h2 ((foot c).2 (.inr (.inl e)))), fun c hc => ?_⟩, ⟨?_, ?_, ?_, ?_, ?_⟩, by omega, .slice (some ⟨g, 0, none⟩) (K + 1) cap,
    fun j => if j < 2 * K then rng j else if j = 2 * K then W.heap.size else y.heap.size,
    fun c j => if j < K then a c j else if c = 3 then b3 else if c = 4 then b4 else if c = 5 then b5 else if c = 8 then b8 else b9,
    fun c j => if j < K then b c j else if c = 3 then B3 else if c = 4 then B4 else if c = 5 then B5 else if c = 8 then B8 else B9, ?_⟩
  · rcases hc with rfl | rfl | hc | hc
    · exact .inl ((foot _).2 (.inl rfl))
    · rcases hat with e | e
      · exact .inl ((foot _).2 (.inr (.inl e)))
      · exact .inr (by omega)
    · exact .inl ((foot _).2 (.inr (.inr hc)))
    · exact .inr hc.1
  · show w'.os = _
    rw [hgrow.os]
    exact (hy.os.trans hd.os).trans hB.os
  · have h1 : (w'.setCell ⟨Y, 0, none⟩ (.slice (some ⟨g, 0, none⟩) (K + 1) cap)).tape = w'.tape := ((Below.refl 0 w').setCell (p := ⟨Y, 0, none⟩) (Nat.zero_le _) _).tape
    rw [h1, hgrow.tape]
    exact (hy.tape.trans hd.tape).trans hB.tape
  · have h1 : (w'.setCell ⟨Y, 0, none⟩ (.slice (some ⟨g, 0, none⟩) (K + 1) cap)).output = w'.output := ((Below.refl 0 w').setCell (p := ⟨Y, 0, none⟩) (Nat.zero_le _) _).output
    rw [h1, hgrow.output]
    exact (hy.output.trans hd.output).trans hB.output
  · have := hB.size
    omega
  · intro c hc
    have := hB.size
    by_cases hcw : c < W.heap.size
    · exact (keepW c hcw (by omega) (fun e => by have := (out c e).1; omega)).trans (hB.block c hc)
    · omega
  · have hl : (pre ++ [x]).length = K + 1 := by simp [hK]
    refine ⟨bY.set 0 _, ?_, ?_, fun i => ?_, fun i => ?_, fun g' hg' => ?_, fun i hi => ?_, fun c => ?_⟩
    · refine ownsRow_keepG (w := w') ?_ fun g' hg' => Below.heap_setCell _ _ _ _ (by cases hg'; show g ≠ Y; omega)
      rw [hl, flat_succ _ _ (by omega)]
      have e1 : flat 10 K (pC (fP s (pre ++ [x])) (fun j => if j < K then a 3 j else b3) (fun j => if j < K then a 4 j else b4) (fun j => if j < K then a 5 j else b5) (fun j => if j < K then a 8 j else b8) (fun j => if j < K then a 9 j else b9)) = flat 10 K (pC (fP s pre) (a 3) (a 4) (a 5) (a 8) (a 9)) :=
        flat_congr (by omega) fun i hi => by funext j; simp only [pC, fP_old s pre x (by omega : i < pre.length), hi, if_true]
      have e2 : (List.range 10).map (pC (fP s (pre ++ [x])) (fun j => if j < K then a 3 j else b3) (fun j => if j < K then a 4 j else b4) (fun j => if j < K then a 5 j else b5) (fun j => if j < K then a 8 j else b8) (fun j => if j < K then a 9 j else b9) K) = pL (stripP (s.f x.val)) b3 b4 b5 b8 b9 := by
        have hn := fP_new s pre x
        rw [hK] at hn
        simp only [show List.range 10 = [0, 1, 2, 3, 4, 5, 6, 7, 8, 9] by rfl, List.map, pC, hn, pL, Nat.lt_irrefl, if_false]
      simp only [Nat.reduceEqDiff, if_true, if_false]
      rw [e1, e2]
      exact hrow
    · show base ≤ if 0 < 2 * K then rng 0 else if 0 = 2 * K then W.heap.size else y.heap.size
      split
      · exact rlo
      · rw [if_pos (by omega)]; exact hbase
    · show (if i < 2 * K then rng i else if i = 2 * K then W.heap.size else y.heap.size) ≤ (if i + 1 < 2 * K then rng (i + 1) else if i + 1 = 2 * K then W.heap.size else y.heap.size)
      have := mono i
      have := rhi i
      split <;> split <;> (try split) <;> (try split) <;> omega
    · show (if i < 2 * K then rng i else if i = 2 * K then W.heap.size else y.heap.size) ≤ _
      have := rhi i
      split <;> (try split) <;> omega
    · cases hg'
      refine ⟨hgl.1, by rw [szc]; exact hgl.2, fun i hi => ?_⟩
      rw [hl] at hi
      dsimp only
      by_cases hiK : i < K
      · rw [if_pos (by omega), if_pos (by omega)]
        exact hng i hiK
      · obtain rfl : i = K := by omega
        rw [if_neg (by omega), if_pos rfl, if_neg (by omega), if_neg (by omega)]
        rcases hat with e | e
        · exact .inl (out g e).2.1
        · exact .inr (by omega)
    · rw [hl] at hi
      by_cases hiK : i < K
      · have := each i hiK
        have hf := fP_old s pre x (by omega : i < pre.length)
        simp only [Nat.reduceEqDiff, if_true, if_false, hiK, show 2 * i < 2 * K by omega, show 2 * i + 1 < 2 * K by omega, hf]
        refine this.keep fun c h1 h2 h3 => keepW c h3 ?_ fun e => ?_
        · have := rng_le mono 0 (2 * i) (by omega)
          omega
        · have := (out c e).2.2 i hiK
          omega
      · obtain rfl : i = K := by omega
        have hf := fP_new s pre x
        rw [hK] at hf
        simp only [Nat.reduceEqDiff, if_true, if_false, Nat.lt_irrefl, show ¬ (2 * i + 1 < 2 * i) by omega, show ¬ (2 * i + 1 = 2 * i) by omega, hf]
        refine hp.keep fun c h1 h2 h3 => keepY c h3 (by omega) fun e => ?_
        have := (out c e).2.1
        omega
    · rw [hl]
      constructor
      · rintro (h1 | h1 | ⟨i, hi, h1, h2⟩ | ⟨h1, h2⟩)
        · exact .inl h1
        · exact .inr (.inl (by rw [h1]; rfl))
        · exact .inr (.inr ⟨i, by omega, by simpa [show 2 * i < 2 * K by omega] using h1, by simpa [show 2 * i + 1 < 2 * K by omega] using h2⟩)
        · exact .inr (.inr ⟨K, by omega, by simpa using h1, by simpa [show ¬ (2 * K + 1 < 2 * K) by omega] using h2⟩)
      · rintro (h1 | h1 | ⟨i, hi, h1, h2⟩)
        · exact .inl h1
        · exact .inr (.inl (by cases h1; rfl))
        · by_cases hiK : i < K
          · exact .inr (.inr (.inl ⟨i, hiK, by simpa [show 2 * i < 2 * K by omega] using h1, by simpa [show 2 * i + 1 < 2 * K by omega] using h2⟩))
          · obtain rfl : i = K := by omega
            exact .inr (.inr (.inr ⟨by simpa using h1, by simpa [show ¬ (2 * i + 1 < 2 * i) by omega] using h2⟩))
end Go.Proofs.Ytndpbdpngniepaa

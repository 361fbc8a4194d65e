import Derived.Test.YtkanjbopfflioaaGreatDoorG15
import Derived.Test.YtkanjbopfflioaaGreatDoorG17
namespace Go.Proofs.YtkanjbopfflioaaGreatDoor
section
open Go.RowKit
set_option linter.unusedVariables false
set_option linter.unusedSimpArgs false
/-- each prototype's lists lie between two heap sizes, the row of prototypes outside of these. -/
inductive Rg (B : Nat) (sb : Option Nat) : Nat → List PV → List (Nat × Nat) → Prop
  | nil {N} : B ≤ N → Rg B sb N [] []
  | snoc {N lo hi Q R q} : Rg B sb lo Q R → lo ≤ hi → hi ≤ N → (∀ k, some k ∈ q.blks → lo ≤ k ∧ k < hi) → (∀ g, sb = some g → g < lo ∨ hi ≤ g) → Rg B sb N (Q ++ [q]) (R ++ [(lo, hi)])
theorem Rg.up {B N M : Nat} {sb : Option Nat} {Q : List PV} {R : List (Nat × Nat)} (h : Rg B sb N Q R) (hN : N ≤ M) : Rg B sb M Q R := by
  cases h with
  | nil h => exact .nil (by omega)
  | snoc h h1 h2 h3 h4 => exact .snoc h h1 (by omega) h3 h4
theorem Rg.turn {B N k : Nat} {sb : Option Nat} {Q : List PV} {R : List (Nat × Nat)} (h : Rg B sb N Q R) (hk : N ≤ k) : Rg B (some k) N Q R := by
  induction h with
  | nil h => exact .nil h
  | snoc h h1 h2 h3 h4 ih => exact .snoc (ih (by omega)) h1 h2 h3 (fun g e => .inr (by cases e; omega))
theorem Rg.base {B N : Nat} {sb : Option Nat} {Q : List PV} {R : List (Nat × Nat)} (h : Rg B sb N Q R) : B ≤ N := by
  induction h with
  | nil h => exact h
  | snoc h h1 h2 h3 h4 ih => omega
/-- the same, of what is still in the making. -/
def Rgs (B N : Nat) (sb : Option Nat) (Q : List PV) : Prop := (Q = [] ∧ B ≤ N) ∨ ∃ K q lo R, Q = K ++ [q] ∧ Rg B sb lo K R ∧ lo ≤ N ∧ (∀ k, some k ∈ q.blks → lo ≤ k ∧ k < N) ∧ ∀ g, sb = some g → g < lo
theorem Rgs.nil {B N : Nat} (sb : Option Nat) (h : B ≤ N) : Rgs B N sb [] := .inl ⟨rfl, h⟩
theorem Rgs.up {B N M : Nat} {sb : Option Nat} {Q : List PV} (h : Rgs B N sb Q) (hN : N ≤ M) : Rgs B M sb Q := by
  rcases h with ⟨h, h1⟩ | ⟨K, q, lo, R, h1, h2, h3, h4, h5⟩
  · exact .inl ⟨h, by omega⟩
  · exact .inr ⟨K, q, lo, R, h1, h2, by omega, fun k hk => by have := h4 k hk; omega, h5⟩
theorem Rgs.shut {B N : Nat} {sb : Option Nat} {Q : List PV} (h : Rgs B N sb Q) : ∃ R, Rg B sb N Q R := by
  rcases h with ⟨rfl, h1⟩ | ⟨K, q, lo, R, rfl, h2, h3, h4, h5⟩
  · exact ⟨[], .nil h1⟩
  · exact ⟨_, .snoc h2 h3 (Nat.le_refl _) h4 (fun g hg => .inl (h5 g hg))⟩
theorem Rgs.head {B N N' : Nat} {sb sb' : Option Nat} {Q : List PV} {q : PV} (h : Rgs B N sb Q) (hN : N ≤ N') (hq : ∀ x ∈ q.blks, x = none) (hs : sb' = sb ∨ ∃ k, sb' = some k ∧ N ≤ k) (hl : ∀ g, sb' = some g → g < N') : Rgs B N' sb' (Q ++ [q]) := by
  obtain ⟨R, hR⟩ := h.shut
  refine .inr ⟨Q, q, N', R, rfl, ?_, Nat.le_refl _, fun k hk => absurd (hq _ hk) (by simp), hl⟩
  rcases hs with rfl | ⟨k, rfl, hk⟩
  · exact hR.up hN
  · exact (hR.turn hk).up hN
theorem Rgs.last {B N N' : Nat} {sb : Option Nat} {K : List PV} {q q' : PV} (h : Rgs B N sb (K ++ [q])) (hN : N ≤ N') (hq : ∀ k, some k ∈ q'.blks → some k ∈ q.blks ∨ (N ≤ k ∧ k < N')) : Rgs B N' sb (K ++ [q']) := by
  rcases h with ⟨h, _⟩ | ⟨K', r, lo, R, e, h2, h3, h4, h5⟩
  · simp at h
  · obtain ⟨rfl, rfl⟩ := snoc_inj e
    refine .inr ⟨K, q', lo, R, rfl, h2, by omega, fun k hk => ?_, h5⟩
    rcases hq k hk with hk | hk
    · have := h4 k hk; omega
    · omega
theorem Rg.at {B N : Nat} {sb : Option Nat} {Q : List PV} {R : List (Nat × Nat)} (h : Rg B sb N Q R) : R.length = Q.length ∧ ∀ i q, Q[i]? = some q → ∃ lo hi, R[i]? = some (lo, hi) ∧ B ≤ lo ∧ lo ≤ hi ∧ hi ≤ N ∧ (∀ k, some k ∈ q.blks → lo ≤ k ∧ k < hi) ∧ (∀ g, sb = some g → g < lo ∨ hi ≤ g) ∧ ∀ lo' hi', R[i + 1]? = some (lo', hi') → hi ≤ lo' := by
  induction h with
  | nil h => exact ⟨rfl, fun i q h => by simp at h⟩
  | @snoc N lo hi Q R q h h1 h2 h3 h4 ih =>
    obtain ⟨il, ia⟩ := ih
    refine ⟨by simp [il], fun i r hr => ?_⟩
    by_cases hi' : i < Q.length
    · rw [List.getElem?_append_left hi'] at hr
      obtain ⟨l, u, e1, e2, e3, e4, e5, e6, e7⟩ := ia i r hr
      refine ⟨l, u, by rw [List.getElem?_append_left (by omega)]; exact e1, e2, e3, by omega, e5, e6, fun l' u' hn => ?_⟩
      by_cases hj : i + 1 < R.length
      · rw [List.getElem?_append_left hj] at hn
        exact e7 l' u' hn
      · rw [List.getElem?_append_right (by omega), show i + 1 - R.length = 0 by omega] at hn
        simp at hn
        omega
    · have hlt := (List.getElem?_eq_some_iff.1 hr).1
      simp at hlt
      obtain rfl : i = Q.length := by omega
      rw [List.getElem?_append_right (Nat.le_refl _), Nat.sub_self] at hr
      simp at hr
      subst hr
      refine ⟨lo, hi, by rw [← il]; simp, h.base, h1, h2, h3, h4, fun l' u' hn => ?_⟩
      rw [List.getElem?_eq_none (by simp; omega)] at hn
      cases hn
def rngR (R : List (Nat × Nat)) (N k : Nat) : Nat := match R[k / 2]? with
  | some (lo, hi) => if k % 2 = 0 then lo else hi
  | none => N
theorem rngR_lo {R : List (Nat × Nat)} {N i lo hi : Nat} (h : R[i]? = some (lo, hi)) : rngR R N (2 * i) = lo := by
  unfold rngR
  rw [show 2 * i / 2 = i by omega, h]
  simp
theorem rngR_hi {R : List (Nat × Nat)} {N i lo hi : Nat} (h : R[i]? = some (lo, hi)) : rngR R N (2 * i + 1) = hi := by
  unfold rngR
  rw [show (2 * i + 1) / 2 = i by omega, h]
  simp
theorem rngR_end {R : List (Nat × Nat)} {N k : Nat} (h : R.length ≤ k / 2) : rngR R N k = N := by
  unfold rngR
  rw [List.getElem?_eq_none h]
theorem rngR_mono {B N : Nat} {sb : Option Nat} {Q : List PV} {R : List (Nat × Nat)} (h : Rg B sb N Q R) (k : Nat) : rngR R N k ≤ rngR R N (k + 1) := by
  obtain ⟨hl, ha⟩ := h.at
  obtain ⟨i, rfl | rfl⟩ : ∃ i, k = 2 * i ∨ k = 2 * i + 1 := ⟨k / 2, by omega⟩
  · by_cases hi : i < Q.length
    · obtain ⟨lo, u, e, _, e1, _⟩ := ha i Q[i] (List.getElem?_eq_getElem hi)
      rw [rngR_lo e, rngR_hi e]
      exact e1
    · rw [rngR_end (by omega), rngR_end (by omega)]
      exact Nat.le_refl _
  · by_cases hi : i < Q.length
    · obtain ⟨lo, u, e, _, e1, e2, _, _, e3⟩ := ha i Q[i] (List.getElem?_eq_getElem hi)
      rw [rngR_hi e]
      by_cases hj : i + 1 < Q.length
      · obtain ⟨lo', u', e', _⟩ := ha (i + 1) Q[i + 1] (List.getElem?_eq_getElem hj)
        rw [show 2 * i + 1 + 1 = 2 * (i + 1) by omega, rngR_lo e']
        exact e3 _ _ e'
      · rw [rngR_end (by omega)]
        exact e2
    · rw [rngR_end (by omega), rngR_end (by omega)]
      exact Nat.le_refl _
theorem own_arr {y : World} {b : Nat} {e : TypeId} {z n : Nat} {v : Value} {xs : List Value} {C : Nat → Nat → Value} (h : y.ownsRow b e z v n xs) (hn : n ≤ 9223372036854775807) (hC : ∀ i, i < n → ∀ j, j < z → xs[i * z + j]? = some (C i j)) :
    ∃ B, OwnArr y v z n C B ∧ (0 < n → v.ownBlock = some B) := by
  rcases h.2 with ⟨rfl, rfl⟩ | ⟨g, cap, cur, rfl, hbb, hg, hnc, hcm, hcs, htk⟩
  · exact ⟨0, ⟨none, 0, rfl, hn, fun h => by omega⟩, fun h => by omega⟩
  · refine ⟨g, ⟨_, cap, rfl, hn, fun _ => ⟨rfl, e, cap * z, fun i => cur[i]!, ⟨cur, hg, hcs, fun i hi => ?_⟩, Nat.mul_le_mul_right z hnc, fun i hi j hj => ?_⟩⟩, fun _ => rfl⟩
    · rw [Array.getElem?_eq_getElem (by omega)]
      congr 1
      exact (getElem!_pos cur i (by omega)).symm
    · have hlt := lt_mul_of hi hj
      have hle := Nat.mul_le_mul_right z hnc
      have h1 := hC i hi j hj
      rw [← htk, List.getElem?_take_of_lt hlt, Array.getElem?_toList] at h1
      have h2 : i * z + j < cur.size := by omega
      rw [Array.getElem?_eq_getElem h2] at h1
      show cur[i * z + j]! = C i j
      rw [getElem!_pos cur (i * z + j) h2]
      exact Option.some.inj h1
theorem PVok.own {w : World} {B lo hi : Nat} {q : PV} (h : PVok w B q) (h1 : q.p.code.n ≤ 1000000) (h2 : q.p.consts.n ≤ 1000000) (h3 : q.p.ups.n ≤ 1000000) (hb : ∀ k, some k ∈ q.blks → lo ≤ k ∧ k < hi)
    (hap : Apt [q.a3.ownBlock, q.a4.ownBlock, q.a5.ownBlock]) : ∃ B3 B4 B5, OwnProto w lo hi q.a3 q.a4 q.a5 (.slice none 0 0) (.slice none 0 0) B3 B4 B5 0 0 q.p := by
  obtain ⟨B3, o3, e3⟩ := own_arr (C := iC .u32 q.p.code.f) h.code (by omega) (fun i hi j hj => by
    obtain rfl : j = 0 := by omega
    rw [Nat.mul_one, Nat.add_zero, codeC, List.getElem?_map, range_get hi]
    rfl)
  obtain ⟨B4, o4, e4⟩ := own_arr (C := vC q.p.consts.f) h.consts (by omega) (fun i hi j hj => by
    rw [valC, flat_get (z := 3) (List.range q.p.consts.n) (fun x _ => rfl) i i (range_get hi) j hj]
    match j, hj with
    | 0, _ => rfl
    | 1, _ => rfl
    | 2, _ => rfl)
  obtain ⟨B5, o5, e5⟩ := own_arr (C := uC q.p.ups.f) h.ups (by omega) (fun i hi j hj => by
    rw [upC, flat_get (z := 2) (List.range q.p.ups.n) (fun x _ => rfl) i i (range_get hi) j hj]
    match j, hj with
    | 0, _ => rfl
    | 1, _ => rfl)
  obtain ⟨n1, n2, n3⟩ := apt3 (l := []) hap
  have hl := h.lines
  have hu := h.upNames
  have ne : ∀ {x y : Option Nat} {a b : Nat}, (x = none ∨ x ≠ y) → x = some a → y = some b → a ≠ b := fun h ha hb e => by
    subst ha; subst hb; subst e
    rcases h with h | h
    · cases h
    · exact h rfl
  refine ⟨B3, B4, B5, ⟨o3, o4, o5, ⟨none, 0, by rw [hl], by rw [hl]; omega, fun h => by omega⟩, ⟨none, 0, by rw [hu], by rw [hu]; omega, fun h => by omega⟩, fun h0 => hb _ (by simp [PV.blks, e3 h0]), fun h0 => hb _ (by simp [PV.blks, e4 h0]), fun h0 => hb _ (by simp [PV.blks, e5 h0]), fun h => by omega, fun h => by omega,
    fun a b => ne n1 (e3 a) (e4 b), fun a b => ne n2 (e3 a) (e5 b), fun _ h => by omega, fun _ h => by omega, fun a b => ne n3 (e4 a) (e5 b), fun _ h => by omega, fun _ h => by omega, fun _ h => by omega, fun _ h => by omega, fun h => by omega⟩⟩
theorem apt_sub {l r : List (Option Nat)} (h : Apt l) (hs : List.Sublist r l) : Apt r := List.Pairwise.sublist hs h
/-- what was made owns its memory. -/
theorem Mk.mine {w : World} {B : Nat} {sv : Value} {Q : List PV} (h : Mk w B sv Q) (hr : Rgs B w.heap.size sv.ownBlock Q) (hQ : Q.length ≤ 1000000) (hb : ∀ q ∈ Q, q.p.code.n ≤ 1000000 ∧ q.p.consts.n ≤ 1000000 ∧ q.p.ups.n ≤ 1000000) (h0 : 0 < Q.length) :
    Mine w sv (chunkOf (Q.map (·.p))) B w.heap.size := by
  obtain ⟨R, hR⟩ := hr.shut
  obtain ⟨hRl, hRa⟩ := hR.at
  have hat : ∀ i, i < Q.length → Q[i]? = some (Q.getD i PV.zero) ∧ (chunkOf (Q.map (·.p))).f i = (Q.getD i PV.zero).p := fun i hi => by
    have e : Q[i]? = some (Q.getD i PV.zero) := by rw [List.getD, List.getElem?_eq_getElem hi]; rfl
    refine ⟨e, ?_⟩
    show (Q.map (·.p)).getD i _ = _
    rw [List.getD, List.getElem?_map, e]
    rfl
  have hn : (chunkOf (Q.map (·.p))).n = Q.length := by simp [chunkOf]
  let vv : Nat → Nat → Value := fun k i => if k = 3 then (Q.getD i PV.zero).a3 else if k = 4 then (Q.getD i PV.zero).a4 else if k = 5 then (Q.getD i PV.zero).a5 else .slice none 0 0
  have hown : ∀ i, ∃ b : Nat → Nat, ∀ hi : i < Q.length, OwnProto w (rngR R w.heap.size (2 * i)) (rngR R w.heap.size (2 * i + 1)) (vv 3 i) (vv 4 i) (vv 5 i) (vv 8 i) (vv 9 i) (b 3) (b 4) (b 5) (b 8) (b 9) ((chunkOf (Q.map (·.p))).f i) := fun i => by
    by_cases hi : i < Q.length
    · obtain ⟨e, e2⟩ := hat i hi
      obtain ⟨lo, u, r1, r2, r3, r4, r5, r6, r7⟩ := hRa i _ e
      have hm := List.mem_of_getElem? e
      obtain ⟨b1, b2, b3⟩ := hb _ hm
      obtain ⟨B3, B4, B5, ho⟩ := (h.each _ hm).own (lo := lo) (hi := u) b1 b2 b3 r5 (apt_sub h.apart (by
        refine List.Sublist.cons _ ?_
        have : (Q.getD i PV.zero).blks.Sublist (Q.flatMap PV.blks) := by
          generalize Q.getD i PV.zero = qi at hm
          obtain ⟨s, t, hst⟩ := List.append_of_mem hm
          rw [hst, List.flatMap_append, List.flatMap_cons]
          exact (List.sublist_append_left _ _).trans (List.sublist_append_right _ _)
        exact this))
      refine ⟨fun k => if k = 3 then B3 else if k = 4 then B4 else if k = 5 then B5 else 0, fun _ => ?_⟩
      rw [rngR_lo r1, rngR_hi r1, e2]
      exact ho
    · exact ⟨fun _ => 0, fun h => absurd h hi⟩
  obtain ⟨B0, hc, e0⟩ := own_arr (C := pC (chunkOf (Q.map (·.p))).f (vv 3) (vv 4) (vv 5) (vv 8) (vv 9)) h.row (by omega) (fun i hi j hj => by
    obtain ⟨e, e2⟩ := hat i hi
    rw [flat_get (z := 10) Q (fun x _ => rfl) i _ e j hj]
    match j, hj with
    | 0, _ => simp [PV.cells, pC, e2, vv]
    | 1, _ => simp [PV.cells, pC, e2, vv]
    | 2, _ => simp [PV.cells, pC, e2, vv]
    | 3, _ => simp [PV.cells, pC, e2, vv]
    | 4, _ => simp [PV.cells, pC, e2, vv]
    | 5, _ => simp [PV.cells, pC, e2, vv]
    | 6, _ => simp [PV.cells, pC, e2, vv]
    | 7, _ => simp [PV.cells, pC, e2, vv]
    | 8, _ => simp [PV.cells, pC, e2, vv]
    | 9, _ => simp [PV.cells, pC, e2, vv])
  have hB := ownsRow_lt h.row _ (e0 h0)
  have h00 : B ≤ rngR R w.heap.size 0 := by
    obtain ⟨lo, u, r1, r2, _⟩ := hRa 0 Q[0] (List.getElem?_eq_getElem h0)
    have := rngR_lo (N := w.heap.size) r1
    simp at this
    omega
  refine ⟨B0, rngR R w.heap.size, vv, fun k i => (hown i).choose k, fun _ => hB.1, hB.2, Nat.le_refl _, h00, ?_⟩
  rw [hn]
  refine ⟨hc, hB.2, ⟨h00, fun i hi => ?_⟩, rngR_mono hR, ?_, fun i hi => (hown i).choose_spec hi⟩
  · obtain ⟨lo, u, r1, r2, r3, r4, r5, r6, r7⟩ := hRa i Q[i] (List.getElem?_eq_getElem hi)
    rw [rngR_lo r1, rngR_hi r1]
    exact r6 B0 (e0 h0)
  · rw [rngR_end (by omega)]
    exact Nat.le_refl _
end
section
open Go.RowKit
set_option linter.unusedVariables false
set_option linter.unusedSimpArgs false
/-- what a line makes, the line as a text. -/
def LineTo (L : List PD) (s : ByteArray) (R : Option (List PD)) : Prop := ∃ w r, cutB 32 s = w :: r ∧ LStep L w r R
theorem LineTo.det {L : List PD} {s : ByteArray} {R S : Option (List PD)} (h : LineTo L s R) (k : LineTo L s S) : R = S := by
  obtain ⟨w, r, e, h⟩ := h
  obtain ⟨w', r', e', k⟩ := k
  rw [e] at e'
  simp only [List.cons.injEq] at e'
  obtain ⟨rfl, rfl⟩ := e'
  exact h.det k
inductive Steps : List PD → List ByteArray → List PD → Prop
  | nil {L} : Steps L [] L
  | cons {L s ls L1 L2} : LineTo L s (some L1) → Steps L1 ls L2 → Steps L (s :: ls) L2
theorem Steps.snoc : ∀ {ls : List ByteArray} {L L1 L2 : List PD} {s : ByteArray}, Steps L ls L1 → LineTo L1 s (some L2) → Steps L (ls ++ [s]) L2
  | [], _, _, _, _, .nil, h => .cons h .nil
  | _ :: _, _, _, _, _, .cons h1 h2, h => .cons h1 (h2.snoc h)
theorem Steps.det : ∀ {ls : List ByteArray} {L A B : List PD}, Steps L ls A → Steps L ls B → A = B
  | [], _, _, _, .nil, .nil => rfl
  | _ :: _, _, _, _, .cons h1 h2, .cons k1 k2 => by
    have := h1.det k1
    simp only [Option.some.injEq] at this
    subst this
    exact h2.det k2
theorem Steps.split : ∀ {pre : List ByteArray} {post : List ByteArray} {L B : List PD}, Steps L (pre ++ post) B → ∃ A, Steps L pre A ∧ Steps A post B
  | [], _, _, _, h => ⟨_, .nil, h⟩
  | _ :: _, _, _, _, .cons h1 h2 => by
    obtain ⟨A, k1, k2⟩ := h2.split
    exact ⟨A, .cons h1 k1, k2⟩
/-- the lines one behind the other: all of them, or the number of the first bad one. -/
inductive AsmR (ls : List ByteArray) : Option (List PD) → Nat → Prop
  | good {L} : Steps [] ls L → AsmR ls (some L) 0
  | bad {pre s post L} : ls = pre ++ s :: post → Steps [] pre L → LineTo L s none → AsmR ls none pre.length
theorem no_both {pre post : List ByteArray} {s : ByteArray} {L M N : List PD} (h : Steps L (pre ++ s :: post) N) (h1 : Steps L pre M) (h2 : LineTo M s none) : False := by
  obtain ⟨A, k1, k2⟩ := h.split
  obtain rfl := h1.det k1
  cases k2 with
  | cons k3 _ => exact absurd (h2.det k3) (by simp)
theorem AsmR.det {ls : List ByteArray} {A B : Option (List PD)} {i j : Nat} (h : AsmR ls A i) (k : AsmR ls B j) : A = B ∧ i = j := by
  cases h with
  | good h =>
    cases k with
    | good k => exact ⟨by rw [h.det k], rfl⟩
    | bad e k1 k2 => rw [e] at h; exact (no_both h k1 k2).elim
  | @bad p1 s1 t1 L1 e h1 h2 =>
    cases k with
    | good k => rw [e] at k; exact (no_both k h1 h2).elim
    | @bad p2 s2 t2 L2 e' k1 k2 =>
      refine ⟨rfl, ?_⟩
      rw [e] at e'
      rcases Nat.lt_trichotomy p1.length p2.length with hl | hl | hl
      · have hp : p1 ++ [s1] <+: p2 := by
          refine List.prefix_of_prefix_length_le (l₃ := p1 ++ s1 :: t1) ⟨t1, by simp⟩ ⟨s2 :: t2, e'.symm⟩ (by simp; omega)
        obtain ⟨x, hx⟩ := hp
        rw [← hx, List.append_assoc, List.singleton_append] at k1
        exact (no_both k1 h1 h2).elim
      · exact hl
      · have hp : p2 ++ [s2] <+: p1 := by
          refine List.prefix_of_prefix_length_le (l₃ := p1 ++ s1 :: t1) ⟨t2, by rw [e']; simp⟩ ⟨s1 :: t1, rfl⟩ (by simp; omega)
        obtain ⟨x, hx⟩ := hp
        rw [← hx, List.append_assoc, List.singleton_append] at h1
        exact (no_both h1 k1 k2).elim
/-- no list is longer than the lines. -/
def Few (n : Nat) (L : List PD) : Prop := L.length ≤ n ∧ ∀ p ∈ L, p.code.n ≤ n ∧ p.consts.n ≤ n ∧ p.ups.n ≤ n
theorem Few.nil (n : Nat) : Few n [] := ⟨by simp, by simp⟩
theorem Few.more {n : Nat} {L : List PD} (h : Few n L) : Few (n + 1) L := ⟨Nat.le_succ_of_le h.1, fun p hp => by have := h.2 p hp; omega⟩
theorem headP_bare {r : List ByteArray} {p : PD} (h : headP r = some p) : p.code.n = 0 ∧ p.consts.n = 0 ∧ p.ups.n = 0 := by
  unfold headP at h
  split at h
  · split at h
    · simp only [Option.some.injEq] at h; subst h; exact ⟨rfl, rfl, rfl⟩
    · cases h
  · split at h
    · split at h
      · simp only [Option.some.injEq] at h; subst h; exact ⟨rfl, rfl, rfl⟩
      · cases h
    · cases h
  · cases h
theorem Few.last {n : Nat} {K : List PD} {p p' : PD} (h : Few n (K ++ [p])) (h1 : p'.code.n ≤ p.code.n + 1) (h2 : p'.consts.n ≤ p.consts.n + 1) (h3 : p'.ups.n ≤ p.ups.n + 1) : Few (n + 1) (K ++ [p']) := by
  refine ⟨by have := h.1; simp at this ⊢; omega, fun q hq => ?_⟩
  rcases List.mem_append.1 hq with hq | hq
  · have := h.2 q (List.mem_append_left _ hq); omega
  · simp only [List.mem_cons, List.not_mem_nil, or_false] at hq
    subst hq
    have := h.2 p (by simp)
    omega
theorem LineTo.few {n : Nat} {L M : List PD} {s : ByteArray} (h : LineTo L s (some M)) (hf : Few n L) : Few (n + 1) M := by
  obtain ⟨w, r, e, h⟩ := h
  generalize hR : some M = R at h
  cases h with
  | proto =>
    cases hh : headP r with
    | none => rw [hh] at hR; cases hR
    | some p =>
      rw [hh] at hR
      simp only [Option.map_some, Option.some.injEq] at hR
      subst hR
      obtain ⟨h1, h2, h3⟩ := headP_bare hh
      refine ⟨by have := hf.1; simp; omega, fun q hq => ?_⟩
      rcases List.mem_append.1 hq with hq | hq
      · have := hf.2 q hq; omega
      · simp only [List.mem_cons, List.not_mem_nil, or_false] at hq
        subst hq
        omega
  | none _ => cases hR
  | const =>
    split at hR
    · cases hh : constP r with
      | none => rw [hh] at hR; cases hR
      | some d =>
        rw [hh] at hR
        simp only [Option.map_some, Option.some.injEq] at hR
        subst hR
        exact hf.last (Nat.le_succ _) (Nat.le_refl _) (Nat.le_succ _)
    · cases hR
  | up =>
    split at hR
    · cases hh : upP r with
      | none => rw [hh] at hR; cases hR
      | some d =>
        rw [hh] at hR
        simp only [Option.map_some, Option.some.injEq] at hR
        subst hR
        exact hf.last (Nat.le_succ _) (Nat.le_succ _) (Nat.le_refl _)
    · cases hR
  | @word K p w r R _ _ _ _ =>
    cases R with
    | none => cases hR
    | some d =>
      simp only [Option.map_some, Option.some.injEq] at hR
      subst hR
      exact hf.last (Nat.le_refl _) (Nat.le_succ _) (Nat.le_succ _)
theorem Steps.few : ∀ {ls : List ByteArray} {L M : List PD} {n : Nat}, Steps L ls M → Few n L → Few (n + ls.length) M
  | [], _, _, _, .nil, h => h
  | _ :: ls, _, _, n, .cons h1 h2, h => by
    have := h2.few (h1.few h)
    rw [List.length_cons, Nat.add_comm ls.length 1, ← Nat.add_assoc]
    exact this
/-- the lines of a text: no empty one at the end. -/
def linesOf (s : ByteArray) : List ByteArray := if (cutB 10 s).getLast? = some ⟨#[]⟩ then (cutB 10 s).dropLast else cutB 10 s
end
section
open Go.RowKit Go.Shelf
set_option linter.unusedVariables false
set_option linter.unusedSimpArgs false
set_option maxRecDepth 100000
set_option maxHeartbeats 4000000
theorem cutL_len (b : UInt8) : ∀ l, (cutL b l).length ≤ l.length + 1
  | [] => by simp [cutL]
  | c :: r => by
    have ih := cutL_len b r
    unfold cutL
    split
    · simp; omega
    · split
      · simp
      · rename_i h t e
        rw [e] at ih
        simp at ih ⊢
        omega
theorem cutL_mem (b : UInt8) : ∀ l, ∀ x ∈ cutL b l, x.length ≤ l.length
  | [], x, h => by simp [cutL] at h; subst h; simp
  | c :: r, x, h => by
    have ih := cutL_mem b r
    unfold cutL at h
    split at h
    · rcases List.mem_cons.1 h with rfl | h
      · simp
      · have := ih x h; simp; omega
    · split at h
      · simp at h; subst h; simp
      · rename_i hh t e
        rcases List.mem_cons.1 h with rfl | h
        · have := ih hh (by rw [e]; simp); simp; omega
        · have := ih x (by rw [e]; simp [h]); simp; omega
theorem cutB_len (b : UInt8) (s : ByteArray) : (cutB b s).length ≤ s.size + 1 := by
  unfold cutB
  rw [List.length_map]
  have := cutL_len b s.data.toList
  rw [Array.length_toList] at this
  exact this
theorem cutB_mem (b : UInt8) (s : ByteArray) : ∀ x ∈ cutB b s, x.size ≤ s.size := by
  intro x hx
  unfold cutB at hx
  obtain ⟨l, hl, rfl⟩ := List.mem_map.1 hx
  have := cutL_mem b _ l hl
  rw [Array.length_toList] at this
  show l.toArray.size ≤ s.data.size
  simpa using this
theorem unhexL_len : ∀ (l : List UInt8) (m : List UInt8), unhexL l = some m → m.length ≤ l.length
  | [], m, h => by simp [unhexL] at h; subst h; simp
  | [_], m, h => by simp [unhexL] at h
  | a :: b :: r, m, h => by
    unfold unhexL at h
    split at h
    · cases h
    · cases hr : unhexL r with
      | none => rw [hr] at h; cases h
      | some t =>
        rw [hr] at h
        simp at h
        subst h
        have := unhexL_len r t hr
        simp; omega
theorem constP_text {r : List ByteArray} {d : VD} {N : Nat} (h : constP r = some d) (hz : ∀ x ∈ r, x.size ≤ N) : d.text.size ≤ N := by
  unfold constP at h
  split at h
  · split at h
    · cases h; exact Nat.zero_le _
    · split at h
      · cases h; exact Nat.zero_le _
      · split at h
        · cases h; exact Nat.zero_le _
        · cases h
  · rename_i p q
    split at h
    · cases hd : decOf q with
      | none => rw [hd] at h; cases h
      | some n => rw [hd] at h; cases h; exact Nat.zero_le _
    · split at h
      · cases hd : unhexOf q with
        | none => rw [hd] at h; cases h
        | some t =>
          rw [hd] at h
          cases h
          unfold unhexOf at hd
          cases hu : unhexL q.data.toList with
          | none => rw [hu] at hd; cases hd
          | some m =>
            rw [hu] at hd
            cases hd
            have h1 := unhexL_len _ m hu
            have h2 := hz q (by simp)
            rw [Array.length_toList] at h1
            have : m.toArray.size ≤ N := by simp; exact Nat.le_trans h1 h2
            exact this
      · cases h
  · cases h
/-- how the model's l6Line ends. -/
def LineEnds (L : List PD) (s : ByteArray) (B : Nat) (e : Ending) (w' : World) : Prop := ∃ (v : Value) (b : Bool) (R : Option (List PD)), e = .returned (.tuple #[.agg #[v], .bool b]) ∧ LineTo L s R ∧ (b = true → ∃ Q : List PV, R = some (Q.map (·.p)) ∧ Mk w' B v Q) ∧ (b = false → R = none)
theorem RowL.rangeAt {w : World} {b : Nat} {t : TypeId} {L : List Value} (h : RowL w b t L) : w.rangeAt b 0 L := fun j v hj => by
  rw [Nat.zero_add]
  exact h.cell j hj
theorem Mk.lastRange {w : World} {B : Nat} {K : List PV} {q : PV} {g cap : Nat} (h : Mk w B (.slice (some ⟨g, 0, none⟩) (K.length + 1) cap) (K ++ [q])) : w.rangeAt g (K.length * 10) q.cells := fun j v hj => by
  have hr := h.row
  have hl : (K ++ [q]).length = K.length + 1 := by simp
  rw [hl] at hr
  have hjl : j < 10 := (List.getElem?_eq_some_iff.1 hj).1
  rw [hr.cellAt (K.length * 10 + j) (by rw [Nat.add_mul]; omega), List.flatMap_append, List.getElem?_append_right (by rw [len_flat]; omega), len_flat, Nat.add_sub_cancel_left]
  simpa using hj
theorem Mk.lastThere {w : World} {B : Nat} {K : List PV} {q : PV} {g cap : Nat} (h : Mk w B (.slice (some ⟨g, 0, none⟩) (K.length + 1) cap) (K ++ [q])) : w.there g (K.length * 10) 10 := fun j hj => by
  have hr := h.row
  have hl : (K ++ [q]).length = K.length + 1 := by simp
  rw [hl] at hr
  refine ⟨?_, hr.frozenAt _⟩
  have hjl : j < q.cells.length := hj
  rw [h.lastRange j q.cells[j] (List.getElem?_eq_getElem hjl)]
  rfl
theorem Mk.form {w : World} {B : Nat} {sv : Value} {K : List PV} {q : PV} (h : Mk w B sv (K ++ [q])) : ∃ g cap, sv = .slice (some ⟨g, 0, none⟩) (K.length + 1) cap ∧ g < w.heap.size ∧ B ≤ g ∧ K.length + 1 ≤ cap := by
  rcases h.row.2 with ⟨hv, hz⟩ | ⟨g, cap, cur, hv, hb, hg, hc, _⟩
  · simp at hz
  · exact ⟨g, cap, by rw [hv]; simp, (Array.getElem?_eq_some_iff.1 hg).1, hb, by simpa using hc⟩
theorem one_cells (q : PV) (h3 : q.a3.oneCell' = true) (h4 : q.a4.oneCell' = true) (h5 : q.a5.oneCell' = true) : q.cells.toArray.all (·.oneCell') = true := by
  have h : q.cells.all (·.oneCell') = true := by
    show ([_, _, _, q.a3, q.a4, q.a5, _, _, _, _] : List Value).all (·.oneCell') = true
    simp only [List.all_cons, List.all_nil, h3, h4, h5]
    rfl
  simpa using h
theorem ownsRow_one {w : World} {B z n : Nat} {e : TypeId} {v : Value} {xs : List Value} (h : w.ownsRow B e z v n xs) : v.oneCell' = true := by
  rcases h.2 with ⟨rfl, _⟩ | ⟨g, cap, cur, rfl, _⟩ <;> rfl
theorem infPc (q : PV) : (Tryz.prog.info? 53).map (·.size) = some q.cells.length := infP1
theorem infPa (q : PV) : (Tryz.prog.info? 53).map (·.size) = some q.cells.toArray.size := infP1
theorem Mk.keepB {w w' : World} {B : Nat} {sv : Value} {Q : List PV} (h : Mk w B sv Q) (hk : ∀ k, some k ∈ sv.ownBlock :: Q.flatMap PV.blks → w'.heap[k]? = w.heap[k]?) : Mk w' B sv Q :=
  ⟨ownsRow_keep h.row fun k e => hk k (by rw [e]; exact List.mem_cons_self ..), fun q hq => (h.each q hq).keep fun k e => hk k (List.mem_cons_of_mem _ (List.mem_flatMap.2 ⟨q, hq, e⟩)), h.apart⟩
theorem setCells_size' (g : Nat) : ∀ (vs : List Value) (o : Nat) (w : World), (w.setCells g o vs).heap.size = w.heap.size
  | [], _, _ => rfl
  | v :: vs, o, w => by rw [World.setCells, setCells_size' g vs, World.size_setCell]
theorem line_end {w w5 : World} {B g cap : Nat} {K : List PV} {q q' : PV} {ch : Option Nat} {v : Value} (hM : Mk w B (.slice (some ⟨g, 0, none⟩) (K.length + 1) cap) (K ++ [q])) (hB : B ≤ w.heap.size) (hg : w.grownBy w5 ch) (hch : ∀ k, ch = some k → B ≤ k)
    (h6 : Mk (w5.setCells g (K.length * 10) q'.cells) B (.slice (some ⟨g, 0, none⟩) (K.length + 1) cap) (K ++ [q'])) (hbl : ∀ k, some k ∈ q'.blks → k < w.heap.size ∨ w.heap.size + 2 ≤ k) :
    Mk ((w5.setCells g (K.length * 10) q'.cells).setCell ⟨w.heap.size + 1, 0, none⟩ v) B (.slice (some ⟨g, 0, none⟩) (K.length + 1) cap) (K ++ [q']) ∧ Below B w ((w5.setCells g (K.length * 10) q'.cells).setCell ⟨w.heap.size + 1, 0, none⟩ v) := by
  have hgl := hM.blkLt g (by simp [Value.ownBlock])
  have hr := h6.row
  constructor
  · refine h6.keepB fun k hk => heap_setCell_other _ ⟨w.heap.size + 1, 0, none⟩ k v (fun e => ?_)
    have e : k = w.heap.size + 1 := e
    rcases List.mem_cons.1 hk with e1 | hk
    · simp only [Value.ownBlock, Option.some.injEq] at e1
      omega
    · rw [List.flatMap_append] at hk
      rcases List.mem_append.1 hk with hk | hk
      · have := hM.blkLt k (List.mem_cons_of_mem _ (by rw [List.flatMap_append]; exact List.mem_append_left _ hk))
        omega
      · have := hbl k (by simpa using hk)
        omega
  · have e1 : ∀ (vs : List Value) (o : Nat) (y : World), y.grownBy (y.setCells g o vs) (some g) := by
      intro vs
      induction vs with
      | nil => intro o y; exact grownBy_same _ _
      | cons u vs ih =>
        intro o y
        have h1 : y.grownBy (y.setCell ⟨g, o, none⟩ u) (some g) := ⟨rfl, rfl, rfl, by rw [World.size_setCell]; exact Nat.le_refl _, fun k _ hk => heap_setCell_other y ⟨g, o, none⟩ k u (fun e => hk (by simp [e]))⟩
        exact h1.trans (ih (o + 1) _)
    have b5 : Below B w w5 := (Below.refl B w).grown hg hB hch
    have b6 : Below B w (w5.setCells g (K.length * 10) q'.cells) := b5.grown (e1 _ _ _) (Nat.le_trans hB hg.size) (fun k e => by cases e; exact hgl.2)
    exact b6.setCell (show B ≤ w.heap.size + 1 by omega) _
end
end Go.Proofs.YtkanjbopfflioaaGreatDoor

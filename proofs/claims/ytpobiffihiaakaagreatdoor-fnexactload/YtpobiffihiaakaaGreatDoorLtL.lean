import Derived.Test.YtpobiffihiaakaaGreatDoorLtK
import Derived.Test.YtpobiffihiaakaaGreatDoorGE
namespace Go.Proofs.YtpobiffihiaakaaGreatDoor
open Go.RowKit
set_option linter.unusedVariables false
set_option linter.unusedSimpArgs false
set_option maxRecDepth 100000
set_option maxHeartbeats 1000000
theorem flat_get {α β : Type} (c : α → List β) (z : Nat) (hz : ∀ x, (c x).length = z) : ∀ (L : List α) (i j : Nat) (hi : i < L.length), j < z → (L.flatMap c)[i * z + j]? = (c L[i])[j]?
  | [], i, j, hi, hj => by simp at hi
  | x :: L, 0, j, hi, hj => by
    rw [List.flatMap_cons, Nat.zero_mul, Nat.zero_add, List.getElem?_append_left (by rw [hz]; exact hj)]
    rfl
  | x :: L, i + 1, j, hi, hj => by
    rw [List.flatMap_cons, List.getElem?_append_right (by rw [hz, Nat.succ_mul]; omega), hz, Nat.succ_mul, show i * z + z + j - z = i * z + j by omega]
    exact flat_get c z hz L i j (by simpa using hi) hj
theorem own_arr {y : World} {b : Nat} {e : TypeId} {z n : Nat} {v : Value} {xs : List Value} {C : Nat → Nat → Value} (h : y.ownsRow b e z v n xs) (hn : n ≤ 9223372036854775807) (hC : ∀ i, i < n → ∀ j, j < z → xs[i * z + j]? = some (C i j)) :
    ∃ B, OwnArr y v z n C B ∧ (0 < n → v.ownBlock = some B) := by
  rcases h.2 with ⟨rfl, rfl⟩ | ⟨g, cap, cur, rfl, hbb, hg, hnc, hcm, hcs, htk⟩
  · exact ⟨0, ⟨none, 0, rfl, hn, fun h => by omega⟩, fun h => by omega⟩
  · refine ⟨g, ⟨_, cap, rfl, hn, fun _ => ⟨rfl, e, cap * z, fun i => cur[i]!, ⟨cur, hg, hcs, fun i hi => ?_⟩, Nat.mul_le_mul_right z hnc, fun i hi j hj => ?_⟩⟩, fun _ => rfl⟩
    · rw [Array.getElem?_eq_getElem (by omega)]
      congr 1
      exact (getElem!_pos cur i (by omega)).symm
    · have hlt := lt_mul_of hi hj
      have hle := Nat.mul_le_mul_right z hnc
      have h1 := hC i hi j hj
      rw [← htk, List.getElem?_take_of_lt hlt, Array.getElem?_toList] at h1
      have h2 : i * z + j < cur.size := by omega
      rw [Array.getElem?_eq_getElem h2] at h1
      show cur[i * z + j]! = C i j
      rw [getElem!_pos cur (i * z + j) h2]
      exact Option.some.inj h1
/-- a list as data. -/
def slL {α : Type} (L : List α) (d : α) : Sl α := ⟨L.length, fun i => L.getD i d⟩
def pdOf (p : PR) : PD :=
  { params := p.params, vararg := p.vararg, regs := p.regs, code := ⟨p.code.length, fun i => ((p.code.getD i 0 : Nat) : Int)⟩, consts := slL p.consts ⟨0, 0, ByteArray.empty⟩, ups := slL p.ups ⟨false, 0⟩
    kids := p.kids, name := p.name, lines := slL p.lines 0, upNames := slL p.upNames ByteArray.empty }
theorem getD_of {α : Type} {L : List α} {i : Nat} {d : α} (h : i < L.length) : L.getD i d = L[i] := by simp [List.getD, h]
structure PrB (p : PR) : Prop where
  code : p.code.length ≤ 1048576
  consts : p.consts.length ≤ 1048576
  ups : p.ups.length ≤ 1048576
  lines : p.lines.length ≤ 1048576
  upNames : p.upNames.length ≤ 1048576
theorem ItOk.own {y : World} {x : PI} (h : ItOk y x) (hb : PrB x.p) : ∃ B3 B4 B5 B8 B9, OwnProto y x.lo x.hi x.v3 x.v4 x.v5 x.v8 x.v9 B3 B4 B5 B8 B9 (pdOf x.p) := by
  obtain ⟨B3, o3, e3⟩ := own_arr (C := iC .u32 (pdOf x.p).code.f) h.row.o3 (by have := hb.code; omega) (fun i hi j hj => by
    rw [flat_get cCode 1 (fun _ => rfl) _ i j hi hj]
    obtain rfl : j = 0 := by omega
    simp [cCode, iC, pdOf, hi])
  obtain ⟨B4, o4, e4⟩ := own_arr (C := vC (pdOf x.p).consts.f) h.row.o4 (by have := hb.consts; omega) (fun i hi j hj => by
    rw [flat_get cConsts 3 (fun _ => rfl) _ i j hi hj]
    have : j = 0 ∨ j = 1 ∨ j = 2 := by omega
    rcases this with rfl | rfl | rfl <;> simp [cConsts, vC, pdOf, slL, hi])
  obtain ⟨B5, o5, e5⟩ := own_arr (C := uC (pdOf x.p).ups.f) h.row.o5 (by have := hb.ups; omega) (fun i hi j hj => by
    rw [flat_get cUps 2 (fun _ => rfl) _ i j hi hj]
    have : j = 0 ∨ j = 1 := by omega
    rcases this with rfl | rfl <;> simp [cUps, uC, pdOf, slL, hi])
  obtain ⟨B8, o8, e8⟩ := own_arr (C := iC .i64 (pdOf x.p).lines.f) h.row.o8 (by have := hb.lines; omega) (fun i hi j hj => by
    rw [flat_get cLines 1 (fun _ => rfl) _ i j hi hj]
    obtain rfl : j = 0 := by omega
    simp [cLines, iC, pdOf, slL, hi])
  obtain ⟨B9, o9, e9⟩ := own_arr (C := sC (pdOf x.p).upNames.f) h.row.o9 (by have := hb.upNames; omega) (fun i hi j hj => by
    rw [flat_get cNames 1 (fun _ => rfl) _ i j hi hj]
    obtain rfl : j = 0 := by omega
    simp [cNames, sC, pdOf, slL, hi])
  obtain ⟨m4, m5, m8, m9, s3, s4, s5, s8, s9, q1, q2, q3⟩ := h.row.sep
  refine ⟨B3, B4, B5, B8, B9, ⟨o3, o4, o5, o8, o9, fun h0 => ⟨(h.row.o3.lt _ (e3 h0)).1, h.b3 _ (e3 h0)⟩, fun h0 => ⟨(h.row.o4.lt _ (e4 h0)).1, h.b4 _ (e4 h0)⟩, fun h0 => ⟨(h.row.o5.lt _ (e5 h0)).1, h.b5 _ (e5 h0)⟩, fun h0 => ⟨(h.row.o8.lt _ (e8 h0)).1, h.b8 _ (e8 h0)⟩, fun h0 => ⟨(h.row.o9.lt _ (e9 h0)).1, h.b9 _ (e9 h0)⟩, ?_, ?_, ?_, ?_, ?_, ?_, ?_, ?_, ?_, ?_⟩⟩
  · intro a b; have := s3 _ (e3 a); have := s4 _ (e4 b); omega
  · intro a b; have := s3 _ (e3 a); have := s5 _ (e5 b); omega
  · intro a b; have := s3 _ (e3 a); have := s8 _ (e8 b); omega
  · intro a b; have := s3 _ (e3 a); have := s9 _ (e9 b); omega
  · intro a b; have := s4 _ (e4 a); have := s5 _ (e5 b); omega
  · intro a b; have := s4 _ (e4 a); have := s8 _ (e8 b); omega
  · intro a b; have := s4 _ (e4 a); have := s9 _ (e9 b); omega
  · intro a b; have := s5 _ (e5 a); have := s8 _ (e8 b); omega
  · intro a b; have := s5 _ (e5 a); have := s9 _ (e9 b); omega
  · intro a b; have := s8 _ (e8 a); have := s9 _ (e9 b); omega
/-- where the lists of the prototypes begin and end. -/
def rngOf (its : List PI) (mid k : Nat) : Nat := if h : k / 2 < its.length then (if k % 2 = 0 then its[k / 2].lo else its[k / 2].hi) else mid
theorem rngOf_lo {its : List PI} {mid i : Nat} (h : i < its.length) : rngOf its mid (2 * i) = its[i].lo := by
  unfold rngOf
  have e : 2 * i / 2 = i := by omega
  rw [dif_pos (by omega), if_pos (by omega)]
  simp [e]
theorem rngOf_hi {its : List PI} {mid i : Nat} (h : i < its.length) : rngOf its mid (2 * i + 1) = its[i].hi := by
  unfold rngOf
  have e : (2 * i + 1) / 2 = i := by omega
  rw [dif_pos (by omega), if_neg (by omega)]
  simp [e]
theorem rngOf_end {its : List PI} {mid k : Nat} (h : its.length ≤ k / 2) : rngOf its mid k = mid := dif_neg (by omega)
theorem Chain.at : ∀ {L : List PI} {lo hi : Nat} (i : Nat) (h : i < L.length), Chain lo hi L → lo ≤ L[i].lo ∧ L[i].lo ≤ L[i].hi ∧ L[i].hi ≤ hi ∧ ∀ h2 : i + 1 < L.length, L[i].hi ≤ L[i + 1].lo
  | [], _, _, i, h, _ => by simp at h
  | x :: L, lo, hi, 0, h, c => by
    refine ⟨c.1, c.2.1, c.2.2.le, fun h2 => ?_⟩
    cases L with
    | nil => simp at h2
    | cons z L => exact c.2.2.1
  | x :: L, lo, hi, i + 1, h, c => by
    have := Chain.at i (by simpa using h) c.2.2
    have h1 := c.1
    have h2 := c.2.1
    refine ⟨by have := this.1; simp; omega, this.2.1, this.2.2.1, fun h3 => this.2.2.2 (by simpa using h3)⟩
theorem rngOf_mono {its : List PI} {lo mid : Nat} (c : Chain lo mid its) (k : Nat) : rngOf its mid k ≤ rngOf its mid (k + 1) := by
  obtain ⟨i, rfl | rfl⟩ : ∃ i, k = 2 * i ∨ k = 2 * i + 1 := ⟨k / 2, by omega⟩
  · by_cases h : i < its.length
    · rw [rngOf_lo h, rngOf_hi h]; exact (Chain.at i h c).2.1
    · rw [rngOf_end (by omega), rngOf_end (by omega)]; exact Nat.le_refl _
  · by_cases h : i < its.length
    · rw [rngOf_hi h]
      by_cases h2 : i + 1 < its.length
      · rw [show 2 * i + 1 + 1 = 2 * (i + 1) by omega, rngOf_lo h2]; exact (Chain.at i h c).2.2.2 h2
      · rw [rngOf_end (by omega)]; exact (Chain.at i h c).2.2.1
    · rw [rngOf_end (by omega), rngOf_end (by omega)]; exact Nat.le_refl _
/-- what Load gives back owns its memory. -/
theorem TrOk.cown {y w' : World} {v : Value} {its : List PI} {mid : Nat} (h : TrOk y w' v its mid) (hne : its ≠ []) (hl : its.length ≤ 1000000) (hb : ∀ x ∈ its, PrB x.p) :
    ∃ B0 a b, COwn w' v its.length (fun i => pdOf ((its.map (·.p)).getD i ⟨0, 0, 0, false, [], [], [], ByteArray.empty, [], []⟩)) y.heap.size w'.heap.size B0 (rngOf its mid) a b := by
  have hpos : 0 < its.length := List.length_pos_iff.2 hne
  have hf : ∀ i (hi : i < its.length), (fun i => pdOf ((its.map (·.p)).getD i ⟨0, 0, 0, false, [], [], [], ByteArray.empty, [], []⟩)) i = pdOf its[i].p := fun i hi => by
    dsimp only
    rw [getD_of (by simpa using hi)]
    simp
  have hown : ∀ i, ∃ B : Nat → Nat, ∀ hi : i < its.length, OwnProto w' its[i].lo its[i].hi its[i].v3 its[i].v4 its[i].v5 its[i].v8 its[i].v9 (B 3) (B 4) (B 5) (B 8) (B 9) (pdOf its[i].p) := fun i => by
    by_cases hi : i < its.length
    · obtain ⟨B3, B4, B5, B8, B9, ho⟩ := (h.its _ (List.getElem_mem hi)).own (hb _ (List.getElem_mem hi))
      exact ⟨fun k => if k = 3 then B3 else if k = 4 then B4 else if k = 5 then B5 else if k = 8 then B8 else B9, fun _ => ho⟩
    · exact ⟨fun _ => 0, fun h => absurd h hi⟩
  let vv : Nat → Nat → Value := fun k i => match its[i]? with
    | some x => if k = 3 then x.v3 else if k = 4 then x.v4 else if k = 5 then x.v5 else if k = 8 then x.v8 else x.v9
    | none => undef
  obtain ⟨B0, hc, e0⟩ := own_arr (C := pC (fun i => pdOf ((its.map (·.p)).getD i ⟨0, 0, 0, false, [], [], [], ByteArray.empty, [], []⟩)) (vv 3) (vv 4) (vv 5) (vv 8) (vv 9)) h.row (by omega) (fun i hi j hj => by
    rw [flat_get pcs 10 (fun _ => rfl) _ i j hi hj]
    have hfi := hf i hi
    dsimp only at hfi
    have : j = 0 ∨ j = 1 ∨ j = 2 ∨ j = 3 ∨ j = 4 ∨ j = 5 ∨ j = 6 ∨ j = 7 ∨ j = 8 ∨ j = 9 := by omega
    rcases this with rfl | rfl | rfl | rfl | rfl | rfl | rfl | rfl | rfl | rfl <;> simp [pcs, pC, vv, hi, hfi, pdOf])
  have hB := (h.row.lt _ (e0 hpos)).1
  have hcl := h.chain.le
  refine ⟨B0, vv, fun k i => (hown i).choose k, ⟨hc, by omega, ⟨?_, fun i hi => .inr ?_⟩, rngOf_mono h.chain, ?_, fun i hi => ?_⟩⟩
  · rw [show (0 : Nat) = 2 * 0 from rfl, rngOf_lo hpos]; exact (Chain.at 0 hpos h.chain).1
  · rw [rngOf_hi hi]; have := (Chain.at i hi h.chain).2.2.1; omega
  · rw [rngOf_end (by omega)]; exact h.mid
  · have := (hown i).choose_spec hi
    have hfi := hf i hi
    dsimp only at hfi
    rw [hfi, rngOf_lo hi, rngOf_hi hi]
    have e3 : vv 3 i = its[i].v3 := by simp [vv, hi]
    have e4 : vv 4 i = its[i].v4 := by simp [vv, hi]
    have e5 : vv 5 i = its[i].v5 := by simp [vv, hi]
    have e8 : vv 8 i = its[i].v8 := by simp [vv, hi]
    have e9 : vv 9 i = its[i].v9 := by simp [vv, hi]
    rw [e3, e4, e5, e8, e9]
    exact this
end Go.Proofs.YtpobiffihiaakaaGreatDoor

import Derived.Test.YtpobiffihiaakaaGreatDoorLtL
import Derived.Test.YtpobiffihiaakaaGreatDoorSgN
namespace Go.Proofs.YtpobiffihiaakaaGreatDoor
open Go.RowKit
set_option linter.unusedVariables false
set_option linter.unusedSimpArgs false
set_option maxRecDepth 100000
theorem rdSev_all {α : Type} {rd : RS → α × RS} {Q : α → Prop} (h : ∀ r, Q (rd r).1) : ∀ n r acc, (∀ x ∈ acc, Q x) → ∀ x ∈ (rdSev rd n r acc).1, Q x
  | 0, r, acc, ha => ha
  | n + 1, r, acc, ha => by
    unfold rdSev
    split
    · intro x hx; cases hx
    · exact rdSev_all h n _ _ (fun x hx => by
        rcases List.mem_append.1 hx with hx | hx
        · exact ha x hx
        · rw [List.mem_singleton.1 hx]; exact h r)
theorem rdBytes_sz (s : ByteArray) (n : Nat) (r : RS) (hs : s.size ≤ 1048576) : (rdBytes s n r).1.size ≤ 1048576 := by
  unfold rdBytes
  split
  · simp
  · split
    · rw [ByteArray.size_extract]; omega
    · simp
theorem rdText_sz (s : ByteArray) (V : Nat → Option (Int × Nat)) (r : RS) (hs : s.size ≤ 1048576) : (rdText s V r).1.size ≤ 1048576 := rdBytes_sz s _ _ hs
theorem rdVal_sz (s : ByteArray) (V : Nat → Option (Int × Nat)) (G : ByteArray → Int) (r : RS) (hs : s.size ≤ 1048576) : (rdVal s V G r).1.text.size ≤ 1048576 := by
  unfold rdVal
  dsimp only
  split
  · simp
  · split
    · simp
    · split
      · exact rdText_sz s V _ hs
      · simp
/-- the bounds of what a prototype's text says. -/
structure PrT (p : PR) : Prop where
  len : PrB p
  name : p.name.size ≤ 1048576
  consts : ∀ x ∈ p.consts, x.text.size ≤ 1048576
  upNames : ∀ x ∈ p.upNames, x.size ≤ 1048576
theorem sev_len {α : Type} {rd : RS → α × RS} {s : ByteArray} {V : Nat → Option (Int × Nat)} {lo hi : Int} {r r' : RS} (h0 : 0 ≤ lo) (h1 : 0 ≤ hi) (h : hi ≤ 1048576) : (rdSev rd (rdNum s V lo hi r).1.toNat r' []).1.length ≤ 1048576 := by
  have a := rdSev_len (rd := rd) (rdNum s V lo hi r).1.toNat r' []
  have b := rdNum_bd (s := s) (V := V) (lo := lo) (hi := hi) r h0 h1
  simp at a
  omega
theorem cnt_len {α : Type} {rd : RS → α × RS} {s : ByteArray} {V : Nat → Option (Int × Nat)} {all : Nat} {r r' : RS} (h : all ≤ 1048576) : (rdSev rd (rdCnt s V all r).1.toNat r' []).1.length ≤ 1048576 := by
  have a := rdSev_len (rd := rd) (rdCnt s V all r).1.toNat r' []
  have b := rdCnt_bd (s := s) (V := V) (all := (all : Int)) r (by omega)
  simp at a
  omega
theorem rdPro_prt (s : ByteArray) (V : Nat → Option (Int × Nat)) (most : Int) (r : RS) (hs : s.size ≤ 1048576) : PrT (rdPro s V gi0 most r).1 := by
  unfold rdPro
  dsimp only
  refine ⟨⟨sev_len (by decide) (by decide) (by decide), sev_len (by decide) (by decide) (by decide), sev_len (by decide) (by decide) (by decide), ?_, ?_⟩, ?_, rdSev_all (Q := fun (x : VD) => x.text.size ≤ 1048576) (fun r => rdVal_sz s V gi0 r hs) _ _ _ (fun x hx => absurd hx (List.not_mem_nil)), ?_⟩
  · split
    · exact cnt_len (sev_len (by decide) (by decide) (by decide))
    · simp
  · split
    · exact cnt_len (sev_len (by decide) (by decide) (by decide))
    · simp
  · split
    · exact rdText_sz s V _ hs
    · simp [ByteArray.size]
  · split
    · exact rdSev_all (Q := fun (x : ByteArray) => x.size ≤ 1048576) (fun r => rdText_sz s V r hs) _ _ _ (fun x hx => by cases hx)
    · intro x hx; cases hx
theorem rdFor_all {t : RS → Int → List PR × RS × Int} {Q : PR → Prop} (h : ∀ r an, ∀ p ∈ (t r an).1, Q p) : ∀ n r an acc, (∀ l ∈ acc, ∀ p ∈ l, Q p) → ∀ l ∈ (rdFor t n r an acc).1, ∀ p ∈ l, Q p
  | 0, r, an, acc, ha => ha
  | n + 1, r, an, acc, ha => by
    unfold rdFor
    split
    · intro l hl; cases hl
    · exact rdFor_all h n _ _ _ (fun l hl => by
        rcases List.mem_append.1 hl with hl | hl
        · exact ha l hl
        · rw [List.mem_singleton.1 hl]; exact h r an)
theorem rdTree_prt (s : ByteArray) (V : Nat → Option (Int × Nat)) (hs : s.size ≤ 1048576) : ∀ f ab r an, ∀ p ∈ (rdTree s V f ab r an).1, PrT p
  | 0, ab, r, an => fun p hp => by cases hp
  | f + 1, ab, r, an => by
    intro p hp
    unfold rdTree at hp
    dsimp only at hp
    rcases List.mem_cons.1 hp with rfl | hp
    · exact rdPro_prt s V _ r hs
    · obtain ⟨l, hl, hp⟩ := List.mem_flatten.1 hp
      exact rdFor_all (rdTree_prt s V hs f (ab + 1)) _ _ _ _ (fun l hl => by cases hl) l hl p hp
theorem PrT.text {p : PR} (h : PrT p) : TextP (pdOf p) := by
  refine ⟨by have := h.name; show p.name.size ≤ _; omega, fun i hi => ?_, fun i hi => ?_⟩
  · show (p.consts.getD i ⟨0, 0, ByteArray.empty⟩).text.size ≤ _
    rw [getD_of hi]
    have := h.consts _ (List.getElem_mem hi)
    omega
  · show (p.upNames.getD i ByteArray.empty).size ≤ _
    rw [getD_of hi]
    have := h.upNames _ (List.getElem_mem hi)
    omega
open Classical in
/-- what Load gives back, as data. -/
noncomputable def ldS (s : ByteArray) (V : Nat → Option (Int × Nat)) : Sl PD :=
  if rdCode s V = 0 then ⟨(rdTree s V 64 0 (rd0 s) 1).1.length, fun i => pdOf ((rdTree s V 64 0 (rd0 s) 1).1.getD i ⟨0, 0, 0, false, [], [], [], ByteArray.empty, [], []⟩)⟩ else ⟨0, fun _ => pdOf ⟨0, 0, 0, false, [], [], [], ByteArray.empty, [], []⟩⟩
theorem ldS_text (s : ByteArray) (V : Nat → Option (Int × Nat)) (hs : s.size ≤ 1048576) : ∀ i, i < (ldS s V).n → TextP ((ldS s V).f i) := by
  unfold ldS
  split
  · intro i hi
    show TextP (pdOf ((rdTree s V 64 0 (rd0 s) 1).1.getD i _))
    rw [getD_of hi]
    exact (rdTree_prt s V hs _ _ _ _ _ (List.getElem_mem hi)).text
  · intro i hi; exact absurd hi (Nat.not_lt_zero i)
theorem ldS_small (s : ByteArray) (V : Nat → Option (Int × Nat)) (hV : VrOk s V) (hs : s.size ≤ 1048576) : SmallC (ldS s V) := by
  unfold ldS
  split
  · refine ⟨?_, fun i hi => ?_⟩
    · have := rdTree_facts hV 64 0 (rd0 s) 1 (rd0_pos s) (by decide) (by decide)
      show (rdTree s V 64 0 (rd0 s) 1).1.length ≤ 1048576
      omega
    · show SmallP (pdOf ((rdTree s V 64 0 (rd0 s) 1).1.getD i _))
      rw [getD_of hi]
      have := (rdTree_prt s V hs _ _ _ _ _ (List.getElem_mem hi)).len
      exact ⟨this.code, this.consts, this.ups, this.lines, this.upNames⟩
  · exact ⟨Nat.zero_le _, fun i hi => absurd hi (Nat.not_lt_zero i)⟩
/-- what the program's Load gives back is its own. -/
theorem load_post (s : ByteArray) (V : Nat → Option (Int × Nat)) (hV : VrOk s V) (hs : s.size ≤ 1048576) (w : World) (hE : ErrT w) :
    Calls Tryz.prog 5 #[.string s] w fun e w' => (∃ v lo hi, w.heap.size ≤ lo ∧ e = .returned (.tuple #[.agg #[v], .int .i64 (rdCode s V)]) ∧ Mine w' v (ldS s V) lo hi) ∧ Below w.heap.size w w' := by
  refine (implLoad_in s V hV hs w hE).mono fun e w' ⟨hB, hbad, hok⟩ => ⟨?_, hB⟩
  by_cases hc : rdCode s V = 0
  · obtain ⟨v, its, mid, y, hy, he, htr, hps⟩ := hok hc
    have hne : its ≠ [] := fun h0 => by
      rw [h0] at hps
      exact rdTree_ne 63 0 (rd0 s) 1 hps.symm
    have hlen : its.length = (rdTree s V 64 0 (rd0 s) 1).1.length := by rw [← hps, List.length_map]
    have hf := rdTree_facts hV 64 0 (rd0 s) 1 (rd0_pos s) (by decide) (by decide)
    obtain ⟨B0, a, b, hC⟩ := htr.cown hne (by omega) (fun x hx => (rdTree_prt s V hs 64 0 (rd0 s) 1 x.p (by rw [← hps]; exact List.mem_map.2 ⟨x, hx, rfl⟩)).len)
    rw [hps, hlen] at hC
    have hd : ldS s V = ⟨(rdTree s V 64 0 (rd0 s) 1).1.length, fun i => pdOf ((rdTree s V 64 0 (rd0 s) 1).1.getD i ⟨0, 0, 0, false, [], [], [], ByteArray.empty, [], []⟩)⟩ := if_pos hc
    refine ⟨v, y.heap.size, w'.heap.size, hy, by rw [he, hc], ?_⟩
    rw [hd]
    exact ⟨B0, _, a, b, fun h0 => hC.cells.lt h0, hC.B0lo, Nat.le_refl _, hC.B0out.1, hC⟩
  · have hd : ldS s V = ⟨0, fun _ => pdOf ⟨0, 0, 0, false, [], [], [], ByteArray.empty, [], []⟩⟩ := if_neg hc
    refine ⟨.slice none 0 0, w'.heap.size, w'.heap.size, hB.size, hbad hc, ?_⟩
    rw [hd]
    exact ⟨w'.heap.size, _, _, _, fun h0 => absurd h0 (Nat.lt_irrefl 0), Nat.le_refl _, Nat.le_refl _, Nat.le_refl _, COwn.nil w' _ w'.heap.size⟩
end Go.Proofs.YtpobiffihiaakaaGreatDoor

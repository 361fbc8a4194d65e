import Derived.Test.YtpobiffihiaakaaGreatDoorLtF
namespace Go.Proofs.YtpobiffihiaakaaGreatDoor
open Go.RowKit
set_option linter.unusedVariables false
set_option linter.unusedSimpArgs false
set_option maxRecDepth 100000
set_option maxHeartbeats 2000000
/-- a tree: a prototype and the trees of its children. -/
noncomputable def rdTree (s : ByteArray) (V : Nat → Option (Int × Nat)) : Nat → Int → RS → Int → List PR × RS × Int
  | 0, _, r, an => ([], r, an)
  | f + 1, ab, r, an =>
    let p := rdPro s V gi0 (if ab = 63 then 0 else 200 - an) r
    let k := rdFor (rdTree s V f (ab + 1)) p.1.kids.toNat p.2 (an + p.1.kids) []
    (p.1 :: k.1.flatten, k.2)
theorem rdPro_facts {s : ByteArray} {V : Nat → Option (Int × Nat)} (hV : VrOk s V) {G : ByteArray → Int} {most : Int} (hm : 0 ≤ most) {r : RS} (hp : r.pos ≤ s.size) : (rdPro s V G most r).2.pos ≤ s.size ∧ 0 ≤ (rdPro s V G most r).1.kids ∧ (rdPro s V G most r).1.kids ≤ most := by
  have k := fun r0 => rdNum_bd (s := s) (V := V) (lo := 0) (hi := most) r0 (by decide) hm
  have w1 := fun r0 h => rdSev_pos (rd := rdWord s) (m := s.size) (fun r hq => rdWord_pos hq) h r0 []
  have w2 := fun r0 h => rdSev_pos (rd := rdVal s V G) (m := s.size) (fun r hq => rdVal_pos hV hq) h r0 []
  have w3 := fun r0 h => rdSev_pos (rd := rdUp s V) (m := s.size) (fun r hq => rdUp_pos hV hq) h r0 []
  unfold rdPro
  dsimp only
  refine ⟨?_, k _⟩
  have q : ∀ g : Nat × RS, g.2.pos ≤ s.size → ∀ a b : Nat, (if g.1 = 1 then rdDbg s V a b g.2 else ((⟨#[]⟩, [], []), g.2)).2.pos ≤ s.size := by
    intro g hg a b
    split
    · unfold rdDbg
      dsimp only
      have z := rdSev_pos (rd := rdText s V) (m := s.size) (fun r hq => rdText_pos hV hq) (rdCnt s V b (rdSev (rdAny s V) (rdCnt s V a (rdText s V g.2).2).1.toNat (rdCnt s V a (rdText s V g.2).2).2 []).2).1.toNat _ [] (rdCnt_pos (all := (b : Int)) hV (rdSev_pos (rd := rdAny s V) (m := s.size) (fun r hq => rdAny_pos hV hq) (rdCnt s V a (rdText s V g.2).2).1.toNat _ [] (rdCnt_pos (all := (a : Int)) hV (rdText_pos hV hg))))
      split
      · unfold RS.fail
        split <;> exact z
      · exact z
    · exact hg
  exact q _ (rdByte_pos (rdNum_pos hV (w3 _ _ (rdNum_pos hV (w2 _ _ (rdNum_pos hV (w1 _ _ (rdNum_pos hV (rdNum_pos hV (rdNum_pos hV (rdByte_pos hp)))))))))) ) _ _
theorem rdFor_facts {t : RS → Int → List PR × RS × Int} {m : Nat} (ht : ∀ r an, r.pos ≤ m → 0 ≤ an → an ≤ 200 → (t r an).2.1.pos ≤ m ∧ (an ≤ (t r an).2.2 ∧ (t r an).2.2 ≤ 200) ∧ ((t r an).1.length : Int) ≤ 1 + ((t r an).2.2 - an)) :
    ∀ n r an acc, r.pos ≤ m → 0 ≤ an → an ≤ 200 → (rdFor t n r an acc).2.1.pos ≤ m ∧ (an ≤ (rdFor t n r an acc).2.2 ∧ (rdFor t n r an acc).2.2 ≤ 200) ∧ ((rdFor t n r an acc).1.flatten.length : Int) ≤ acc.flatten.length + n + ((rdFor t n r an acc).2.2 - an)
  | 0, r, an, acc, hr, h0, h1 => by
    unfold rdFor
    dsimp only
    omega
  | n + 1, r, an, acc, hr, h0, h1 => by
    have h := ht r an hr h0 h1
    unfold rdFor
    split
    · dsimp only
      simp only [List.flatten_nil, List.length_nil]
      omega
    · have k := rdFor_facts ht n (t r an).2.1 (t r an).2.2 (acc ++ [(t r an).1]) h.1 (by omega) h.2.1.2
      rw [List.flatten_append, List.length_append] at k
      simp only [List.flatten_cons, List.flatten_nil, List.append_nil] at k
      omega
theorem rdTree_facts {s : ByteArray} {V : Nat → Option (Int × Nat)} (hV : VrOk s V) : ∀ f ab r an, r.pos ≤ s.size → 0 ≤ an → an ≤ 200 →
    (rdTree s V f ab r an).2.1.pos ≤ s.size ∧ (an ≤ (rdTree s V f ab r an).2.2 ∧ (rdTree s V f ab r an).2.2 ≤ 200) ∧ ((rdTree s V f ab r an).1.length : Int) ≤ 1 + ((rdTree s V f ab r an).2.2 - an)
  | 0, ab, r, an, hr, h0, h1 => by
    unfold rdTree
    simp only [List.length_nil]
    omega
  | f + 1, ab, r, an, hr, h0, h1 => by
    have hm : 0 ≤ (if ab = 63 then 0 else 200 - an) ∧ (if ab = 63 then 0 else 200 - an) ≤ 200 - an := by split <;> omega
    have p := rdPro_facts hV (G := gi0) hm.1 hr
    unfold rdTree
    dsimp only
    generalize rdPro s V gi0 (if ab = 63 then 0 else 200 - an) r = P at p ⊢
    have k := rdFor_facts (rdTree_facts hV f (ab + 1)) P.1.kids.toNat P.2 (an + P.1.kids) [] p.1 (by omega) (by omega)
    simp only [List.flatten_nil, List.length_nil] at k
    rw [List.length_cons]
    omega
theorem rdTree_ne {s : ByteArray} {V : Nat → Option (Int × Nat)} (f : Nat) (ab : Int) (r : RS) (an : Int) : (rdTree s V (f + 1) ab r an).1 ≠ [] := by
  unfold rdTree
  simp
theorem rdFor_ne {t : RS → Int → List PR × RS × Int} (ht : ∀ r an, (t r an).1 ≠ []) : ∀ n r an acc, (∀ l ∈ acc, l ≠ []) → ∀ l ∈ (rdFor t n r an acc).1, l ≠ []
  | 0, r, an, acc, h => h
  | n + 1, r, an, acc, h => by
    unfold rdFor
    split
    · intro l hl; cases hl
    · exact rdFor_ne ht n _ _ _ (fun l hl => by
        rcases List.mem_append.1 hl with hl | hl
        · exact h l hl
        · rw [List.mem_singleton.1 hl]; exact ht r an)
end Go.Proofs.YtpobiffihiaakaaGreatDoor

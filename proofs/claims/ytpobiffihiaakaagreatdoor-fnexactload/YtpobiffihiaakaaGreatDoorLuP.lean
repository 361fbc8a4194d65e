import Derived.Test.YtpobiffihiaakaaGreatDoorLtJ
namespace Go.Proofs.YtpobiffihiaakaaGreatDoor
open Go.RowKit
set_option linter.unusedVariables false
set_option linter.unusedSimpArgs false
/-- one off the number of children left; where that was the last one, one off the number before. The last number stands first. -/
def upL : List Nat → List Nat
  | [] => []
  | n :: L => if 1 < n then (n - 1) :: L else upL L
/-- where the model's loop stands. -/
structure LS where
  r : RS
  c : List PR
  L : List Nat
  an : Int
section
variable (s : ByteArray) (V : Nat → Option (Int × Nat))
/-- the prototype that is read next. -/
noncomputable def nxt (x : LS) : PR × RS := rdPro s V gi0 (if (x.L.length : Int) = 63 then 0 else 200 - x.an) x.r
/-- one round of the model's loop. -/
noncomputable def stp (x : LS) : LS :=
  ⟨(nxt s V x).2, x.c ++ [(nxt s V x).1], if 0 < (nxt s V x).1.kids then (nxt s V x).1.kids.toNat :: x.L else upL x.L, x.an + (nxt s V x).1.kids⟩
/-- rounds of which none meets a fault. -/
inductive Rnds : LS → LS → Nat → Prop
  | here (x : LS) : Rnds x x 0
  | on {x y : LS} {n : Nat} : (x.c.length : Int) < x.an → (nxt s V x).2.bad = 0 → Rnds (stp s V x) y n → Rnds x y (n + 1)
variable {s V}
theorem Rnds.trans {x y z : LS} {m n : Nat} (h : Rnds s V x y m) (k : Rnds s V y z n) : Rnds s V x z (m + n) := by
  induction h with
  | here x => rw [Nat.zero_add]; exact k
  | on hl hb _ ih => rw [Nat.succ_add]; exact .on hl hb (ih k)
/-- a fault is met. -/
def Fails (x : LS) (c : Int) : Prop := ∃ y n, Rnds s V x y n ∧ (y.c.length : Int) < y.an ∧ (nxt s V y).2.bad = c ∧ c ≠ 0
theorem Rnds.fails {x y : LS} {n : Nat} {c : Int} (h : Rnds s V x y n) (k : Fails (s := s) (V := V) y c) : Fails (s := s) (V := V) x c := by
  obtain ⟨z, m, hz, hc⟩ := k
  exact ⟨z, n + m, h.trans hz, hc⟩
theorem rdFor_ext {t : RS → Int → List PR × RS × Int} : ∀ n r an acc, (rdFor t n r an acc).2.1.bad = 0 → ∃ M, (rdFor t n r an acc).1 = acc ++ M
  | 0, r, an, acc, h => ⟨[], by simp [rdFor]⟩
  | n + 1, r, an, acc, h => by
    by_cases hb : (t r an).2.1.bad = 0
    · rw [rdFor_ok hb] at h ⊢
      obtain ⟨M, hM⟩ := rdFor_ext n _ _ _ h
      exact ⟨(t r an).1 :: M, by rw [hM]; simp⟩
    · rw [rdFor_bad hb] at h
      exact absurd h hb
/-- what holds of a tree. -/
def TreeRuns (t : RS → Int → List PR × RS × Int) (ab : Nat) : Prop := ∀ r an c L, L.length = ab → (c.length : Int) < an → r.bad = 0 → 0 ≤ an → an ≤ 200 → r.pos ≤ s.size →
  ((t r an).2.1.bad = 0 → Rnds s V ⟨r, c, L, an⟩ ⟨(t r an).2.1, c ++ (t r an).1, upL L, (t r an).2.2⟩ (t r an).1.length) ∧
  ((t r an).2.1.bad ≠ 0 → Fails (s := s) (V := V) ⟨r, c, L, an⟩ (t r an).2.1.bad)
theorem for_runs {t : RS → Int → List PR × RS × Int} {ab : Nat} (ht : TreeRuns (s := s) (V := V) t (ab + 1))
    (hf : ∀ r an, r.pos ≤ s.size → 0 ≤ an → an ≤ 200 → (t r an).2.1.pos ≤ s.size ∧ (an ≤ (t r an).2.2 ∧ (t r an).2.2 ≤ 200) ∧ ((t r an).1.length : Int) ≤ 1 + ((t r an).2.2 - an)) :
    ∀ n r an c L acc, L.length = ab → (c.length : Int) + (n + 1 : Nat) ≤ an → r.bad = 0 → 0 ≤ an → an ≤ 200 → r.pos ≤ s.size →
    ((rdFor t (n + 1) r an acc).2.1.bad = 0 → Rnds s V ⟨r, c, (n + 1) :: L, an⟩ ⟨(rdFor t (n + 1) r an acc).2.1, c ++ ((rdFor t (n + 1) r an acc).1.drop acc.length).flatten, upL L, (rdFor t (n + 1) r an acc).2.2⟩ ((rdFor t (n + 1) r an acc).1.drop acc.length).flatten.length) ∧
    ((rdFor t (n + 1) r an acc).2.1.bad ≠ 0 → Fails (s := s) (V := V) ⟨r, c, (n + 1) :: L, an⟩ (rdFor t (n + 1) r an acc).2.1.bad)
  | n, r, an, c, L, acc, hL, hcl, hr, h0, h1, hp => by
    have hT := ht r an c ((n + 1) :: L) (by simp [hL]) (by omega) hr h0 h1 hp
    have hF := hf r an hp h0 h1
    by_cases hb : (t r an).2.1.bad = 0
    · rw [rdFor_ok hb]
      have g := hT.1 hb
      cases n with
      | zero =>
        have e : upL ((0 + 1) :: L) = upL L := by simp [upL]
        rw [e] at g
        refine ⟨fun _ => ?_, fun h => absurd hb h⟩
        show Rnds s V _ ⟨(t r an).2.1, c ++ ((acc ++ [(t r an).1]).drop acc.length).flatten, upL L, (t r an).2.2⟩ ((acc ++ [(t r an).1]).drop acc.length).flatten.length
        rw [List.drop_left]
        simpa using g
      | succ n =>
        have e : upL ((n + 1 + 1) :: L) = (n + 1) :: L := by simp [upL]
        rw [e] at g
        have k := for_runs ht hf n (t r an).2.1 (t r an).2.2 (c ++ (t r an).1) L (acc ++ [(t r an).1]) hL (by rw [List.length_append]; have := hF.2.2; omega) hb (by omega) hF.2.1.2 hF.1
        refine ⟨fun h => ?_, fun h => g.fails (k.2 h)⟩
        have k1 := k.1 h
        obtain ⟨M, hM⟩ : ∃ M, (rdFor t (n + 1) (t r an).2.1 (t r an).2.2 (acc ++ [(t r an).1])).1 = acc ++ [(t r an).1] ++ M := rdFor_ext (n + 1) _ _ _ h
        rw [hM] at k1 ⊢
        rw [List.drop_left] at k1
        rw [List.append_assoc, List.drop_left]
        have g2 := g.trans k1
        simpa [List.append_assoc, Nat.add_comm] using g2
    · rw [rdFor_bad hb]
      exact ⟨fun h => absurd h hb, fun _ => hT.2 hb⟩
theorem rdFor_b {f n : Nat} {ab an : Int} {r : RS} (h : r.bad ≠ 0) (hf : 0 < n → 0 < f) : (rdFor (rdTree s V f ab) n r an []).2.1 = r := by
  cases n with
  | zero => rfl
  | succ n =>
    obtain ⟨f', rfl⟩ : ∃ f', f = f' + 1 := ⟨f - 1, by have := hf (by omega); omega⟩
    have e : (rdTree s V (f' + 1) ab r an).2.1 = r := rdTree_b h
    rw [rdFor_bad (by rw [e]; exact h)]
    exact e
/-- a tree is read round by round. -/
theorem tree_runs (hV : VrOk s V) : ∀ (f ab : Nat), ab + f = 63 → TreeRuns (s := s) (V := V) (rdTree s V (f + 1) (ab : Int)) ab
  | f, ab, hab => by
    intro r an c L hL hcl hr h0 h1 hp
    obtain ⟨most, hm⟩ : ∃ m : Int, m = (if (ab : Int) = 63 then 0 else 200 - an) := ⟨_, rfl⟩
    have hm0 : 0 ≤ most ∧ most ≤ 200 - an ∧ ((ab : Int) = 63 → most = 0) := by rw [hm]; split <;> omega
    have hpf := rdPro_facts hV (G := gi0) hm0.1 hp
    have hn : nxt s V ⟨r, c, L, an⟩ = rdPro s V gi0 most r := by unfold nxt; dsimp only; rw [hL, hm]
    have htree : rdTree s V (f + 1) (ab : Int) r an = ((rdPro s V gi0 most r).1 :: (rdFor (rdTree s V f ((ab : Int) + 1)) (rdPro s V gi0 most r).1.kids.toNat (rdPro s V gi0 most r).2 (an + (rdPro s V gi0 most r).1.kids) []).1.flatten, (rdFor (rdTree s V f ((ab : Int) + 1)) (rdPro s V gi0 most r).1.kids.toNat (rdPro s V gi0 most r).2 (an + (rdPro s V gi0 most r).1.kids) []).2) := by
      rw [hm]; rfl
    rw [htree]
    dsimp only
    obtain ⟨x, hx⟩ : ∃ x, rdPro s V gi0 most r = x := ⟨_, rfl⟩
    rw [hx] at hpf hn ⊢
    obtain ⟨p, r1⟩ := x
    dsimp only at hpf ⊢
    by_cases hb : r1.bad = 0
    · have hst : stp s V ⟨r, c, L, an⟩ = ⟨r1, c ++ [p], if 0 < p.kids then p.kids.toNat :: L else upL L, an + p.kids⟩ := by unfold stp; rw [hn]
      have g : ∀ {y : LS} {n : Nat}, Rnds s V ⟨r1, c ++ [p], if 0 < p.kids then p.kids.toNat :: L else upL L, an + p.kids⟩ y n → Rnds s V ⟨r, c, L, an⟩ y (n + 1) := fun h => .on hcl (by rw [hn]; exact hb) (by rw [hst]; exact h)
      by_cases hk : 0 < p.kids
      · rw [if_pos hk] at g
        obtain ⟨n, hkn⟩ : ∃ n : Nat, p.kids.toNat = n + 1 := ⟨p.kids.toNat - 1, by omega⟩
        obtain ⟨f', rfl⟩ : ∃ f', f = f' + 1 := ⟨f - 1, by omega⟩
        have ih := tree_runs hV f' (ab + 1) (by omega)
        rw [show ((ab + 1 : Nat) : Int) = (ab : Int) + 1 by omega] at ih
        have k := for_runs (ab := ab) ih (fun r an a b d => rdTree_facts hV (f' + 1) ((ab : Int) + 1) r an a b d) n r1 (an + p.kids) (c ++ [p]) L [] hL (by rw [List.length_append, List.length_singleton]; omega) hb (by omega) (by omega) hpf.1
        rw [hkn] at g ⊢
        refine ⟨fun h => ?_, fun h => ?_⟩
        · have := g (k.1 h)
          simpa [List.append_assoc] using this
        · obtain ⟨y, m, hy, hc⟩ := k.2 h
          exact ⟨y, m + 1, g hy, hc⟩
      · rw [if_neg hk] at g
        have e : p.kids.toNat = 0 := by omega
        have e2 : p.kids = 0 := by omega
        rw [e, e2]
        rw [e2] at g
        refine ⟨fun _ => ?_, fun h => absurd hb h⟩
        have := g (.here _)
        simpa [rdFor] using this
    · have e : (rdFor (rdTree s V f ((ab : Int) + 1)) p.kids.toNat r1 (an + p.kids) []).2.1 = r1 := rdFor_b hb (by omega)
      rw [e]
      exact ⟨fun h => absurd h hb, fun _ => ⟨_, 0, .here _, hcl, by rw [hn], hb⟩⟩
  termination_by f => f
theorem rdFor_count {t : RS → Int → List PR × RS × Int} (ht : ∀ r an, (t r an).2.1.bad = 0 → ((t r an).1.length : Int) = 1 + ((t r an).2.2 - an)) :
    ∀ n r an acc, (rdFor t n r an acc).2.1.bad = 0 → ((rdFor t n r an acc).1.flatten.length : Int) = acc.flatten.length + n + ((rdFor t n r an acc).2.2 - an)
  | 0, r, an, acc, h => by simp [rdFor]
  | n + 1, r, an, acc, h => by
    by_cases hb : (t r an).2.1.bad = 0
    · rw [rdFor_ok hb] at h ⊢
      rw [rdFor_count ht n _ _ _ h, List.flatten_append, List.length_append]
      have := ht r an hb
      simp only [List.flatten_cons, List.flatten_nil, List.append_nil]
      omega
    · rw [rdFor_bad hb] at h
      exact absurd h hb
theorem rdNum_0 (hi : Int) (r : RS) : 0 ≤ (rdNum s V 0 hi r).1 ∧ ((rdNum s V 0 hi r).1 ≤ hi ∨ (rdNum s V 0 hi r).1 = 0) := by
  unfold rdNum
  dsimp only
  split
  · exact ⟨Int.le_refl _, .inr rfl⟩
  · split
    · exact ⟨Int.le_refl _, .inr rfl⟩
    · omega
theorem rdPro_kids (most : Int) (r : RS) : 0 ≤ (rdPro s V gi0 most r).1.kids ∧ ((rdPro s V gi0 most r).1.kids ≤ most ∨ (rdPro s V gi0 most r).1.kids = 0) := by
  unfold rdPro
  exact rdNum_0 most _
/-- as many prototypes are read as have been announced. -/
theorem rdTree_count : ∀ (f ab : Nat), ab + f = 63 → ∀ r an, (rdTree s V (f + 1) (ab : Int) r an).2.1.bad = 0 → ((rdTree s V (f + 1) (ab : Int) r an).1.length : Int) = 1 + ((rdTree s V (f + 1) (ab : Int) r an).2.2 - an)
  | f, ab, hab, r, an => by
    intro h
    obtain ⟨most, hm⟩ : ∃ m : Int, m = (if (ab : Int) = 63 then 0 else 200 - an) := ⟨_, rfl⟩
    have htree : rdTree s V (f + 1) (ab : Int) r an = ((rdPro s V gi0 most r).1 :: (rdFor (rdTree s V f ((ab : Int) + 1)) (rdPro s V gi0 most r).1.kids.toNat (rdPro s V gi0 most r).2 (an + (rdPro s V gi0 most r).1.kids) []).1.flatten, (rdFor (rdTree s V f ((ab : Int) + 1)) (rdPro s V gi0 most r).1.kids.toNat (rdPro s V gi0 most r).2 (an + (rdPro s V gi0 most r).1.kids) []).2) := by
      rw [hm]; rfl
    rw [htree] at h ⊢
    dsimp only at h ⊢
    have hk := rdPro_kids (s := s) (V := V) most r
    generalize rdPro s V gi0 most r = P at h hk ⊢
    rw [List.length_cons]
    cases f with
    | zero =>
      have h63 : (ab : Int) = 63 := by omega
      rw [if_pos h63] at hm
      have e : P.1.kids = 0 := by omega
      rw [e]
      simp [rdFor]
    | succ f =>
      have ih := rdTree_count f (ab + 1) (by omega)
      rw [show ((ab + 1 : Nat) : Int) = (ab : Int) + 1 by omega] at ih
      have := rdFor_count ih P.1.kids.toNat P.2 (an + P.1.kids) [] h
      simp only [List.flatten_nil, List.length_nil] at this
      omega
  termination_by f => f
end
end Go.Proofs.YtpobiffihiaakaaGreatDoor

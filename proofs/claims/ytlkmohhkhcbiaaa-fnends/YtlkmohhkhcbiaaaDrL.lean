import Derived.Test.YtlkmohhkhcbiaaaDrK1
import Derived.Test.YtlkmohhkhcbiaaaDrK2
import Derived.Test.YtlkmohhkhcbiaaaDrK3
import Derived.Test.YtlkmohhkhcbiaaaDrI0
import Derived.Test.YtlkmohhkhcbiaaaDrI1
import Derived.Test.YtlkmohhkhcbiaaaDrI2
import Derived.Test.YtlkmohhkhcbiaaaDrQ
namespace Go.Proofs.Ytlkmohhkhcbiaaa
open Go.RowKit Go.Shelf
set_option linter.unusedVariables false
set_option linter.unusedSimpArgs false
/-- whatever debug texts are drawn. -/
theorem l4Kids_in (c : Sl Int) (level : Int) (hl1 : 0 ≤ level) (hl2 : level ≤ 2) (p : Nat) (hp : p ≤ 100000) (T : Nat → Int → List PD × Nat) (kids : Nat) (hk3 : kids ≤ 3) (hT : 0 < kids → ∀ p' ups, p' ≤ p + 10000 → 0 ≤ ups → ups ≤ 2 → TreeA c (level + 1) p' ups (T p' ups))
    (pa : Int) (va : Bool) (LC : List Int) (KD : List VD) (U : List UD) (hLC : LC.length ≤ 1000) (hUl : U.length ≤ 10) (hKD : KD.length ≤ 1000)
    (lo : Nat) (w : World) (ao : Option Addr) (cap : Nat) (hC : IsCode w (.slice ao c.n cap) c) (vc vk vu : Value) (hin : KIn lo w vc vk vu LC KD U) (hlo : lo ≤ w.heap.size) :
    Calls Try.prog 27 #[.slice ao c.n cap, .int .i64 p, .int .i64 level, .agg #[.int .i64 pa, .bool va, .int .i64 12, vc, vk, vu, .int .i64 (kids : Int), .string ⟨#[]⟩, .slice none 0 0, .slice none 0 0]] w fun e w' => ∃ u, e = .returned (.tuple #[u, .int .i64 ((kSeq c T (qD pa va kids LC KD U (tk c p 8)) U.length (p + 1) kids).2 : Nat)]) ∧ Below w.heap.size w w' ∧ ∃ x0 L, TreeS lo w' u x0 U L ∧ (x0 :: L).map PV.p = (kSeq c T (qD pa va kids LC KD U (tk c p 8)) U.length (p + 1) kids).1 := by
  by_cases h3 : 3 ≤ tk c p 8
  · exact l4Kids_3 c level hl1 hl2 p hp T kids hk3 hT pa va LC KD U hLC hUl hKD lo w ao cap hC vc vk vu hin hlo _ rfl h3
  · by_cases h2 : tk c p 8 = 2
    · exact l4Kids_2 c level hl1 hl2 p hp T kids hk3 hT pa va LC KD U hLC hUl hKD lo w ao cap hC vc vk vu hin hlo _ rfl h2
    · exact l4Kids_1 c level hl1 hl2 p hp T kids hk3 hT pa va LC KD U hLC hUl hKD lo w ao cap hC vc vk vu hin hlo _ rfl (by omega)
/-- how many children a level draws. -/
def kidsOf' (c : Sl Int) (level : Nat) (p : Nat) : Nat := if level = 0 then (tk c p 3).toNat + 1 else if level = 1 then (tk c p 3).toNat else 0
/-- the tree that is drawn, by the trees of the level below. -/
def treeOf (c : Sl Int) (level : Nat) (T : Nat → Int → List PD × Nat) (M : Nat → List Int) (p : Nat) (ups : Int) : List PD × Nat :=
  kSeq c T (qD (tk c (p + 1) 12 % 4) (decide (tk c (p + 2) 6 < 3)) (kidsOf' c level p) (codeL c p M) (kdL c p) (upL c p ups.toNat) (tk c (p + 4 + 4 * cnt c + ups.toNat) 8)) ups.toNat (p + 4 + 4 * cnt c + ups.toNat + 1) (kidsOf' c level p)
theorem blkCat_len (M : Nat → List Int) (hM : ∀ k, k ≤ 7 → (M k).length ≤ 60) : ∀ n, n ≤ 7 → (blkCat M n).length ≤ 60 * n := by
  intro n
  induction n with
  | zero => intro _; simp [blkCat]
  | succ n ih =>
    intro h
    have h1 := ih (by omega)
    have h2 := hM n (by omega)
    rw [blkCat, List.length_append]
    omega
theorem codeL_len (c : Sl Int) (p : Nat) (M : Nat → List Int) (hM : ∀ k, k ≤ 7 → (M k).length ≤ 60) : (codeL c p M).length ≤ 1000 := by
  have h1 := blkCat_len M hM (cnt c) (cnt_le c)
  have h2 := cnt_le c
  unfold codeL
  simp only [List.length_append, ldL_len]
  have h3 : (endL (tk c (p + 3 + 4 * cnt c) 6) (tk c (p + 2) 6)).length ≤ 2 := by unfold endL; split <;> simp
  simp
  omega
/-- the words of the blocks, if there are such. -/
theorem blocks_ex (c : Sl Int) (p : Nat) (kids ups : Int) (va inn : Bool) (k1 : 0 ≤ kids) (k2 : kids ≤ 3) (u1 : 0 ≤ ups) (u2 : ups ≤ 3) (hp : p ≤ 40000) : ∃ M : Nat → List Int, ∀ k, k ≤ 7 → (M k).length ≤ 60 ∧ U32 (M k) ∧ ∀ w v, IsCode w v c → Calls Try.prog 26 #[v, .int .i64 (p + 3 + 4 * k : Nat), .int .i64 kids, .int .i64 ups, .bool va, .bool inn] w fun e w' => ∃ u q, e = .returned (.tuple #[u, .int .i64 q]) ∧ q = ((p + 3 + 4 * k : Nat) : Int) + 4 ∧ WS w w' u (M k) := by
  have h : ∀ k : Nat, ∃ N : List Int, k ≤ 7 → N.length ≤ 60 ∧ U32 N ∧ ∀ w v, IsCode w v c → Calls Try.prog 26 #[v, .int .i64 (p + 3 + 4 * k : Nat), .int .i64 kids, .int .i64 ups, .bool va, .bool inn] w fun e w' => ∃ u q, e = .returned (.tuple #[u, .int .i64 q]) ∧ q = ((p + 3 + 4 * k : Nat) : Int) + 4 ∧ WS w w' u N := fun k => by
    by_cases hk : k ≤ 7
    · obtain ⟨N, h1⟩ := l4Block_in c (p + 3 + 4 * k) kids ups va inn k1 k2 u1 u2 (by omega)
      exact ⟨N, fun _ => h1⟩
    · exact ⟨[], fun h => absurd h hk⟩
  exact ⟨fun k => Classical.choose (h k), fun k => Classical.choose_spec (h k)⟩
/-- what is drawn lies so far on, and is so long. -/
theorem kSeq_bd' (c : Sl Int) (T : Nat → Int → List PD × Nat) (q : PD) (nu p b l : Nat) (hb : b ≤ 2000) (kids : Nat) (hk : kids ≤ 3) (hT : 0 < kids → ∀ p' ups, p' ≤ p + 10000 → 0 ≤ ups → ups ≤ 2 → (T p' ups).2 ≤ p' + b ∧ (T p' ups).1.length ≤ l) : ∀ i, i ≤ kids → (kSeq c T q nu (p + 1) i).2 ≤ p + 1 + (1 + b) * i ∧ (kSeq c T q nu (p + 1) i).1.length ≤ 1 + l * i := by
  intro i
  induction i with
  | zero => intro _; simp [kSeq]
  | succ i ih =>
    intro hi
    obtain ⟨h1, h2⟩ := ih (by omega)
    have h1' : (1 + b) * i ≤ 2001 * 3 := Nat.mul_le_mul (by omega) (by omega)
    have bt := tk_bd c (kSeq c T q nu (p + 1) i).2 3
    obtain ⟨t1, t2⟩ := hT (by omega) ((kSeq c T q nu (p + 1) i).2 + 1) (tk c (kSeq c T q nu (p + 1) i).2 3) (by omega) bt.1 (by have := bt.2 (by omega); omega)
    rw [kSeq]
    refine ⟨Nat.le_trans t1 (by rw [Nat.mul_succ]; omega), ?_⟩
    have hfl : ∀ (S : List PD) (n : Int), (fixU S n).length = S.length := fun S n => by cases S <;> rfl
    show List.length (_ ++ _) ≤ _
    rw [List.length_append, Nat.mul_succ]
    split
    · rw [hfl]; omega
    · omega
theorem kSeq_pos (c : Sl Int) (T : Nat → Int → List PD × Nat) (q : PD) (nu p : Nat) : ∀ i, 0 < (kSeq c T q nu p i).1.length := by
  intro i
  induction i with
  | zero => simp [kSeq]
  | succ i ih =>
    rw [kSeq]
    show 0 < List.length (_ ++ _)
    rw [List.length_append]
    omega
/-- what holds of all prototypes that are drawn. -/
theorem kSeq_all (R : PD → Prop) (hfix : ∀ (x : PD) n, R x → R { x with ups := slSet x.ups 0 ⟨false, n⟩ }) (c : Sl Int) (T : Nat → Int → List PD × Nat) (q : PD) (nu p b l : Nat) (hb : b ≤ 2000) (kids : Nat) (hk : kids ≤ 3) (hT : 0 < kids → ∀ p' ups, p' ≤ p + 10000 → 0 ≤ ups → ups ≤ 2 → (T p' ups).2 ≤ p' + b ∧ (T p' ups).1.length ≤ l) (hq : R q)
    (hTR : 0 < kids → ∀ p' ups, p' ≤ p + 10000 → 0 ≤ ups → ups ≤ 2 → ∀ x ∈ (T p' ups).1, R x) : ∀ i, i ≤ kids → ∀ x ∈ (kSeq c T q nu (p + 1) i).1, R x := by
  intro i
  induction i with
  | zero => intro _ x hx; simp [kSeq] at hx; subst hx; exact hq
  | succ i ih =>
    intro hi x hx
    have h1 := (kSeq_bd' c T q nu p b l hb kids hk hT i (by omega)).1
    have h1' : (1 + b) * i ≤ 2001 * 3 := Nat.mul_le_mul (by omega) (by omega)
    have bt := tk_bd c (kSeq c T q nu (p + 1) i).2 3
    have hR := hTR (by omega) ((kSeq c T q nu (p + 1) i).2 + 1) (tk c (kSeq c T q nu (p + 1) i).2 3) (by omega) bt.1 (by have := bt.2 (by omega); omega)
    rw [kSeq] at hx
    rcases List.mem_append.1 hx with h | h
    · exact ih (by omega) x h
    · split at h
      · revert h hR
        generalize (T ((kSeq c T q nu (p + 1) i).2 + 1) (tk c (kSeq c T q nu (p + 1) i).2 3)).1 = S
        intro hR h
        cases S with
        | nil => simp [fixU] at h
        | cons z zs =>
          simp only [fixU, List.mem_cons] at h
          rcases h with rfl | h
          · exact hfix _ _ (hR z (by simp))
          · exact hR x (by simp [h])
      · exact hR x h
theorem qD_sm (c : Sl Int) (p : Nat) (M : Nat → List Int) (hc : (codeL c p M).length ≤ 1000) (pa : Int) (va : Bool) (kids : Int) (n : Nat) (hn : n ≤ 10) (a : Int) : Sm (qD pa va kids (codeL c p M) (kdL c p) (upL c p n) a) := by
  refine ⟨?_, hc, by show 6 ≤ 1000; omega, by show (upL c p n).length ≤ 1000; rw [upL_len]; omega, ?_, ?_⟩
  · show 0 < (codeL c p M).length
    unfold codeL
    simp only [List.length_append]
    simp
    omega
  · show (if a = 2 then slOf ((List.range (codeL c p M).length).map fun (i : Nat) => (i : Int) * 37) else slOf []).n ≤ 1000
    split
    · simpa [slOf] using hc
    · show 0 ≤ 1000; omega
  · show (if a = 2 then slOf (List.replicate (upL c p n).length (⟨#[117]⟩ : ByteArray)) else slOf []).n ≤ 1000
    split
    · simp [slOf, upL_len]; omega
    · show 0 ≤ 1000; omega
/-- the same, the number of children an integer. -/
theorem l4Kids_at (c : Sl Int) (level : Int) (hl1 : 0 ≤ level) (hl2 : level ≤ 2) (p : Nat) (hp : p ≤ 100000) (T : Nat → Int → List PD × Nat) (kids : Nat) (hk3 : kids ≤ 3) (hT : 0 < kids → ∀ p' ups, p' ≤ p + 10000 → 0 ≤ ups → ups ≤ 2 → TreeA c (level + 1) p' ups (T p' ups))
    (pa : Int) (va : Bool) (LC : List Int) (KD : List VD) (U : List UD) (hLC : LC.length ≤ 1000) (hUl : U.length ≤ 10) (hKD : KD.length ≤ 1000)
    (lo : Nat) (w : World) (ao : Option Addr) (cap : Nat) (hC : IsCode w (.slice ao c.n cap) c) (vc vk vu : Value) (hin : KIn lo w vc vk vu LC KD U) (hlo : lo ≤ w.heap.size) (kI : Int) (hkI : kI = (kids : Int)) (nu : Nat) (hnu : U.length = nu) :
    Calls Try.prog 27 #[.slice ao c.n cap, .int .i64 p, .int .i64 level, .agg #[.int .i64 pa, .bool va, .int .i64 12, vc, vk, vu, .int .i64 kI, .string ⟨#[]⟩, .slice none 0 0, .slice none 0 0]] w fun e w' => ∃ u, e = .returned (.tuple #[u, .int .i64 ((kSeq c T (qD pa va kids LC KD U (tk c p 8)) nu (p + 1) kids).2 : Nat)]) ∧ Below w.heap.size w w' ∧ ∃ x0 L, TreeS lo w' u x0 U L ∧ (x0 :: L).map PV.p = (kSeq c T (qD pa va kids LC KD U (tk c p 8)) nu (p + 1) kids).1 := by
  subst hkI hnu
  exact l4Kids_in c level hl1 hl2 p hp T kids hk3 hT pa va LC KD U hLC hUl hKD lo w ao cap hC vc vk vu hin hlo
theorem IsCode.form {w : World} {v : Value} {c : Sl Int} (h : IsCode w v c) : ∃ ao cap, v = .slice ao c.n cap := IsArr.slice h.ints
theorem skolem_tree {C : Nat → Int → Prop} {P : Nat → Int → List PD × Nat → Prop} (h : ∀ p u, C p u → ∃ t, P p u t) : ∃ T : Nat → Int → List PD × Nat, ∀ p u, C p u → P p u (T p u) := by
  classical
  refine ⟨fun p u => if hc : C p u then Classical.choose (h p u hc) else ([], 0), fun p u hc => ?_⟩
  show P p u (if hc : C p u then Classical.choose (h p u hc) else ([], 0))
  rw [dif_pos hc]
  exact Classical.choose_spec (h p u hc)
theorem tree2 (c : Sl Int) (p : Nat) (ups : Int) (hp : p ≤ 40000 ∧ 0 ≤ ups ∧ ups ≤ 2) : ∃ t, TreeA c 2 p ups t ∧ t.2 ≤ p + 100 ∧ t.1.length ≤ 1 ∧ 0 < t.1.length ∧ ∀ x ∈ t.1, Sm x := by
  obtain ⟨hp, h1, h2⟩ := hp
  have bt := tk_bd c p 3
  have bt1 := bt.1
  have bt2 := bt.2 (by omega)
  have hcn := cnt_le c
  have hko : kidsOf' c 2 p = 0 := rfl
  have hkI : (0 : Int) = (kidsOf' c 2 p : Int) := rfl
  obtain ⟨M, hM⟩ := blocks_ex c p 0 ups (decide (tk c (p + 2) 6 < 3)) true (by omega) (by omega) h1 (by omega) (by omega)
  have hcl := codeL_len c p M (fun k hk => (hM k hk).1)
  have hun : (upL c p ups.toNat).length = ups.toNat := upL_len c p _
  have hbd := kSeq_bd' c (fun _ _ => ([], 0)) (qD (tk c (p + 1) 12 % 4) (decide (tk c (p + 2) 6 < 3)) (kidsOf' c 2 p) (codeL c p M) (kdL c p) (upL c p ups.toNat) (tk c (p + 4 + 4 * cnt c + ups.toNat) 8)) ups.toNat (p + 4 + 4 * cnt c + ups.toNat) 0 0 (by omega) (kidsOf' c 2 p) (by omega) (fun h => absurd h (by rw [hko]; omega)) (kidsOf' c 2 p) (Nat.le_refl _)
  have hsm' : ∀ x ∈ (treeOf c 2 (fun _ _ => ([], 0)) M p ups).1, Sm x := kSeq_all Sm (fun x n h => ⟨h.c0, h.c1, h.k1, h.u1, h.l1, h.n1⟩) c (fun _ _ => ([], 0)) _ ups.toNat (p + 4 + 4 * cnt c + ups.toNat) 0 0 (by omega) (kidsOf' c 2 p) (by omega) (fun h => absurd h (by rw [hko]; omega)) (qD_sm c p M hcl _ _ _ _ (by omega) _) (fun h => absurd h (by rw [hko]; omega)) (kidsOf' c 2 p) (Nat.le_refl _)
  have hbd1 : (treeOf c 2 (fun _ _ => ([], 0)) M p ups).2 ≤ p + 100 := Nat.le_trans hbd.1 (by omega)
  have hbd2 : (treeOf c 2 (fun _ _ => ([], 0)) M p ups).1.length ≤ 1 := Nat.le_trans hbd.2 (by omega)
  refine ⟨treeOf c 2 (fun _ _ => ([], 0)) M p ups, ⟨by omega, by omega, fun w v hC => ?_⟩, hbd1, hbd2, kSeq_pos _ _ _ _ _ _, hsm'⟩
  obtain ⟨ao, cap, rfl⟩ := hC.form
  refine Calls.mono (l4Tree_2 c p ups (by omega) h1 h2 w ao cap hC M hM (fun u q w' => q = (((treeOf c 2 (fun _ _ => ([], 0)) M p ups).2 : Nat) : Int) ∧ Below w.heap.size w w' ∧ ∃ x0 U L, TreeS w.heap.size w' u x0 U L ∧ (U.length : Int) = ups ∧ (x0 :: L).map PV.p = (treeOf c 2 (fun _ _ => ([], 0)) M p ups).1) (fun y vc vu hQ => ?_)) ?_
  · refine Calls.mono (l4Kids_at c 2 (by omega) (by omega) (p + 4 + 4 * cnt c + ups.toNat) (by omega) (fun _ _ => ([], 0)) (kidsOf' c 2 p) (by omega) (fun h => absurd h (by rw [hko]; omega)) (tk c (p + 1) 12 % 4) (decide (tk c (p + 2) 6 < 3)) (codeL c p M) (kdL c p) (upL c p ups.toNat) hcl (by omega) (by show 6 ≤ 1000; omega) w.heap.size y ao cap (hC.later hQ.bel) vc _ vu hQ.kin hQ.bel.size _ hkI ups.toNat hun) ?_
    rintro e w' ⟨u, rfl, hb, x0, L, hS, hd⟩
    exact ⟨u, _, rfl, rfl, hQ.bel.trans (hb.mono hQ.bel.size), x0, _, L, hS, by rw [hun]; omega, hd⟩
  · rintro e w' ⟨u, q, rfl, rfl, hb, hS⟩
    exact ⟨u, rfl, hb, hS⟩
theorem tree1 (c : Sl Int) (T : Nat → Int → List PD × Nat) (hT : ∀ p' ups, p' ≤ 40000 → 0 ≤ ups → ups ≤ 2 → TreeA c 2 p' ups (T p' ups) ∧ (T p' ups).2 ≤ p' + 100 ∧ (T p' ups).1.length ≤ 1 ∧ 0 < (T p' ups).1.length ∧ ∀ x ∈ (T p' ups).1, Sm x) (p : Nat) (ups : Int) (hp : p ≤ 29000 ∧ 0 ≤ ups ∧ ups ≤ 2) : ∃ t, TreeA c 1 p ups t ∧ t.2 ≤ p + 400 ∧ t.1.length ≤ 3 ∧ 0 < t.1.length ∧ ∀ x ∈ t.1, Sm x := by
  obtain ⟨hp, h1, h2⟩ := hp
  have bt := tk_bd c p 3
  have bt1 := bt.1
  have bt2 := bt.2 (by omega)
  have hcn := cnt_le c
  have hko : kidsOf' c 1 p ≤ 2 := by show (tk c p 3).toNat ≤ 2; omega
  have hkI : tk c p 3 = (kidsOf' c 1 p : Int) := by show _ = ((tk c p 3).toNat : Int); omega
  obtain ⟨M, hM⟩ := blocks_ex c p (tk c p 3) ups (decide (tk c (p + 2) 6 < 3)) true (by omega) (by omega) h1 (by omega) (by omega)
  have hcl := codeL_len c p M (fun k hk => (hM k hk).1)
  have hun : (upL c p ups.toNat).length = ups.toNat := upL_len c p _
  have hbd := kSeq_bd' c T (qD (tk c (p + 1) 12 % 4) (decide (tk c (p + 2) 6 < 3)) (kidsOf' c 1 p) (codeL c p M) (kdL c p) (upL c p ups.toNat) (tk c (p + 4 + 4 * cnt c + ups.toNat) 8)) ups.toNat (p + 4 + 4 * cnt c + ups.toNat) 100 1 (by omega) (kidsOf' c 1 p) (by omega) (fun _ p' ups h1 h2 h3 => ⟨(hT p' ups (by omega) h2 h3).2.1, (hT p' ups (by omega) h2 h3).2.2.1⟩) (kidsOf' c 1 p) (Nat.le_refl _)
  have hsm' : ∀ x ∈ (treeOf c 1 T M p ups).1, Sm x := kSeq_all Sm (fun x n h => ⟨h.c0, h.c1, h.k1, h.u1, h.l1, h.n1⟩) c T _ ups.toNat (p + 4 + 4 * cnt c + ups.toNat) 100 1 (by omega) (kidsOf' c 1 p) (by omega) (fun _ p' ups h1 h2 h3 => ⟨(hT p' ups (by omega) h2 h3).2.1, (hT p' ups (by omega) h2 h3).2.2.1⟩) (qD_sm c p M hcl _ _ _ _ (by omega) _) (fun _ p' ups h1 h2 h3 => (hT p' ups (by omega) h2 h3).2.2.2.2) (kidsOf' c 1 p) (Nat.le_refl _)
  have hbd1 : (treeOf c 1 T M p ups).2 ≤ p + 400 := Nat.le_trans hbd.1 (by omega)
  have hbd2 : (treeOf c 1 T M p ups).1.length ≤ 3 := Nat.le_trans hbd.2 (by omega)
  refine ⟨treeOf c 1 T M p ups, ⟨by omega, by omega, fun w v hC => ?_⟩, hbd1, hbd2, kSeq_pos _ _ _ _ _ _, hsm'⟩
  obtain ⟨ao, cap, rfl⟩ := hC.form
  refine Calls.mono (l4Tree_1 c p ups (by omega) h1 h2 w ao cap hC M hM (fun u q w' => q = (((treeOf c 1 T M p ups).2 : Nat) : Int) ∧ Below w.heap.size w w' ∧ ∃ x0 U L, TreeS w.heap.size w' u x0 U L ∧ (U.length : Int) = ups ∧ (x0 :: L).map PV.p = (treeOf c 1 T M p ups).1) (fun y vc vu hQ => ?_)) ?_
  · refine Calls.mono (l4Kids_at c 1 (by omega) (by omega) (p + 4 + 4 * cnt c + ups.toNat) (by omega) T (kidsOf' c 1 p) (by omega) (fun _ p' ups h1 h2 h3 => (hT p' ups (by omega) h2 h3).1) (tk c (p + 1) 12 % 4) (decide (tk c (p + 2) 6 < 3)) (codeL c p M) (kdL c p) (upL c p ups.toNat) hcl (by omega) (by show 6 ≤ 1000; omega) w.heap.size y ao cap (hC.later hQ.bel) vc _ vu hQ.kin hQ.bel.size _ hkI ups.toNat hun) ?_
    rintro e w' ⟨u, rfl, hb, x0, L, hS, hd⟩
    exact ⟨u, _, rfl, rfl, hQ.bel.trans (hb.mono hQ.bel.size), x0, _, L, hS, by rw [hun]; omega, hd⟩
  · rintro e w' ⟨u, q, rfl, rfl, hb, hS⟩
    exact ⟨u, rfl, hb, hS⟩
theorem tree0 (c : Sl Int) (T : Nat → Int → List PD × Nat) (hT : ∀ p' ups, p' ≤ 29000 → 0 ≤ ups → ups ≤ 2 → TreeA c 1 p' ups (T p' ups) ∧ (T p' ups).2 ≤ p' + 400 ∧ (T p' ups).1.length ≤ 3 ∧ 0 < (T p' ups).1.length ∧ ∀ x ∈ (T p' ups).1, Sm x) (p : Nat) (ups : Int) (hp : p ≤ 18000 ∧ 0 ≤ ups ∧ ups ≤ 2) : ∃ t, TreeA c 0 p ups t ∧ t.2 ≤ p + 2000 ∧ t.1.length ≤ 10 ∧ 0 < t.1.length ∧ ∀ x ∈ t.1, Sm x := by
  obtain ⟨hp, h1, h2⟩ := hp
  have bt := tk_bd c p 3
  have bt1 := bt.1
  have bt2 := bt.2 (by omega)
  have hcn := cnt_le c
  have hko : kidsOf' c 0 p ≤ 3 := by show (tk c p 3).toNat + 1 ≤ 3; omega
  have hkI : tk c p 3 + 1 = (kidsOf' c 0 p : Int) := by show _ = (((tk c p 3).toNat + 1 : Nat) : Int); omega
  obtain ⟨M, hM⟩ := blocks_ex c p (tk c p 3 + 1) ups (decide (tk c (p + 2) 6 < 3)) false (by omega) (by omega) h1 (by omega) (by omega)
  have hcl := codeL_len c p M (fun k hk => (hM k hk).1)
  have hun : (upL c p ups.toNat).length = ups.toNat := upL_len c p _
  have hbd := kSeq_bd' c T (qD (tk c (p + 1) 12 % 4) (decide (tk c (p + 2) 6 < 3)) (kidsOf' c 0 p) (codeL c p M) (kdL c p) (upL c p ups.toNat) (tk c (p + 4 + 4 * cnt c + ups.toNat) 8)) ups.toNat (p + 4 + 4 * cnt c + ups.toNat) 400 3 (by omega) (kidsOf' c 0 p) (by omega) (fun _ p' ups h1 h2 h3 => ⟨(hT p' ups (by omega) h2 h3).2.1, (hT p' ups (by omega) h2 h3).2.2.1⟩) (kidsOf' c 0 p) (Nat.le_refl _)
  have hsm' : ∀ x ∈ (treeOf c 0 T M p ups).1, Sm x := kSeq_all Sm (fun x n h => ⟨h.c0, h.c1, h.k1, h.u1, h.l1, h.n1⟩) c T _ ups.toNat (p + 4 + 4 * cnt c + ups.toNat) 400 3 (by omega) (kidsOf' c 0 p) (by omega) (fun _ p' ups h1 h2 h3 => ⟨(hT p' ups (by omega) h2 h3).2.1, (hT p' ups (by omega) h2 h3).2.2.1⟩) (qD_sm c p M hcl _ _ _ _ (by omega) _) (fun _ p' ups h1 h2 h3 => (hT p' ups (by omega) h2 h3).2.2.2.2) (kidsOf' c 0 p) (Nat.le_refl _)
  have hbd1 : (treeOf c 0 T M p ups).2 ≤ p + 2000 := Nat.le_trans hbd.1 (by omega)
  have hbd2 : (treeOf c 0 T M p ups).1.length ≤ 10 := Nat.le_trans hbd.2 (by omega)
  refine ⟨treeOf c 0 T M p ups, ⟨by omega, by omega, fun w v hC => ?_⟩, hbd1, hbd2, kSeq_pos _ _ _ _ _ _, hsm'⟩
  obtain ⟨ao, cap, rfl⟩ := hC.form
  refine Calls.mono (l4Tree_0 c p ups (by omega) h1 h2 w ao cap hC M hM (fun u q w' => q = (((treeOf c 0 T M p ups).2 : Nat) : Int) ∧ Below w.heap.size w w' ∧ ∃ x0 U L, TreeS w.heap.size w' u x0 U L ∧ (U.length : Int) = ups ∧ (x0 :: L).map PV.p = (treeOf c 0 T M p ups).1) (fun y vc vu hQ => ?_)) ?_
  · refine Calls.mono (l4Kids_at c 0 (by omega) (by omega) (p + 4 + 4 * cnt c + ups.toNat) (by omega) T (kidsOf' c 0 p) (by omega) (fun _ p' ups h1 h2 h3 => (hT p' ups (by omega) h2 h3).1) (tk c (p + 1) 12 % 4) (decide (tk c (p + 2) 6 < 3)) (codeL c p M) (kdL c p) (upL c p ups.toNat) hcl (by omega) (by show 6 ≤ 1000; omega) w.heap.size y ao cap (hC.later hQ.bel) vc _ vu hQ.kin hQ.bel.size _ hkI ups.toNat hun) ?_
    rintro e w' ⟨u, rfl, hb, x0, L, hS, hd⟩
    exact ⟨u, _, rfl, rfl, hQ.bel.trans (hb.mono hQ.bel.size), x0, _, L, hS, by rw [hun]; omega, hd⟩
  · rintro e w' ⟨u, q, rfl, rfl, hb, hS⟩
    exact ⟨u, rfl, hb, hS⟩
set_option maxRecDepth 100000 in
set_option maxHeartbeats 400000 in
/-- a chunk that can run. -/
theorem drawChunk (c : Sl Int) : ∃ (PS : List PD) (P : Nat), P ≤ 3000 ∧ PS.length ≤ 10 ∧ 0 < PS.length ∧ (∀ x ∈ PS, Sm x) ∧ ∀ w v, IsCode w v c → Calls Try.prog 8 #[v, .int .i64 1] w fun e w' => ∃ u, e = .returned (.tuple #[.agg #[u], .int .i64 (P : Int)]) ∧ Below w.heap.size w w' ∧ IsProtos (fun b => w.heap.size ≤ b ∧ b < w'.heap.size) w' u (slOf PS) := by
  obtain ⟨T2, h2⟩ := skolem_tree (C := fun p u => p ≤ 40000 ∧ 0 ≤ u ∧ u ≤ 2) (fun p u h => tree2 c p u h)
  obtain ⟨T1, h1⟩ := skolem_tree (C := fun p u => p ≤ 29000 ∧ 0 ≤ u ∧ u ≤ 2) (fun p u h => tree1 c T2 (fun p' u' a1 a2 a3 => h2 p' u' ⟨a1, a2, a3⟩) p u h)
  obtain ⟨⟨PS, P⟩, ⟨-, -, hC⟩, hb, hl, h0, hSm⟩ := tree0 c T1 (fun p' u' a1 a2 a3 => h1 p' u' ⟨a1, a2, a3⟩) 1 0 ⟨by omega, by omega, by omega⟩
  refine ⟨PS, P, by simp at hb; omega, hl, h0, hSm, fun w v hv => ?_⟩
  obtain ⟨ao, cap, rfl⟩ := hv.form
  have hB : Below w.heap.size w (w.alloc (.cells #[.slice none 0 0] 25)) := (Below.refl _ _).alloc (Nat.le_refl _) _
  have hT := hC _ _ (hv.later hB)
  replace hT : Hid _ := hT
  clear h2 h1 hC
  go_enter Try.func8, Try.ntmps8
  go_wp2_with fail
  refine Calls.mono hT.out ?_
  rintro e y ⟨u, rfl, by', x0, U, L, hS, -, hd⟩
  obtain ⟨g, cp, rfl, -, -⟩ := hS.row.form (by omega)
  have hr := (RowL.new w [.slice none 0 0] 25).call by'
  have q0 := hr.cell 0 rfl
  have f0 := hr.frozen 0
  have hfin := (hr.set 0 (.slice (some ⟨g, 0, none⟩) (L.length + 1) cp)).cell 0 rfl
  go_wp2_with fail
  refine bodyPost_ret (v := .tuple #[.agg #[.slice (some ⟨g, 0, none⟩) (L.length + 1) cp], .int .i64 (P : Int)]) (by simp [results, Try.results8, go_sem, hfin]) rfl ⟨_, rfl, ?_, ?_⟩
  · exact (hB.trans (by'.mono (by rw [World.size_alloc]; omega))).setCell (p := ⟨w.heap.size, 0, none⟩) (Nat.le_refl _) _
  · have hp := hS.protos
    rw [show (x0 :: L).map PV.p = PS from hd, World.size_alloc] at hp
    refine (hp.keep fun b hb' => Below.heap_setCell _ _ _ _ (by show b ≠ w.heap.size; omega)).mono fun b hb' => ⟨by omega, by rw [World.size_setCell]; exact hb'.2⟩
end Go.Proofs.Ytlkmohhkhcbiaaa

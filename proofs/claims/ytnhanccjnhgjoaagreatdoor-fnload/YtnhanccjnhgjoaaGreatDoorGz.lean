import Derived.Test.YtnhanccjnhgjoaaGreatDoorGu
import Derived.Test.YtnhanccjnhgjoaaGreatDoorGa
import Derived.Deep.Cut
namespace Go.Proofs.YtnhanccjnhgjoaaGreatDoor
open Go.RowKit
set_option linter.unusedVariables false
set_option linter.unusedSimpArgs false
def upLL : List Nat → List Nat
 | [] => []
 | n :: L => if 1 < n then (n - 1) :: L else upLL L
structure LS where
 r : RS
 c : List PR
 L : List Nat
 an : Int
section
variable (s : ByteArray) (V : Nat → Option (Int × Nat))
noncomputable def nxt (x : LS) : PR × RS := rdPro s V gi0 (if (x.L.length : Int) = 63 then 0 else 200 - x.an) x.r
noncomputable def stp (x : LS) : LS :=
 ⟨(nxt s V x).2, x.c ++ [(nxt s V x).1], if 0 < (nxt s V x).1.kids then (nxt s V x).1.kids.toNat :: x.L else upLL x.L, x.an + (nxt s V x).1.kids⟩
inductive Rnds : LS → LS → Nat → Prop
 | here (x : LS) : Rnds x x 0
 | on {x y : LS} {n : Nat} : (x.c.length : Int) < x.an → (nxt s V x).2.bad = 0 → Rnds (stp s V x) y n → Rnds x y (n + 1)
variable {s V}
theorem Rnds.trans {x y z : LS} {m n : Nat} (h : Rnds s V x y m) (k : Rnds s V y z n) : Rnds s V x z (m + n) := by
 induction h with
 | here x => rw [Nat.zero_add]; exact k
 | on hl hb _ ih => rw [Nat.succ_add]; exact .on hl hb (ih k)
def Fails (x : LS) (c : Int) : Prop := ∃ y n, Rnds s V x y n ∧ (y.c.length : Int) < y.an ∧ (nxt s V y).2.bad = c ∧ c ≠ 0
theorem Rnds.fails {x y : LS} {n : Nat} {c : Int} (h : Rnds s V x y n) (k : Fails (s := s) (V := V) y c) : Fails (s := s) (V := V) x c := by
 obtain ⟨z, m, hz, hc⟩ := k;exact ⟨z, n + m, h.trans hz, hc⟩
theorem rdFor_ext {t : RS → Int → List PR × RS × Int} : ∀ n r an acc, (rdFor t n r an acc).2.1.bad = 0 → ∃ M, (rdFor t n r an acc).1 = acc ++ M
 | 0, r, an, acc, h => ⟨[], by simp [rdFor]⟩
 | n + 1, r, an, acc, h => by
  by_cases hb : (t r an).2.1.bad = 0
  ·rw [rdFor_ok hb] at h ⊢;obtain ⟨M, hM⟩ := rdFor_ext n _ _ _ h;exact ⟨(t r an).1 :: M, by rw [hM]; simp⟩
  ·rw [rdFor_bad hb] at h;exact absurd h hb
def TreeRuns (t : RS → Int → List PR × RS × Int) (ab : Nat) : Prop := ∀ r an c L, L.length = ab → (c.length : Int) < an → r.bad = 0 → 0 ≤ an → an ≤ 200 → r.pos ≤ s.size →
 ((t r an).2.1.bad = 0 → Rnds s V ⟨r, c, L, an⟩ ⟨(t r an).2.1, c ++ (t r an).1, upLL L, (t r an).2.2⟩ (t r an).1.length) ∧
 ((t r an).2.1.bad ≠ 0 → Fails (s := s) (V := V) ⟨r, c, L, an⟩ (t r an).2.1.bad)
theorem for_runs {t : RS → Int → List PR × RS × Int} {ab : Nat} (ht : TreeRuns (s := s) (V := V) t (ab + 1))
  (hf : ∀ r an, r.pos ≤ s.size → 0 ≤ an → an ≤ 200 → (t r an).2.1.pos ≤ s.size ∧ (an ≤ (t r an).2.2 ∧ (t r an).2.2 ≤ 200) ∧ ((t r an).1.length : Int) ≤ 1 + ((t r an).2.2 - an)) :
  ∀ n r an c L acc, L.length = ab → (c.length : Int) + (n + 1 : Nat) ≤ an → r.bad = 0 → 0 ≤ an → an ≤ 200 → r.pos ≤ s.size →
  ((rdFor t (n + 1) r an acc).2.1.bad = 0 → Rnds s V ⟨r, c, (n + 1) :: L, an⟩ ⟨(rdFor t (n + 1) r an acc).2.1, c ++ ((rdFor t (n + 1) r an acc).1.drop acc.length).flatten, upLL L, (rdFor t (n + 1) r an acc).2.2⟩ ((rdFor t (n + 1) r an acc).1.drop acc.length).flatten.length) ∧
  ((rdFor t (n + 1) r an acc).2.1.bad ≠ 0 → Fails (s := s) (V := V) ⟨r, c, (n + 1) :: L, an⟩ (rdFor t (n + 1) r an acc).2.1.bad)
 | n, r, an, c, L, acc, hL, hcl, hr, h0, h1, hp => by
  have hT := ht r an c ((n + 1) :: L) (by simp [hL]) (by omega) hr h0 h1 hp;have hF := hf r an hp h0 h1;by_cases hb : (t r an).2.1.bad = 0
  ·rw [rdFor_ok hb];have g := hT.1 hb
   cases n with
   | zero =>
    have e : upLL ((0 + 1) :: L) = upLL L := by simp [upLL]
    rw [e] at g;refine ⟨fun _ => ?_, fun h => absurd hb h⟩;show Rnds s V _ ⟨(t r an).2.1, c ++ ((acc ++ [(t r an).1]).drop acc.length).flatten, upLL L, (t r an).2.2⟩ ((acc ++ [(t r an).1]).drop acc.length).flatten.length;rw [List.drop_left]
    simpa using g
   | succ n =>
    have e : upLL ((n + 1 + 1) :: L) = (n + 1) :: L := by simp [upLL]
    rw [e] at g;have k := for_runs ht hf n (t r an).2.1 (t r an).2.2 (c ++ (t r an).1) L (acc ++ [(t r an).1]) hL (by rw [List.length_append]; have := hF.2.2; omega) hb (by omega) hF.2.1.2 hF.1;refine ⟨fun h => ?_, fun h => g.fails (k.2 h)⟩;have k1 := k.1 h;obtain ⟨M, hM⟩ : ∃ M, (rdFor t (n + 1) (t r an).2.1 (t r an).2.2 (acc ++ [(t r an).1])).1 = acc ++ [(t r an).1] ++ M := rdFor_ext (n + 1) _ _ _ h;rw [hM] at k1 ⊢;rw [List.drop_left] at k1;rw [List.append_assoc, List.drop_left];have g2 := g.trans k1
    simpa [List.append_assoc, Nat.add_comm] using g2
  ·rw [rdFor_bad hb];exact ⟨fun h => absurd h hb, fun _ => hT.2 hb⟩
theorem rdFor_b {f n : Nat} {ab an : Int} {r : RS} (h : r.bad ≠ 0) (hf : 0 < n → 0 < f) : (rdFor (rdTree s V f ab) n r an []).2.1 = r := by
 cases n with
 | zero => rfl
 | succ n =>
  obtain ⟨f', rfl⟩ : ∃ f', f = f' + 1 := ⟨f - 1, by have := hf (by omega); omega⟩;have e : (rdTree s V (f' + 1) ab r an).2.1 = r := rdTree_b h;rw [rdFor_bad (by rw [e]; exact h)];exact e
theorem tree_runs (hV : VrOk s V) : ∀ (f ab : Nat), ab + f = 63 → TreeRuns (s := s) (V := V) (rdTree s V (f + 1) (ab : Int)) ab
 | f, ab, hab => by
  intro r an c L hL hcl hr h0 h1 hp;obtain ⟨most, hm⟩ : ∃ m : Int, m = (if (ab : Int) = 63 then 0 else 200 - an) := ⟨_, rfl⟩;have hm0 : 0 ≤ most ∧ most ≤ 200 - an ∧ ((ab : Int) = 63 → most = 0) := by rw [hm]; split <;> omega
  have hpf := rdPro_facts hV (G := gi0) hm0.1 hp;have hn : nxt s V ⟨r, c, L, an⟩ = rdPro s V gi0 most r := by unfold nxt; dsimp only; rw [hL, hm]
  have htree : rdTree s V (f + 1) (ab : Int) r an = ((rdPro s V gi0 most r).1 :: (rdFor (rdTree s V f ((ab : Int) + 1)) (rdPro s V gi0 most r).1.kids.toNat (rdPro s V gi0 most r).2 (an + (rdPro s V gi0 most r).1.kids) []).1.flatten, (rdFor (rdTree s V f ((ab : Int) + 1)) (rdPro s V gi0 most r).1.kids.toNat (rdPro s V gi0 most r).2 (an + (rdPro s V gi0 most r).1.kids) []).2) := by
   rw [hm]; rfl
  rw [htree];dsimp only;obtain ⟨x, hx⟩ : ∃ x, rdPro s V gi0 most r = x := ⟨_, rfl⟩;rw [hx] at hpf hn ⊢;obtain ⟨p, r1⟩ := x;dsimp only at hpf ⊢;by_cases hb : r1.bad = 0
  ·have hst : stp s V ⟨r, c, L, an⟩ = ⟨r1, c ++ [p], if 0 < p.kids then p.kids.toNat :: L else upLL L, an + p.kids⟩ := by unfold stp; rw [hn]
   have g : ∀ {y : LS} {n : Nat}, Rnds s V ⟨r1, c ++ [p], if 0 < p.kids then p.kids.toNat :: L else upLL L, an + p.kids⟩ y n → Rnds s V ⟨r, c, L, an⟩ y (n + 1) := fun h => .on hcl (by rw [hn]; exact hb) (by rw [hst]; exact h);by_cases hk : 0 < p.kids
   ·rw [if_pos hk] at g;obtain ⟨n, hkn⟩ : ∃ n : Nat, p.kids.toNat = n + 1 := ⟨p.kids.toNat - 1, by omega⟩;obtain ⟨f', rfl⟩ : ∃ f', f = f' + 1 := ⟨f - 1, by omega⟩;have ih := tree_runs hV f' (ab + 1) (by omega);rw [show ((ab + 1 : Nat) : Int) = (ab : Int) + 1 by omega] at ih;have k := for_runs (ab := ab) ih (fun r an a b d => rdTree_facts hV (f' + 1) ((ab : Int) + 1) r an a b d) n r1 (an + p.kids) (c ++ [p]) L [] hL (by rw [List.length_append, List.length_singleton]; omega) hb (by omega) (by omega) hpf.1;rw [hkn] at g ⊢;refine ⟨fun h => ?_, fun h => ?_⟩
    ·have := g (k.1 h)
     simpa [List.append_assoc] using this
    ·obtain ⟨y, m, hy, hc⟩ := k.2 h;exact ⟨y, m + 1, g hy, hc⟩
   ·rw [if_neg hk] at g;have e : p.kids.toNat = 0 := by omega
    have e2 : p.kids = 0 := by omega
    rw [e, e2];rw [e2] at g;refine ⟨fun _ => ?_, fun h => absurd hb h⟩;have := g (.here _)
    simpa [rdFor] using this
  ·have e : (rdFor (rdTree s V f ((ab : Int) + 1)) p.kids.toNat r1 (an + p.kids) []).2.1 = r1 := rdFor_b hb (by omega);rw [e];exact ⟨fun h => absurd h hb, fun _ => ⟨_, 0, .here _, hcl, by rw [hn], hb⟩⟩
 termination_by f => f
theorem rdFor_count {t : RS → Int → List PR × RS × Int} (ht : ∀ r an, (t r an).2.1.bad = 0 → ((t r an).1.length : Int) = 1 + ((t r an).2.2 - an)) :
  ∀ n r an acc, (rdFor t n r an acc).2.1.bad = 0 → ((rdFor t n r an acc).1.flatten.length : Int) = acc.flatten.length + n + ((rdFor t n r an acc).2.2 - an)
 | 0, r, an, acc, h => by simp [rdFor]
 | n + 1, r, an, acc, h => by
  by_cases hb : (t r an).2.1.bad = 0
  ·rw [rdFor_ok hb] at h ⊢;rw [rdFor_count ht n _ _ _ h, List.flatten_append, List.length_append];have := ht r an hb;simp only [List.flatten_cons, List.flatten_nil, List.append_nil];omega
  ·rw [rdFor_bad hb] at h;exact absurd h hb
theorem rdNum_0 (hi : Int) (r : RS) : 0 ≤ (rdNum s V 0 hi r).1 ∧ ((rdNum s V 0 hi r).1 ≤ hi ∨ (rdNum s V 0 hi r).1 = 0) := by
 unfold rdNum;dsimp only;split
 ·exact ⟨Int.le_refl _, .inr rfl⟩
 ·split
  ·exact ⟨Int.le_refl _, .inr rfl⟩
  ·omega
theorem rdPro_kids (most : Int) (r : RS) : 0 ≤ (rdPro s V gi0 most r).1.kids ∧ ((rdPro s V gi0 most r).1.kids ≤ most ∨ (rdPro s V gi0 most r).1.kids = 0) := by
 unfold rdPro;exact rdNum_0 most _
theorem rdTree_count : ∀ (f ab : Nat), ab + f = 63 → ∀ r an, (rdTree s V (f + 1) (ab : Int) r an).2.1.bad = 0 → ((rdTree s V (f + 1) (ab : Int) r an).1.length : Int) = 1 + ((rdTree s V (f + 1) (ab : Int) r an).2.2 - an)
 | f, ab, hab, r, an => by
  intro h;obtain ⟨most, hm⟩ : ∃ m : Int, m = (if (ab : Int) = 63 then 0 else 200 - an) := ⟨_, rfl⟩
  have htree : rdTree s V (f + 1) (ab : Int) r an = ((rdPro s V gi0 most r).1 :: (rdFor (rdTree s V f ((ab : Int) + 1)) (rdPro s V gi0 most r).1.kids.toNat (rdPro s V gi0 most r).2 (an + (rdPro s V gi0 most r).1.kids) []).1.flatten, (rdFor (rdTree s V f ((ab : Int) + 1)) (rdPro s V gi0 most r).1.kids.toNat (rdPro s V gi0 most r).2 (an + (rdPro s V gi0 most r).1.kids) []).2) := by
   rw [hm]; rfl
  rw [htree] at h ⊢;dsimp only at h ⊢;have hk := rdPro_kids (s := s) (V := V) most r;generalize rdPro s V gi0 most r = P at h hk ⊢;rw [List.length_cons]
  cases f with
  | zero =>
   have h63 : (ab : Int) = 63 := by omega
   rw [if_pos h63] at hm;have e : P.1.kids = 0 := by omega
   rw [e];simp [rdFor]
  | succ f =>
   have ih := rdTree_count f (ab + 1) (by omega);rw [show ((ab + 1 : Nat) : Int) = (ab : Int) + 1 by omega] at ih;have := rdFor_count ih P.1.kids.toNat P.2 (an + P.1.kids) [] h;simp only [List.flatten_nil, List.length_nil] at this;omega
 termination_by f => f
end
end Go.Proofs.YtnhanccjnhgjoaaGreatDoor
namespace Go.Proofs.YtnhanccjnhgjoaaGreatDoor
open Go.RowKit
set_option linter.unusedVariables false
set_option linter.unusedSimpArgs false
set_option maxRecDepth 100000
set_option maxHeartbeats 9000000
def lfC (L : List Nat) : List Value := L.reverse.map fun (n : Nat) => Value.int .i64 (n : Int)
theorem lfC_cons (n : Nat) (L : List Nat) : lfC (n :: L) = lfC L ++ [.int .i64 (n : Int)] := by simp [lfC]
theorem lfC_len (L : List Nat) : (lfC L).length = L.length := by simp [lfC]
theorem grownBy_alloc {w w' : World} {o : Obj} {b : Option Nat} (h : (w.alloc o).grownBy w' b) : w.grownBy w' b :=
 ⟨h.os, h.tape, h.output, by have := h.size; rw [World.size_alloc] at this; omega, fun k hk hb => (h.block k (by rw [World.size_alloc]; omega) hb).trans (heap_alloc_old w o hk)⟩
theorem grownBy_refl (w : World) (b : Option Nat) : w.grownBy w b := ⟨rfl, rfl, rfl, Nat.le_refl _, fun _ _ _ => rfl⟩
theorem own_pop {y : World} {b g cap n : Nat} {e : TypeId} {xs : List Value} {x : Value} (h : y.ownsRow b e 1 (.slice (some ⟨g, 0, none⟩) (n + 1) cap) (n + 1) (xs ++ [x])) : y.ownsRow b e 1 (.slice (some ⟨g, 0, none⟩) n cap) n xs := by
 have hl : xs.length = n := by have := h.1; simp at this; omega
 refine ⟨by omega, ?_⟩;rcases h.2 with ⟨h0, _⟩ | ⟨g', cap', cur, he, hb, hg, hnc, hcm, hcs, htk⟩
 ·cases h0
 ·simp only [Value.slice.injEq, Option.some.injEq, Addr.mk.injEq, and_true, true_and] at he;obtain ⟨rfl, rfl⟩ := he;refine .inr ⟨g, cap, cur, rfl, hb, hg, by omega, hcm, hcs, ?_⟩;have h2 := congrArg (List.take (n * 1)) htk;rw [List.take_take, show min (n * 1) ((n + 1) * 1) = n * 1 by omega] at h2;rw [h2, List.take_left' (by omega)]
theorem infInt : (Tryz.prog.info? 3).map (fun i => (i.zero, i.size, i.bytes)) = some (some (.int .i64 0), 1, 8) := by kernel_rfl
def SevAt {α : Type} (rd : RS → α × RS) (m : Nat) (r0 : RS) (k : Nat) (r : RS) (M : List α) : Prop :=
 (r.bad = 0 → rdSev rd m r0 [] = rdSev rd (m - k) r M) ∧ (r.bad ≠ 0 → (rdSev rd m r0 []).2 = r) ∧ M.length ≤ k
theorem SevAt.start {α : Type} {rd : RS → α × RS} (hb : ∀ r, r.bad ≠ 0 → (rd r).2 = r) (m : Nat) (r0 : RS) : SevAt rd m r0 0 r0 [] := by
 refine ⟨fun _ => rfl, fun h => ?_, Nat.le_refl _⟩
 cases m with
 | zero => rfl
 | succ m => rw [rdSev_bad (by rw [hb _ h]; exact h)]; exact hb _ h
theorem SevAt.step {α : Type} {rd : RS → α × RS} {m : Nat} {r0 : RS} {k : Nat} {r : RS} {M : List α} (h : SevAt rd m r0 k r M) (hr : r.bad = 0) (hk : k < m) {x : α} {r1 : RS} (hx : rd r = (x, r1)) : SevAt rd m r0 (k + 1) r1 (M ++ [x]) := by
 have e := h.1 hr;rw [show m - k = (m - (k + 1)) + 1 by omega] at e;refine ⟨fun h1 => ?_, fun h1 => ?_, ?_⟩
 ·rw [e, rdSev_ok (by rw [hx]; exact h1), hx]
 ·rw [e, rdSev_bad (by rw [hx]; exact h1), hx]
 ·have := h.2.2; simp; omega
theorem SevAt.stepBad {α : Type} {rd : RS → α × RS} {m : Nat} {r0 : RS} {k : Nat} {r : RS} {M : List α} (h : SevAt rd m r0 k r M) (hr : r.bad = 0) (hk : k < m) {x : α} {r1 : RS} (hx : rd r = (x, r1)) (h1 : r1.bad ≠ 0) : SevAt rd m r0 (k + 1) r1 M := by
 have e := h.1 hr;rw [show m - k = (m - (k + 1)) + 1 by omega] at e;refine ⟨fun h2 => absurd h2 h1, fun _ => ?_, ?_⟩
 ·rw [e, rdSev_bad (by rw [hx]; exact h1), hx]
 ·have := h.2.2; omega
theorem SevAt.done {α : Type} {rd : RS → α × RS} {m : Nat} {r0 : RS} {k : Nat} {r : RS} {M : List α} (h : SevAt rd m r0 k r M) (hk : k = m ∨ r.bad ≠ 0) (hkm : k ≤ m) : (rdSev rd m r0 []).2 = r ∧ (r.bad = 0 → (rdSev rd m r0 []).1 = M) := by
 by_cases hb : r.bad = 0
 ·obtain rfl : k = m := hk.resolve_right (fun h => h hb);have e := h.1 hb;rw [Nat.sub_self] at e;rw [e];exact ⟨rfl, fun _ => rfl⟩
 ·exact ⟨h.2.1 hb, fun h => absurd h hb⟩
theorem Ex2.below {R P : Nat} {y y' : World} (h : Below y.heap.size y y') : Ex2 R P y y' := ⟨h.os, h.tape, h.output, h.size, fun i hi _ _ => h.block i hi⟩
theorem Ex2.setR {R P : Nat} {a b : World} (h : Ex2 R P a b) (k : Nat) (v : Value) : Ex2 R P a (b.setCell ⟨R, k, none⟩ v) :=
 ⟨h.os, h.tape, h.output, by rw [World.size_setCell]; exact h.size, fun i hi hR hP => (Below.heap_setCell _ _ _ _ (show i ≠ R from hR)).trans (h.block i hi hR hP)⟩
theorem Ex2.alloc {R P : Nat} {w0 y : World} (h : Ex2 R P w0 y) (o : Obj) : Ex2 R P w0 (y.alloc o) :=
 ⟨h.os, h.tape, h.output, by rw [World.size_alloc]; exact Nat.le_succ_of_le h.size, fun i hi hR hP => (heap_alloc_old _ _ (Nat.lt_of_lt_of_le hi h.size)).trans (h.block i hi hR hP)⟩
theorem Ex2.grown {R P : Nat} {w0 y y' : World} {b : Option Nat} (h : Ex2 R P w0 y) (hg : y.grownBy y' b) (hb : ∀ q, b = some q → w0.heap.size ≤ q) : Ex2 R P w0 y' := by
 refine ⟨hg.os.trans h.os, hg.tape.trans h.tape, hg.output.trans h.output, Nat.le_trans h.size hg.size, fun i hi hR hP => ?_⟩;refine (hg.block i (Nat.lt_of_lt_of_le hi h.size) ?_).trans (h.block i hi hR hP);intro e;have := hb i (by first | exact e | exact e.symm);omega
def rC (s : ByteArray) (r : RS) : List Value := [.string s, .int .i64 (r.pos : Int), .int .i64 r.bad]
theorem rC_put {y : World} {R : Nat} {t : TypeId} {s : ByteArray} {r : RS} (h : RowL y R t (rC s r)) (r1 : RS) : RowL (((y.setCell ⟨R, 0, none⟩ (.string s)).setCell ⟨R, 1, none⟩ (.int .i64 (r1.pos : Int))).setCell ⟨R, 2, none⟩ (.int .i64 r1.bad)) R t (rC s r1) :=
 ((h.set 0 (.string s)).set 1 (.int .i64 (r1.pos : Int))).set 2 (.int .i64 r1.bad)
theorem Ex2.put {R P : Nat} {a b : World} (h : Ex2 R P a b) (v0 v1 v2 : Value) : Ex2 R P a (((b.setCell ⟨R, 0, none⟩ v0).setCell ⟨R, 1, none⟩ v1).setCell ⟨R, 2, none⟩ v2) := ((h.setR 0 v0).setR 1 v1).setR 2 v2
theorem RowL.put {y : World} {R P : Nat} {t : TypeId} {L : List Value} (h : RowL y P t L) (hd : P ≠ R) (v0 v1 v2 : Value) : RowL (((y.setCell ⟨R, 0, none⟩ v0).setCell ⟨R, 1, none⟩ v1).setCell ⟨R, 2, none⟩ v2) P t L :=
 ((h.other (a := ⟨R, 0, none⟩) hd v0).other (a := ⟨R, 1, none⟩) hd v1).other (a := ⟨R, 2, none⟩) hd v2
open Classical in
theorem rdAny_at {s : ByteArray} {V : Nat → Option (Int × Nat)} {r : RS} (hb : r.bad = 0) : (∃ c : Int, c ≠ 0 ∧ V r.pos = none ∧ rdAny s V r = (0, ⟨r.pos, c⟩)) ∨ ∃ n q, V r.pos = some (n, q) ∧ rdAny s V r = (n, ⟨q, 0⟩) := by
 unfold rdAny
 cases hv : V r.pos with
 | none =>
  refine .inl ⟨if Cut4 s r.pos then 2 else 3, by split <;> decide, rfl, ?_⟩;rw [if_neg (by simp [hb])]
 | some x =>
  obtain ⟨n, q⟩ := x;refine .inr ⟨n, q, rfl, ?_⟩;rw [if_neg (by simp [hb])]
theorem rdNum_any {s : ByteArray} {V : Nat → Option (Int × Nat)} (hV : VrOk s V) (r : RS) : rdNum s V 0 16777215 r = rdAny s V r := by
 unfold rdNum;dsimp only;by_cases hb : r.bad = 0
 ·rcases rdAny_at (s := s) (V := V) hb with ⟨c, hc, -, e⟩ | ⟨n, q, hv, e⟩
  ·rw [e];exact if_pos hc
  ·have := hV.bd _ _ _ hv;rw [e];dsimp only;rw [if_neg (by simp), if_neg (by omega)]
 ·rw [rdAny_b hb];exact if_pos hb
theorem rdText_b {s : ByteArray} {V : Nat → Option (Int × Nat)} {r : RS} (h : r.bad ≠ 0) : (rdText s V r).2 = r := by
 unfold rdText;rw [rdNum_b h];simp [rdBytes, h]
theorem rdCnt_num {s : ByteArray} {V : Nat → Option (Int × Nat)} (hV : VrOk s V) (all : Nat) (r : RS) :
  ∃ m : Nat, m ≤ all ∧ (rdNum s V 0 all r).1 = (m : Int) ∧ (rdCnt s V all r).2 = (if 0 < m ∧ m ≠ all then (rdNum s V 0 all r).2.fail 4 else (rdNum s V 0 all r).2) ∧ ((rdCnt s V all r).2.bad = 0 → (rdCnt s V all r).1 = (m : Int)) := by
 have hbd := rdNum_bd (s := s) (V := V) (lo := 0) (hi := all) r (by omega) (by omega);refine ⟨(rdNum s V 0 all r).1.toNat, by omega, by omega, ?_⟩;by_cases hb : r.bad = 0
 ·rcases rdAny_at (s := s) (V := V) hb with ⟨c, hc, -, e⟩ | ⟨n, q, hv, e⟩
  ·simp [rdNum, rdCnt, e, hc]
  ·have h0 := hV.bd _ _ _ hv;by_cases h1 : (all : Int) < n
   ·have h2 : ¬ (n = 0 ∨ n = (all : Int)) := by omega
    simp [rdNum, rdCnt, e, h1, h2]
   ·have h1' : ¬ (n < 0 ∨ (all : Int) < n) := by omega
    have e1 : rdNum s V 0 all r = (n, ⟨q, 0⟩) := by simp only [rdNum, e]; simp [h1']
    by_cases h2 : n = 0 ∨ n = (all : Int)
    ·have h3 : ¬ (0 < n.toNat ∧ n.toNat ≠ all) := by omega
     have e2 : rdCnt s V all r = (n, ⟨q, 0⟩) := by simp only [rdCnt, e]; simp [h2]
     rw [e1, e2];dsimp only;rw [if_neg h3];exact ⟨rfl, fun _ => by omega⟩
    ·have h3 : 0 < n.toNat ∧ n.toNat ≠ all := by omega
     have e2 : rdCnt s V all r = (0, ⟨q, 4⟩) := by simp only [rdCnt, e]; simp [h2]
     rw [e1, e2];dsimp only;rw [if_pos h3];exact ⟨rfl, fun h => absurd h (by decide)⟩
 ·rw [rdNum_b hb];have e2 : rdCnt s V all r = (0, r) := by simp [rdCnt, rdAny, hb]
  rw [e2];simp
theorem l3Bare_is (i0 : Int) (b1 : Bool) (i2 i6 : Int) (t : ByteArray) (o3 o4 o5 o8 o9 : Option Addr) (n3 n4 n5 n8 n9 c3 c4 c5 c8 c9 : Nat) (w : World) :
  Calls Tryz.prog 34 #[.agg #[.int .i64 i0, .bool b1, .int .i64 i2, .slice o3 n3 c3, .slice o4 n4 c4, .slice o5 n5 c5, .int .i64 i6, .string t, .slice o8 n8 c8, .slice o9 n9 c9]] w fun e w' => (∃ r, e = .returned (.bool r) ∧ (r = true ↔ (t.size = 0 ∧ n8 = 0 ∧ n9 = 0))) ∧ Below w.heap.size w w' := by
 by_cases h1 : t.size = 0
 ·by_cases h2 : n8 = 0
  ·by_cases h3 : n9 = 0
   ·go_enter Tryz.func34, Tryz.ntmps34;go_wp2_with fail;go_ret;exact ⟨⟨true, rfl, by simp [h1, h2, h3]⟩, by go_grown⟩
   ·go_enter Tryz.func34, Tryz.ntmps34;go_wp2_with fail;go_ret;exact ⟨⟨((n9 : Int) == 0), rfl, by simp [h1, h2, h3]⟩, by go_grown⟩
  ·go_enter Tryz.func34, Tryz.ntmps34;go_wp2_with fail;go_ret;exact ⟨⟨false, rfl, by simp [h1, h2]⟩, by go_grown⟩
 ·go_enter Tryz.func34, Tryz.ntmps34;go_wp2_with fail;go_ret;exact ⟨⟨false, rfl, by simp [h1]⟩, by go_grown⟩
theorem RowL.five {y : World} {R : Nat} {t : TypeId} {s : ByteArray} {r : RS} (h : RowL y R t (rC s r)) : y.cell? ⟨R, 0, none⟩ = some (.string s) ∧ y.cell? ⟨R, 1, none⟩ = some (.int .i64 (r.pos : Int)) ∧ y.cell? ⟨R, 2, none⟩ = some (.int .i64 r.bad) ∧ (∀ k, y.frozen? ⟨R, k, none⟩ = false) ∧ R < y.heap.size := ⟨h.cell 0 rfl, h.cell 1 rfl, h.cell 2 rfl, h.frozen, h.lt⟩
theorem alloc4 (w : World) (A B C D : List Value) (s t u v : TypeId) {y : World} (hy : (((w.alloc (.cells A.toArray s)).alloc (.cells B.toArray t)).alloc (.cells C.toArray u)).alloc (.cells D.toArray v) = y) : RowL y w.heap.size s A ∧ RowL y (w.heap.size + 1) t B ∧ RowL y (w.heap.size + 1 + 1) u C ∧ RowL y (w.heap.size + 1 + 1 + 1) v D ∧ Below w.heap.size w y ∧ y.heap.size = w.heap.size + 4 := by
 subst hy;refine ⟨(((RowL.new w A s).alloc _).alloc _).alloc _, ?_, ?_, ?_, by go_grown, by simp only [World.size_alloc]⟩
 · have := ((RowL.new (w.alloc (.cells A.toArray s)) B t).alloc (.cells C.toArray u)).alloc (.cells D.toArray v)
   rwa [World.size_alloc] at this
 · have := (RowL.new ((w.alloc (.cells A.toArray s)).alloc (.cells B.toArray t)) C u).alloc (.cells D.toArray v)
   rwa [World.size_alloc, World.size_alloc] at this
 · have := RowL.new (((w.alloc (.cells A.toArray s)).alloc (.cells B.toArray t)).alloc (.cells C.toArray u)) D v
   rwa [World.size_alloc, World.size_alloc, World.size_alloc] at this
theorem RowL.setRow {w : World} {b : Nat} {t : TypeId} {L : List Value} (h : RowL w b t L) (vs : List Value) (hl : vs.length = L.length) : RowL (w.setRow b vs.toArray) b t vs := by
 obtain ⟨c, hc, hs, _⟩ := h;refine ⟨vs.toArray, setRow_heap w b c _ t _ hc, by simp, fun i hi => ?_⟩;simp [hi, List.getD]
theorem RowL.rowOther {w : World} {b g : Nat} {t : TypeId} {L : List Value} (h : RowL w b t L) (hb : b ≠ g) (c : Array Value) : RowL (w.setRow g c) b t L := World.rowIs.of_block h (setRow_other _ _ _ _ hb)
theorem Ex2.rowR {R P : Nat} {a b : World} (h : Ex2 R P a b) (c : Array Value) : Ex2 R P a (b.setRow R c) :=
 ⟨h.os, h.tape, h.output, by rw [setRow_size]; exact h.size, fun i hi hR hP => (setRow_other _ _ _ _ hR).trans (h.block i hi hR hP)⟩
theorem Ex2.rowP {R P : Nat} {a b : World} (h : Ex2 R P a b) (c : Array Value) : Ex2 R P a (b.setRow P c) :=
 ⟨h.os, h.tape, h.output, by rw [setRow_size]; exact h.size, fun i hi hR hP => (setRow_other _ _ _ _ hP).trans (h.block i hi hR hP)⟩
theorem below_row {n b : Nat} {w w' : World} (h : Below n w w') (hb : n ≤ b) (c : Array Value) : Below n w (w'.setRow b c) :=
 ⟨h.os, h.tape, h.output, by rw [setRow_size]; exact h.size, fun i hi => (setRow_other _ _ _ _ (by omega)).trans (h.block i hi)⟩
theorem step_store_row {P : Program} {ops : Array Oper} {o : Oper} {a : Act} {w : World} {K : Act → World → Prop} {Q : Exit → Act → World → Prop} {E : Prop} (ty : TypeId) (x y : Operand) (hgd : o.guard = none) (ho : o.op = .store ty x y)
  (g : Nat) (cells : Array Value) (hx : a.eval x = .pointer (some ⟨g, 0, none⟩)) (hy : a.eval y = .agg cells)
  (t : TypeId) (old : Array Value) (hg : w.heap[g]? = some (.cells old t (0, 0))) (hi : (P.info? ty).map (·.size) = some cells.size)
  (hold : old.size = cells.size) (h1 : cells.all (·.oneCell') = true)
  (h : K (a.put o.dst undef) (w.setRow g cells)) : if Region.wanted o (yielded ops a.tmps) = true then Oper.wp P o a w K Q else E := by
 have hw : Region.wanted o (yielded ops a.tmps) = true := by simp [Region.wanted, hgd]
 rw [if_pos hw];exact wp_store_row ty x y ho g cells hx hy t old hg hi hold h1 h
theorem ready_storeL {P : Program} {md : Region.Mode} {ops : Array Oper} {Q : Exit → Act → World → Prop} {S : World → Prop} {fuel : Nat} {listed : Array Bool} {a : Act} {w : World} (i : Nat) {o : Oper} (hr : Region.ready md ops listed = [i]) (hi : ops[i]? = some o)
  (ty : TypeId) (x y : Operand) (hgd : o.guard = none) (ho : o.op = .store ty x y) (hd : o.dst = none)
  (g : Nat) (L vs : List Value) (hx : a.eval x = .pointer (some ⟨g, 0, none⟩)) (hy : a.eval y = .agg vs.toArray)
  (t : TypeId) (hg : RowL w g t L) (hin : (P.info? ty).map (·.size) = some vs.length)
  (hold : L.length = vs.length) (h1 : vs.all (·.oneCell') = true) (hS : S (w.setRow g vs.toArray))
  (h : wpAnyH P md ops Q S fuel (listed.setIfInBounds i true) a (w.setRow g vs.toArray)) : wpAnyH P md ops Q S (fuel + 1) listed a w := by
 obtain ⟨old, hg, ho1, _⟩ := hg;exact wpAnyH_ready hr (by simp) (AllReadyH.cons hi (fun K hK => step_store_row ty x y hgd ho g vs.toArray hx hy t old hg (by simpa using hin) (by simp; omega) (by simpa using h1) (hK.out _ _ hS (fun _ => by rw [hd]; exact h))) AllReadyH.nil)
theorem infP1 : (Tryz.prog.info? 48).map (·.size) = some 10 := by kernel_rfl
theorem infR1 : (Tryz.prog.info? 50).map (·.size) = some 3 := by kernel_rfl
end Go.Proofs.YtnhanccjnhgjoaaGreatDoor

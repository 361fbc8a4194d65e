import Derived.Test.YtpobiffihiaakaaGreatDoorLuT
import Derived.Test.YtpobiffihiaakaaGreatDoorLtN
namespace Go.Proofs.YtpobiffihiaakaaGreatDoor
open Go.RowKit
set_option linter.unusedVariables false
set_option linter.unusedSimpArgs false
set_option maxRecDepth 100000
set_option maxHeartbeats 1000000
theorem l3Up_at (b : Nat) (v : Value) (L : List Nat) (w : World) (h : w.ownsRow b 3 1 v L.length (lfC L)) (hL : L.length ≤ 1000) (hn : ∀ n ∈ L, n ≤ 1000) (hb : b ≤ w.heap.size) :
    Calls Tryz.prog 10 #[v] w fun e w' => ∃ v', e = .returned v' ∧ w'.ownsRow b 3 1 v' (upL L).length (lfC (upL L)) ∧ w.grownBy w' v.ownBlock ∧ (v'.ownBlock = v.ownBlock ∨ ∃ q, v'.ownBlock = some q ∧ w.heap.size ≤ q) := by
  obtain ⟨i0, hi, hz0, hz1, hz2⟩ := info_of infInt
  obtain ⟨ob, hob⟩ : ∃ ob, v.ownBlock = ob := ⟨_, rfl⟩
  rw [hob]
  replace h := hidR h
  replace hn := hidR hn
  replace hob := hidR hob
  go_enter Tryz.func10, Tryz.ntmps10
  go_wp2_with fail
  go_loopw [0] (fun o wr => w = wr ∧ ∃ M : List Nat, M.length ≤ L.length ∧ Hid (upL M = upL L ∧ (∀ n ∈ M, n ≤ 1000) ∧ w.ownsRow b 3 1 o M.length (lfC M) ∧ o.ownBlock = ob) ∧ ∃ oa ca, o = .slice oa M.length ca) (fun o _ => match o with | .slice _ n _ => n | _ => 0)
  case atStart =>
    obtain ⟨oa, ca, e⟩ := own_slice h.out
    exact ⟨rfl, L, Nat.le_refl _, ⟨rfl, hn.out, h.out, hob.out⟩, oa, ca, e⟩
  case round =>
    obtain ⟨rfl, M, hM, hq, oa, ca, rfl⟩ := hrel
    cases M with
    | nil =>
      go_wp2_with fail
      go_ret
      refine ⟨_, rfl, ?_, grownBy_refl _ _, .inl hq.out.2.2.2⟩
      rw [← hq.out.1]
      exact hq.out.2.2.1
    | cons n M =>
      obtain ⟨g, c9, e9, hbg, hgl⟩ := hq.out.2.2.1.form (by simp)
      simp only [Value.slice.injEq] at e9
      obtain ⟨rfl, -, rfl⟩ := e9
      have hlen : (n :: M).length = M.length + 1 := rfl
      rw [hlen] at hq hM ⊢
      have hrow := hq.out.2.2.1
      rw [lfC_cons] at hrow
      have hcell : w.cell? ⟨g, M.length, none⟩ = some (.int .i64 (n : Int)) := by
        rw [hrow.cellAt M.length (by omega), List.getElem?_append_right (by rw [lfC_len]; exact Nat.le_refl _), lfC_len]
        simp
      have hpop := hidR (own_pop hrow)
      have hn1 := hq.out.2.1 n (by simp)
      have hcap : M.length + 1 ≤ ca := by
        rcases hrow.2 with ⟨h0, _⟩ | ⟨g', cap', cur, he, _, _, hnc, _⟩
        · cases h0
        · simp only [Value.slice.injEq] at he
          omega
      have hup := hidR hq.out.1
      have hall := hidR hq.out.2.1
      have hob2 := hidR hq.out.2.2.2
      clear hrow hq
      by_cases h1 : 1 < n
      · have h1I : (1 : Int) < (n : Int) := by omega
        have e : upL (n :: M) = (n - 1) :: M := by simp [upL, h1]
        have hp2 : (0 : Int) < (n : Int) - 1 := by omega
        replace e := hidR e
        go_wp2_with (at_builtin; refine wpList_append_own_at _ rfl (.tmp 21) (.tmp 23) 32 rfl b 3 i0 (.int .i64 0) 1 8 Tryz.underlying32 hi hz0 hz1 hz2 rfl (by decide) (.slice (some ⟨g, 0, none⟩) M.length ca) M.length _ rfl (hpop.out.alloc _) ⟨w.heap.size, 0, none⟩ 1 1 [.int .i64 ((n : Int) - 1)] rfl rfl ?c1 ?c2 ?c3 ?c4 ?c5 ?_)
        case c1 => exact World.news_of_block (heap_alloc_new _ _)
        case c2 => intro u hu; simp only [List.mem_cons, List.not_mem_nil, or_false] at hu; subst hu; rfl
        case c3 => simp only [maxLen]; omega
        case c4 => omega
        case c5 => simp only [World.size_alloc]; omega
        intro v' w' hown hg _ hat
        have hfin : Hid (w'.ownsRow b 3 1 v' (upL L).length (lfC (upL L)) ∧ w.grownBy w' ob ∧ (v'.ownBlock = ob ∨ ∃ q, v'.ownBlock = some q ∧ w.heap.size ≤ q)) := by
          refine ⟨?_, ?_, ?_⟩
          · rw [← hup.out, e.out, lfC_cons, List.length_cons, show ((n - 1 : Nat) : Int) = (n : Int) - 1 by omega]
            exact hown
          · have := grownBy_alloc hg
            rw [← hob2.out]
            exact this
          · rcases hat with h | h
            · exact .inl (h.trans hob2.out)
            · exact .inr ⟨_, h, by omega⟩
        clear hown hg hat hi hz0 hz1 hz2
        obtain ⟨o9, c9, rfl⟩ := own_slice hfin.out.1
        go_wp2_with fail
        go_ret
        exact ⟨_, rfl, hfin.out.1, hfin.out.2.1, hfin.out.2.2⟩
      · have h1I : ¬ (1 : Int) < (n : Int) := by omega
        have e : upL (n :: M) = upL M := by simp [upL, h1]
        go_wp2_with fail
        go_roundw
        case rel => exact ⟨trivial, M, by omega, ⟨by rw [← e]; exact hup.out, fun k hk => hall.out k (List.mem_cons_of_mem _ hk), hpop.out, hob2.out⟩, _, _, rfl⟩
        case measure => simp
section
variable {s : ByteArray} {V : Nat → Option (Int × Nat)}
theorem Rnds.det {x y z : LS} {m n : Nat} (h : Rnds s V x y m) (k : Rnds s V x z n) (hmn : m ≤ n) : Rnds s V y z (n - m) := by
  induction h generalizing n with
  | here x => exact k
  | on hl hb h' ih =>
    cases k with
    | here => omega
    | on hl2 hb2 k' =>
      have := ih k' (by omega)
      rwa [Nat.add_sub_add_right]
theorem Rnds.stop {y z : LS} {n : Nat} (h : Rnds s V y z n) (hs : ¬ ((y.c.length : Int) < y.an ∧ (nxt s V y).2.bad = 0)) : y = z := by
  cases h with
  | here => rfl
  | on hl hb _ => exact absurd ⟨hl, hb⟩ hs
/-- two ends of one walk are the same. -/
theorem Rnds.same {x y z : LS} {m n : Nat} (h : Rnds s V x y m) (k : Rnds s V x z n) (hy : ¬ ((y.c.length : Int) < y.an ∧ (nxt s V y).2.bad = 0)) (hz : ¬ ((z.c.length : Int) < z.an ∧ (nxt s V z).2.bad = 0)) : y = z := by
  rcases Nat.le_total m n with h1 | h1
  · exact (h.det k h1).stop hy
  · exact ((k.det h h1).stop hz).symm
def ld0 : LS := ⟨⟨6, 0⟩, [], [], 1⟩
/-- where the rounds end with a fault, Load tells it. -/
theorem code_fails (hV : VrOk s V) (hh : HdrOk s) {y : LS} {n : Nat} (h : Rnds s V ld0 y n) (hl : (y.c.length : Int) < y.an) (hb : (nxt s V y).2.bad ≠ 0) : rdCode s V = (nxt s V y).2.bad := by
  have hr : rd0 s = ⟨6, 0⟩ := if_pos hh
  have T := tree_runs hV 63 0 rfl ⟨6, 0⟩ 1 [] [] rfl (by simp) rfl (by decide) (by decide) hh.1
  have F := rdTree_facts hV 64 0 ⟨6, 0⟩ 1 hh.1 (by decide) (by decide)
  have C := rdTree_count (s := s) (V := V) 63 0 rfl ⟨6, 0⟩ 1
  simp only [Nat.reduceAdd, Int.ofNat_eq_natCast, Int.natCast_zero] at T C
  unfold rdCode
  dsimp only
  rw [hr]
  by_cases h0 : (rdTree s V 64 0 ⟨6, 0⟩ 1).2.1.bad = 0
  · have e := (T.1 h0).same h (by
      simp only [List.nil_append]
      have := C h0
      omega) (fun k => hb k.2)
    rw [← e] at hl
    simp only [List.nil_append] at hl
    have := C h0
    omega
  · obtain ⟨z, m, k, kl, kb, kc⟩ := T.2 h0
    have e := k.same h (fun q => kc (kb ▸ q.2)) (fun q => hb q.2)
    subst e
    rw [kb]
    split
    · rw [RS.fail_bad h0]
    · rfl
/-- where they end without, they have read the tree. -/
theorem code_ends (hV : VrOk s V) (hh : HdrOk s) {y : LS} {n : Nat} (h : Rnds s V ld0 y n) (hl : ¬ (y.c.length : Int) < y.an) : (rdTree s V 64 0 (rd0 s) 1).1 = y.c ∧ (rdTree s V 64 0 (rd0 s) 1).2.1 = y.r ∧ y.r.bad = 0 ∧ rdCode s V = if y.r.pos < s.size then 5 else 0 := by
  have hr : rd0 s = ⟨6, 0⟩ := if_pos hh
  have T := tree_runs hV 63 0 rfl ⟨6, 0⟩ 1 [] [] rfl (by simp) rfl (by decide) (by decide) hh.1
  have C := rdTree_count (s := s) (V := V) 63 0 rfl ⟨6, 0⟩ 1
  simp only [Nat.reduceAdd, Int.ofNat_eq_natCast, Int.natCast_zero] at T C
  rw [hr]
  have h0 : (rdTree s V 64 0 ⟨6, 0⟩ 1).2.1.bad = 0 := by
    apply Classical.byContradiction
    intro h0
    obtain ⟨z, m, k, kl, kb, kc⟩ := T.2 h0
    have e := k.same h (fun q => kc (kb ▸ q.2)) (fun q => hl q.1)
    subst e
    exact hl kl
  have e := (T.1 h0).same h (by
      simp only [List.nil_append]
      have := C h0
      omega) (fun q => hl q.1)
  subst e
  refine ⟨by simp, rfl, h0, ?_⟩
  unfold rdCode
  dsimp only
  rw [hr, RS.fail_ok h0]
  split
  · rfl
  · exact h0
theorem code_nohdr (hh : ¬ HdrOk s) : rdCode s V = 1 := by
  have hr : rd0 s = ⟨0, 1⟩ := if_neg hh
  have e : (rdTree s V 64 0 ⟨0, 1⟩ 1).2.1 = ⟨0, 1⟩ := rdTree_b (by decide)
  unfold rdCode
  dsimp only
  rw [hr, e]
  split
  · rfl
  · rfl
/-- what holds between two rounds. -/
structure LInv (s : ByteArray) (x : LS) : Prop where
  bad : x.r.bad = 0
  pos : x.r.pos ≤ s.size
  an : (x.c.length : Int) ≤ x.an ∧ x.an ≤ 200
  len : x.L.length ≤ 63
  all : ∀ n ∈ x.L, n ≤ 200
theorem upL_len : ∀ L : List Nat, (upL L).length ≤ L.length
  | [] => Nat.le_refl _
  | n :: L => by
    unfold upL
    split
    · simp
    · have := upL_len L; simp; omega
theorem upL_all {b : Nat} : ∀ {L : List Nat}, (∀ n ∈ L, n ≤ b) → ∀ n ∈ upL L, n ≤ b
  | [], h => h
  | n :: L, h => by
    unfold upL
    split
    · intro k hk
      rcases List.mem_cons.1 hk with rfl | hk
      · have := h n (by simp); omega
      · exact h k (by simp [hk])
    · exact upL_all (fun k hk => h k (by simp [hk]))
theorem LInv.start (hh : HdrOk s) : LInv s ld0 := ⟨rfl, hh.1, ⟨by decide, by decide⟩, by decide, fun n h => by simp [ld0] at h⟩
theorem LInv.step (hV : VrOk s V) {x : LS} (h : LInv s x) (hl : (x.c.length : Int) < x.an) (hb : (nxt s V x).2.bad = 0) : LInv s (stp s V x) ∧ 0 ≤ (nxt s V x).1.kids ∧ (nxt s V x).1.kids ≤ 200 := by
  have hm : 0 ≤ (if (x.L.length : Int) = 63 then (0 : Int) else 200 - x.an) := by have := h.an; split <;> omega
  have F := rdPro_facts hV (G := gi0) hm h.pos
  have hF : (nxt s V x).2.pos ≤ s.size ∧ 0 ≤ (nxt s V x).1.kids ∧ (nxt s V x).1.kids ≤ (if (x.L.length : Int) = 63 then (0 : Int) else 200 - x.an) := F
  obtain ⟨f1, f2, f3⟩ := hF
  have ha := h.an
  refine ⟨⟨hb, f1, ?_, ?_, ?_⟩, f2, ?_⟩
  · show ((x.c ++ [(nxt s V x).1]).length : Int) ≤ x.an + (nxt s V x).1.kids ∧ x.an + (nxt s V x).1.kids ≤ 200
    rw [List.length_append, List.length_singleton]
    split at f3 <;> omega
  · show (if 0 < (nxt s V x).1.kids then (nxt s V x).1.kids.toNat :: x.L else upL x.L).length ≤ 63
    have := h.len
    split
    · split at f3
      · omega
      · rw [List.length_cons]; omega
    · exact Nat.le_trans (upL_len _) this
  · show ∀ n ∈ (if 0 < (nxt s V x).1.kids then (nxt s V x).1.kids.toNat :: x.L else upL x.L), n ≤ 200
    split
    · intro k hk
      rcases List.mem_cons.1 hk with rfl | hk
      · split at f3 <;> omega
      · exact h.all k hk
    · exact upL_all h.all
  · split at f3 <;> omega
theorem Rnds.snoc {x y : LS} {n : Nat} (h : Rnds s V x y n) (hl : (y.c.length : Int) < y.an) (hb : (nxt s V y).2.bad = 0) : Rnds s V x (stp s V y) (n + 1) := h.trans (.on hl hb (.here _))
end
/-- a prototype in the model's list. -/
structure MI where
  p : PR
  v3 : Value
  v4 : Value
  v5 : Value
  v8 : Value
  v9 : Value
def mC (x : MI) : List Value := [.int .i64 x.p.params, .bool x.p.vararg, .int .i64 x.p.regs, x.v3, x.v4, x.v5, .int .i64 x.p.kids, .string x.p.name, x.v8, x.v9]
/-- none of its lists lies in that block. -/
structure Off (q : Option Nat) (x : MI) : Prop where
  h3 : ∀ k, q = some k → x.v3.ownBlock ≠ some k
  h4 : ∀ k, q = some k → x.v4.ownBlock ≠ some k
  h5 : ∀ k, q = some k → x.v5.ownBlock ≠ some k
  h8 : ∀ k, q = some k → x.v8.ownBlock ≠ some k
  h9 : ∀ k, q = some k → x.v9.ownBlock ≠ some k
abbrev MOk (B : Nat) (w : World) (x : MI) : Prop := MRow B w x.v3 x.v4 x.v5 x.v8 x.v9 x.p
theorem own_keep {w w' : World} {b : Nat} {e : TypeId} {z n : Nat} {v : Value} {xs : List Value} (h : w.ownsRow b e z v n xs) (hk : ∀ k, v.ownBlock = some k → k < w.heap.size → b ≤ k → w'.heap[k]? = w.heap[k]?) : w'.ownsRow b e z v n xs := by
  refine ⟨h.1, ?_⟩
  rcases h.2 with hn | ⟨g, cap, cur, rfl, hbb, hg, rest⟩
  · exact .inl hn
  · exact .inr ⟨g, cap, cur, rfl, hbb, (hk g rfl (Array.getElem?_eq_some_iff.1 hg).1 hbb).trans hg, rest⟩
theorem own_grown {w w' : World} {b : Nat} {e : TypeId} {z n : Nat} {v : Value} {xs : List Value} {q : Option Nat} (h : w.ownsRow b e z v n xs) (hg : w.grownBy w' q) (hq : ∀ k, q = some k → v.ownBlock ≠ some k) : w'.ownsRow b e z v n xs :=
  own_keep h fun k hk hl _ => hg.block k hl (fun e => hq k (by first | exact e | exact e.symm) hk)
theorem own_set {w : World} {b : Nat} {e : TypeId} {z n : Nat} {v : Value} {xs : List Value} (h : w.ownsRow b e z v n xs) {a : Addr} (ha : a.block < b) (u : Value) : (w.setCell a u).ownsRow b e z v n xs :=
  own_keep h fun k hk hl hb => Below.heap_setCell _ _ _ _ (by omega)
theorem own_below {w w' : World} {b : Nat} {e : TypeId} {z n : Nat} {v : Value} {xs : List Value} (h : w.ownsRow b e z v n xs) (hb : Below w.heap.size w w') : w'.ownsRow b e z v n xs :=
  own_keep h fun k hk hl _ => hb.block k hl
theorem MRow.low {B B2 : Nat} {w : World} {v3 v4 v5 v8 v9 : Value} {p : PR} (h : MRow B w v3 v4 v5 v8 v9 p) (hb : B2 ≤ B) : MRow B2 w v3 v4 v5 v8 v9 p := ⟨own_low h.o3 hb, own_low h.o4 hb, own_low h.o5 hb, own_low h.o8 hb, own_low h.o9 hb⟩
theorem MRow.below {B : Nat} {w w' : World} {v3 v4 v5 v8 v9 : Value} {p : PR} (h : MRow B w v3 v4 v5 v8 v9 p) (hb : Below w.heap.size w w') : MRow B w' v3 v4 v5 v8 v9 p := ⟨own_below h.o3 hb, own_below h.o4 hb, own_below h.o5 hb, own_below h.o8 hb, own_below h.o9 hb⟩
theorem MRow.set {B : Nat} {w : World} {v3 v4 v5 v8 v9 : Value} {p : PR} (h : MRow B w v3 v4 v5 v8 v9 p) {a : Addr} (ha : a.block < B) (u : Value) : MRow B (w.setCell a u) v3 v4 v5 v8 v9 p := ⟨own_set h.o3 ha u, own_set h.o4 ha u, own_set h.o5 ha u, own_set h.o8 ha u, own_set h.o9 ha u⟩
theorem MOk.grown {B : Nat} {w w' : World} {x : MI} {q : Option Nat} (h : MOk B w x) (hg : w.grownBy w' q) (ho : Off q x) : MOk B w' x := ⟨own_grown h.o3 hg ho.h3, own_grown h.o4 hg ho.h4, own_grown h.o5 hg ho.h5, own_grown h.o8 hg ho.h8, own_grown h.o9 hg ho.h9⟩
/-- a block that came later than a prototype's lists is none of theirs. -/
theorem Off.new {B : Nat} {w : World} {x : MI} {q : Option Nat} (h : MOk B w x) (hq : ∀ k, q = some k → w.heap.size ≤ k) : Off q x :=
  ⟨fun k e c => by have := (h.o3.lt k c).2; have := hq k e; omega, fun k e c => by have := (h.o4.lt k c).2; have := hq k e; omega, fun k e c => by have := (h.o5.lt k c).2; have := hq k e; omega, fun k e c => by have := (h.o8.lt k c).2; have := hq k e; omega, fun k e c => by have := (h.o9.lt k c).2; have := hq k e; omega⟩
/-- nor is one that was there before they came. -/
theorem Off.old {B : Nat} {w : World} {x : MI} {q : Option Nat} (h : MOk B w x) (hq : ∀ k, q = some k → k < B) : Off q x :=
  ⟨fun k e c => by have := (h.o3.lt k c).1; have := hq k e; omega, fun k e c => by have := (h.o4.lt k c).1; have := hq k e; omega, fun k e c => by have := (h.o5.lt k c).1; have := hq k e; omega, fun k e c => by have := (h.o8.lt k c).1; have := hq k e; omega, fun k e c => by have := (h.o9.lt k c).1; have := hq k e; omega⟩
theorem own_is {y : World} {b : Nat} {e : TypeId} {z n : Nat} {v : Value} {xs : List Value} {C : Nat → Nat → Value} (h : y.ownsRow b e z v n xs) (hC : ∀ i, i < n → ∀ j, j < z → xs[i * z + j]? = some (C i j)) : IsArr (· < y.heap.size) y v z n C := by
  have hn : n ≤ 9223372036854775807 := by
    rcases h.2 with ⟨rfl, rfl⟩ | ⟨g, cap, cur, rfl, hbb, hg, hnc, hcm, hcs, htk⟩
    · decide
    · exact Nat.le_trans hnc hcm
  obtain ⟨B, hB, hb⟩ := own_arr h hn hC
  obtain ⟨ao, cap, rfl, h1, h2⟩ := hB.is
  refine ⟨ao, cap, rfl, h1, fun h0 => ?_⟩
  obtain ⟨b', o, e1, e2, e3⟩ := h2 h0
  exact ⟨b', o, e1, by rw [e2]; exact (h.lt B (hb h0)).2, e3⟩
theorem MOk.is {B : Nat} {y : World} {x : MI} (h : MOk B y x) (ht : TextP (pdOf x.p)) : IsProto (· < y.heap.size) y x.v3 x.v4 x.v5 x.v8 x.v9 (pdOf x.p) := by
  refine ⟨own_is h.o3 (fun i hi j hj => ?_), ⟨own_is h.o4 (fun i hi j hj => ?_), ?_⟩, own_is h.o5 (fun i hi j hj => ?_), own_is h.o8 (fun i hi j hj => ?_), ⟨own_is h.o9 (fun i hi j hj => ?_), ?_⟩, ?_⟩
  · replace hi : i < x.p.code.length := hi
    rw [flat_get cCode 1 (fun _ => rfl) _ i j hi hj]
    obtain rfl : j = 0 := by omega
    simp [cCode, iC, pdOf, hi]
  · replace hi : i < x.p.consts.length := hi
    rw [flat_get cConsts 3 (fun _ => rfl) _ i j hi hj]
    have : j = 0 ∨ j = 1 ∨ j = 2 := by omega
    rcases this with rfl | rfl | rfl <;> simp [cConsts, vC, pdOf, slL, hi]
  · exact ht.2
  · replace hi : i < x.p.ups.length := hi
    rw [flat_get cUps 2 (fun _ => rfl) _ i j hi hj]
    have : j = 0 ∨ j = 1 := by omega
    rcases this with rfl | rfl <;> simp [cUps, uC, pdOf, slL, hi]
  · replace hi : i < x.p.lines.length := hi
    rw [flat_get cLines 1 (fun _ => rfl) _ i j hi hj]
    obtain rfl : j = 0 := by omega
    simp [cLines, iC, pdOf, slL, hi]
  · replace hi : i < x.p.upNames.length := hi
    rw [flat_get cNames 1 (fun _ => rfl) _ i j hi hj]
    obtain rfl : j = 0 := by omega
    simp [cNames, sC, pdOf, slL, hi]
  · exact ht.3
  · exact ht.1
/-- the list as the prototypes of a chunk. -/
theorem protos_is {B : Nat} {y : World} {v : Value} {its : List MI} {d : PR} (h : y.ownsRow B 38 10 v its.length (its.flatMap mC)) (hi : ∀ x ∈ its, MOk B y x) (ht : ∀ i, i < its.length → TextP (pdOf ((its.map (·.p)).getD i d))) :
    IsProtos (· < y.heap.size) y v ⟨its.length, fun i => pdOf ((its.map (·.p)).getD i d)⟩ := by
  have hf : ∀ i (hi : i < its.length), (its.map (·.p)).getD i d = its[i].p := fun i hi => by simp [List.getD, hi]
  refine ⟨fun i => if h : i < its.length then its[i].v3 else .slice none 0 0, fun i => if h : i < its.length then its[i].v4 else .slice none 0 0, fun i => if h : i < its.length then its[i].v5 else .slice none 0 0, fun i => if h : i < its.length then its[i].v8 else .slice none 0 0, fun i => if h : i < its.length then its[i].v9 else .slice none 0 0, own_is h (fun i hi' j hj => ?_), fun i hi' => ?_⟩
  · rw [flat_get mC 10 (fun _ => rfl) _ i j hi' hj]
    have : j = 0 ∨ j = 1 ∨ j = 2 ∨ j = 3 ∨ j = 4 ∨ j = 5 ∨ j = 6 ∨ j = 7 ∨ j = 8 ∨ j = 9 := by omega
    rcases this with rfl | rfl | rfl | rfl | rfl | rfl | rfl | rfl | rfl | rfl <;> simp [mC, pC, hi', pdOf]
  · dsimp only
    rw [dif_pos hi', dif_pos hi', dif_pos hi', dif_pos hi', dif_pos hi', hf i hi']
    exact (hi _ (List.getElem_mem hi')).is (by rw [← hf i hi']; exact ht i hi')
end Go.Proofs.YtpobiffihiaakaaGreatDoor

import Derived.Test.YtnhanccjnhgjoaaGreatDoorLuT
import Derived.Test.YtnhanccjnhgjoaaGreatDoorGa
namespace Go.Proofs.YtnhanccjnhgjoaaGreatDoor
open Go.RowKit
set_option linter.unusedVariables false
set_option linter.unusedSimpArgs false
set_option maxRecDepth 100000
set_option maxHeartbeats 9000000
theorem l3Up_at (b : Nat) (v : Value) (L : List Nat) (w : World) (h : w.ownsRow b 3 1 v L.length (lfC L)) (hL : L.length ≤ 1000) (hn : ∀ n ∈ L, n ≤ 1000) (hb : b ≤ w.heap.size) :
  Calls Tryz.prog 19 #[v] w fun e w' => ∃ v', e = .returned v' ∧ w'.ownsRow b 3 1 v' (upLL L).length (lfC (upLL L)) ∧ w.grownBy w' v.ownBlock ∧ (v'.ownBlock = v.ownBlock ∨ ∃ q, v'.ownBlock = some q ∧ w.heap.size ≤ q) := by
 obtain ⟨i0, hi, hz0, hz1, hz2⟩ := info_of infInt;obtain ⟨ob, hob⟩ : ∃ ob, v.ownBlock = ob := ⟨_, rfl⟩;rw [hob];replace h := hidR h;replace hn := hidR hn;replace hob := hidR hob;go_enter Tryz.func19, Tryz.ntmps19;go_wp2_with fail;go_loopw [0] (fun o wr => w = wr ∧ ∃ M : List Nat, M.length ≤ L.length ∧ Hid (upLL M = upLL L ∧ (∀ n ∈ M, n ≤ 1000) ∧ w.ownsRow b 3 1 o M.length (lfC M) ∧ o.ownBlock = ob) ∧ ∃ oa ca, o = .slice oa M.length ca) (fun o _ => match o with | .slice _ n _ => n | _ => 0)
 case atStart =>
  obtain ⟨oa, ca, e⟩ := own_slL h.out;exact ⟨rfl, L, Nat.le_refl _, ⟨rfl, hn.out, h.out, hob.out⟩, oa, ca, e⟩
 case round =>
  obtain ⟨rfl, M, hM, hq, oa, ca, rfl⟩ := hrel
  cases M with
  | nil =>
   go_wp2_with fail;go_ret;refine ⟨_, rfl, ?_, grownBy_refl _ _, .inl hq.out.2.2.2⟩;rw [← hq.out.1];exact hq.out.2.2.1
  | cons n M =>
   obtain ⟨g, c9, e9, hbg, hgl⟩ := hq.out.2.2.1.form (by simp);simp only [Value.slice.injEq] at e9;obtain ⟨rfl, -, rfl⟩ := e9;have hlen : (n :: M).length = M.length + 1 := rfl;rw [hlen] at hq hM ⊢;have hrow := hq.out.2.2.1;rw [lfC_cons] at hrow
   have hcell : w.cell? ⟨g, M.length, none⟩ = some (.int .i64 (n : Int)) := by
    rw [hrow.cellAt M.length (by omega), List.getElem?_append_right (by rw [lfC_len]; exact Nat.le_refl _), lfC_len];simp
   have hpop := hidR (own_pop hrow);have hn1 := hq.out.2.1 n (by simp)
   have hcap : M.length + 1 ≤ ca := by
    rcases hrow.2 with ⟨h0, _⟩ | ⟨g', cap', cur, he, _, _, hnc, _⟩
    ·cases h0
    ·simp only [Value.slice.injEq] at he;omega
   have hup := hidR hq.out.1;have hall := hidR hq.out.2.1;have hob2 := hidR hq.out.2.2.2;clear hrow hq;by_cases h1 : 1 < n
   ·have h1I : (1 : Int) < (n : Int) := by omega
    have e : upLL (n :: M) = (n - 1) :: M := by simp [upLL, h1]
    have hp2 : (0 : Int) < (n : Int) - 1 := by omega
    replace e := hidR e;go_wp2_with (at_builtin; refine wpList_append_own_at _ rfl (.tmp 21) (.tmp 23) 45 rfl b 3 i0 (.int .i64 0) 1 8 Tryz.underlying45 hi hz0 hz1 hz2 rfl (by decide) (.slice (some ⟨g, 0, none⟩) M.length ca) M.length _ rfl (hpop.out.alloc _) ⟨w.heap.size, 0, none⟩ 1 1 [.int .i64 ((n : Int) - 1)] rfl rfl ?c1 ?c2 ?c3 ?c4 ?c5 ?_);case c1 => exact World.news_of_block (heap_alloc_new _ _)
    case c2 => intro u hu; simp only [List.mem_cons, List.not_mem_nil, or_false] at hu; subst hu; rfl
    case c3 => simp only [maxLen]; omega
    case c4 => omega
    case c5 => simp only [World.size_alloc]; omega
    intro v' w' hown hg _ hat
    have hfin : Hid (w'.ownsRow b 3 1 v' (upLL L).length (lfC (upLL L)) ∧ w.grownBy w' ob ∧ (v'.ownBlock = ob ∨ ∃ q, v'.ownBlock = some q ∧ w.heap.size ≤ q)) := by
     refine ⟨?_, ?_, ?_⟩
     ·rw [← hup.out, e.out, lfC_cons, List.length_cons, show ((n - 1 : Nat) : Int) = (n : Int) - 1 by omega];exact hown
     ·have := grownBy_alloc hg;rw [← hob2.out];exact this
     ·rcases hat with h | h
      ·exact .inl (h.trans hob2.out)
      ·exact .inr ⟨_, h, by omega⟩
    clear hown hg hat hi hz0 hz1 hz2;obtain ⟨o9, c9, rfl⟩ := own_slL hfin.out.1;go_wp2_with fail;go_ret;exact ⟨_, rfl, hfin.out.1, hfin.out.2.1, hfin.out.2.2⟩
   ·have h1I : ¬ (1 : Int) < (n : Int) := by omega
    have e : upLL (n :: M) = upLL M := by simp [upLL, h1]
    go_wp2_with fail;go_roundw;case rel => exact ⟨trivial, M, by omega, ⟨by rw [← e]; exact hup.out, fun k hk => hall.out k (List.mem_cons_of_mem _ hk), hpop.out, hob2.out⟩, _, _, rfl⟩
    case measure => simp
section
variable {s : ByteArray} {V : Nat → Option (Int × Nat)}
theorem Rnds.det {x y z : LS} {m n : Nat} (h : Rnds s V x y m) (k : Rnds s V x z n) (hmn : m ≤ n) : Rnds s V y z (n - m) := by
 induction h generalizing n with
 | here x => exact k
 | on hl hb h' ih =>
  cases k with
  | here => omega
  | on hl2 hb2 k' =>
   have := ih k' (by omega)
   rwa [Nat.add_sub_add_right]
theorem Rnds.stop {y z : LS} {n : Nat} (h : Rnds s V y z n) (hs : ¬ ((y.c.length : Int) < y.an ∧ (nxt s V y).2.bad = 0)) : y = z := by
 cases h with
 | here => rfl
 | on hl hb _ => exact absurd ⟨hl, hb⟩ hs
theorem Rnds.same {x y z : LS} {m n : Nat} (h : Rnds s V x y m) (k : Rnds s V x z n) (hy : ¬ ((y.c.length : Int) < y.an ∧ (nxt s V y).2.bad = 0)) (hz : ¬ ((z.c.length : Int) < z.an ∧ (nxt s V z).2.bad = 0)) : y = z := by
 rcases Nat.le_total m n with h1 | h1
 ·exact (h.det k h1).stop hy
 ·exact ((k.det h h1).stop hz).symm
def ld0 : LS := ⟨⟨6, 0⟩, [], [], 1⟩
theorem code_fails (hV : VrOk s V) (hh : HdrOk s) {y : LS} {n : Nat} (h : Rnds s V ld0 y n) (hl : (y.c.length : Int) < y.an) (hb : (nxt s V y).2.bad ≠ 0) : rdCode s V = (nxt s V y).2.bad := by
 have hr : rd0 s = ⟨6, 0⟩ := if_pos hh;have T := tree_runs hV 63 0 rfl ⟨6, 0⟩ 1 [] [] rfl (by simp) rfl (by decide) (by decide) hh.1;have F := rdTree_facts hV 64 0 ⟨6, 0⟩ 1 hh.1 (by decide) (by decide);have C := rdTree_count (s := s) (V := V) 63 0 rfl ⟨6, 0⟩ 1;simp only [Nat.reduceAdd, Int.ofNat_eq_natCast, Int.natCast_zero] at T C;unfold rdCode;dsimp only;rw [hr];by_cases h0 : (rdTree s V 64 0 ⟨6, 0⟩ 1).2.1.bad = 0
 ·have e := (T.1 h0).same h (by
   simp only [List.nil_append];have := C h0;omega) (fun k => hb k.2)
  rw [← e] at hl;simp only [List.nil_append] at hl;have := C h0;omega
 ·obtain ⟨z, m, k, kl, kb, kc⟩ := T.2 h0;have e := k.same h (fun q => kc (kb ▸ q.2)) (fun q => hb q.2);subst e;rw [kb];split
  ·rw [RS.fail_bad h0]
  ·rfl
theorem code_ends (hV : VrOk s V) (hh : HdrOk s) {y : LS} {n : Nat} (h : Rnds s V ld0 y n) (hl : ¬ (y.c.length : Int) < y.an) : (rdTree s V 64 0 (rd0 s) 1).1 = y.c ∧ (rdTree s V 64 0 (rd0 s) 1).2.1 = y.r ∧ y.r.bad = 0 ∧ rdCode s V = if y.r.pos < s.size then 5 else 0 := by
 have hr : rd0 s = ⟨6, 0⟩ := if_pos hh;have T := tree_runs hV 63 0 rfl ⟨6, 0⟩ 1 [] [] rfl (by simp) rfl (by decide) (by decide) hh.1;have C := rdTree_count (s := s) (V := V) 63 0 rfl ⟨6, 0⟩ 1;simp only [Nat.reduceAdd, Int.ofNat_eq_natCast, Int.natCast_zero] at T C;rw [hr]
 have h0 : (rdTree s V 64 0 ⟨6, 0⟩ 1).2.1.bad = 0 := by
  apply Classical.byContradiction;intro h0;obtain ⟨z, m, k, kl, kb, kc⟩ := T.2 h0;have e := k.same h (fun q => kc (kb ▸ q.2)) (fun q => hl q.1);subst e;exact hl kl
 have e := (T.1 h0).same h (by
   simp only [List.nil_append];have := C h0;omega) (fun q => hl q.1)
 subst e;refine ⟨by simp, rfl, h0, ?_⟩;unfold rdCode;dsimp only;rw [hr, RS.fail_ok h0];split
 ·rfl
 ·exact h0
theorem code_nohdr (hh : ¬ HdrOk s) : rdCode s V = 1 := by
 have hr : rd0 s = ⟨0, 1⟩ := if_neg hh;have e : (rdTree s V 64 0 ⟨0, 1⟩ 1).2.1 = ⟨0, 1⟩ := rdTree_b (by decide);unfold rdCode;dsimp only;rw [hr, e];split
 ·rfl
 ·rfl
structure LInv (s : ByteArray) (x : LS) : Prop where
 bad : x.r.bad = 0
 pos : x.r.pos ≤ s.size
 an : (x.c.length : Int) ≤ x.an ∧ x.an ≤ 200
 len : x.L.length ≤ 63
 all : ∀ n ∈ x.L, n ≤ 200
theorem upLL_len : ∀ L : List Nat, (upLL L).length ≤ L.length
 | [] => Nat.le_refl _
 | n :: L => by
  unfold upLL;split
  ·simp
  ·have := upLL_len L; simp; omega
theorem upLL_all {b : Nat} : ∀ {L : List Nat}, (∀ n ∈ L, n ≤ b) → ∀ n ∈ upLL L, n ≤ b
 | [], h => h
 | n :: L, h => by
  unfold upLL;split
  ·intro k hk;rcases List.mem_cons.1 hk with rfl | hk
   ·have := h n (by simp); omega
   ·exact h k (by simp [hk])
  ·exact upLL_all (fun k hk => h k (by simp [hk]))
theorem LInv.start (hh : HdrOk s) : LInv s ld0 := ⟨rfl, hh.1, ⟨by decide, by decide⟩, by decide, fun n h => by simp [ld0] at h⟩
theorem LInv.step (hV : VrOk s V) {x : LS} (h : LInv s x) (hl : (x.c.length : Int) < x.an) (hb : (nxt s V x).2.bad = 0) : LInv s (stp s V x) ∧ 0 ≤ (nxt s V x).1.kids ∧ (nxt s V x).1.kids ≤ 200 := by
 have hm : 0 ≤ (if (x.L.length : Int) = 63 then (0 : Int) else 200 - x.an) := by have := h.an; split <;> omega
 have F := rdPro_facts hV (G := gi0) hm h.pos;have hF : (nxt s V x).2.pos ≤ s.size ∧ 0 ≤ (nxt s V x).1.kids ∧ (nxt s V x).1.kids ≤ (if (x.L.length : Int) = 63 then (0 : Int) else 200 - x.an) := F;obtain ⟨f1, f2, f3⟩ := hF;have ha := h.an;refine ⟨⟨hb, f1, ?_, ?_, ?_⟩, f2, ?_⟩
 ·show ((x.c ++ [(nxt s V x).1]).length : Int) ≤ x.an + (nxt s V x).1.kids ∧ x.an + (nxt s V x).1.kids ≤ 200;rw [List.length_append, List.length_singleton];split at f3 <;> omega
 ·show (if 0 < (nxt s V x).1.kids then (nxt s V x).1.kids.toNat :: x.L else upLL x.L).length ≤ 63;have := h.len;split
  ·split at f3
   ·omega
   ·rw [List.length_cons]; omega
  ·exact Nat.le_trans (upLL_len _) this
 ·show ∀ n ∈ (if 0 < (nxt s V x).1.kids then (nxt s V x).1.kids.toNat :: x.L else upLL x.L), n ≤ 200;split
  ·intro k hk;rcases List.mem_cons.1 hk with rfl | hk
   ·split at f3 <;> omega
   ·exact h.all k hk
  ·exact upLL_all h.all
 ·split at f3 <;> omega
theorem Rnds.snoc {x y : LS} {n : Nat} (h : Rnds s V x y n) (hl : (y.c.length : Int) < y.an) (hb : (nxt s V y).2.bad = 0) : Rnds s V x (stp s V y) (n + 1) := h.trans (.on hl hb (.here _))
end
structure MI where
 p : PR
 v3 : Value
 v4 : Value
 v5 : Value
 v8 : Value
 v9 : Value
def mC (x : MI) : List Value := [.int .i64 x.p.params, .bool x.p.vararg, .int .i64 x.p.regs, x.v3, x.v4, x.v5, .int .i64 x.p.kids, .string x.p.name, x.v8, x.v9]
structure Off (q : Option Nat) (x : MI) : Prop where
 h3 : ∀ k, q = some k → x.v3.ownBlock ≠ some k
 h4 : ∀ k, q = some k → x.v4.ownBlock ≠ some k
 h5 : ∀ k, q = some k → x.v5.ownBlock ≠ some k
 h8 : ∀ k, q = some k → x.v8.ownBlock ≠ some k
 h9 : ∀ k, q = some k → x.v9.ownBlock ≠ some k
abbrev MOk (B : Nat) (w : World) (x : MI) : Prop := MRow B w x.v3 x.v4 x.v5 x.v8 x.v9 x.p
theorem own_keepL {w w' : World} {b : Nat} {e : TypeId} {z n : Nat} {v : Value} {xs : List Value} (h : w.ownsRow b e z v n xs) (hk : ∀ k, v.ownBlock = some k → k < w.heap.size → b ≤ k → w'.heap[k]? = w.heap[k]?) : w'.ownsRow b e z v n xs := by
 refine ⟨h.1, ?_⟩;rcases h.2 with hn | ⟨g, cap, cur, rfl, hbb, hg, rest⟩
 ·exact .inl hn
 ·exact .inr ⟨g, cap, cur, rfl, hbb, (hk g rfl (Array.getElem?_eq_some_iff.1 hg).1 hbb).trans hg, rest⟩
theorem own_grown {w w' : World} {b : Nat} {e : TypeId} {z n : Nat} {v : Value} {xs : List Value} {q : Option Nat} (h : w.ownsRow b e z v n xs) (hg : w.grownBy w' q) (hq : ∀ k, q = some k → v.ownBlock ≠ some k) : w'.ownsRow b e z v n xs :=
 own_keepL h fun k hk hl _ => hg.block k hl (fun e => hq k (by first | exact e | exact e.symm) hk)
theorem own_set {w : World} {b : Nat} {e : TypeId} {z n : Nat} {v : Value} {xs : List Value} (h : w.ownsRow b e z v n xs) {a : Addr} (ha : a.block < b) (u : Value) : (w.setCell a u).ownsRow b e z v n xs :=
 own_keepL h fun k hk hl hb => Below.heap_setCell _ _ _ _ (by omega)
theorem own_belowL {w w' : World} {b : Nat} {e : TypeId} {z n : Nat} {v : Value} {xs : List Value} (h : w.ownsRow b e z v n xs) (hb : Below w.heap.size w w') : w'.ownsRow b e z v n xs :=
 own_keepL h fun k hk hl _ => hb.block k hl
theorem MRow.low {B B2 : Nat} {w : World} {v3 v4 v5 v8 v9 : Value} {p : PR} (h : MRow B w v3 v4 v5 v8 v9 p) (hb : B2 ≤ B) : MRow B2 w v3 v4 v5 v8 v9 p := ⟨own_low h.o3 hb, own_low h.o4 hb, own_low h.o5 hb, own_low h.o8 hb, own_low h.o9 hb⟩
theorem MRow.below {B : Nat} {w w' : World} {v3 v4 v5 v8 v9 : Value} {p : PR} (h : MRow B w v3 v4 v5 v8 v9 p) (hb : Below w.heap.size w w') : MRow B w' v3 v4 v5 v8 v9 p := ⟨own_belowL h.o3 hb, own_belowL h.o4 hb, own_belowL h.o5 hb, own_belowL h.o8 hb, own_belowL h.o9 hb⟩
theorem MRow.set {B : Nat} {w : World} {v3 v4 v5 v8 v9 : Value} {p : PR} (h : MRow B w v3 v4 v5 v8 v9 p) {a : Addr} (ha : a.block < B) (u : Value) : MRow B (w.setCell a u) v3 v4 v5 v8 v9 p := ⟨own_set h.o3 ha u, own_set h.o4 ha u, own_set h.o5 ha u, own_set h.o8 ha u, own_set h.o9 ha u⟩
theorem MOk.grown {B : Nat} {w w' : World} {x : MI} {q : Option Nat} (h : MOk B w x) (hg : w.grownBy w' q) (ho : Off q x) : MOk B w' x := ⟨own_grown h.o3 hg ho.h3, own_grown h.o4 hg ho.h4, own_grown h.o5 hg ho.h5, own_grown h.o8 hg ho.h8, own_grown h.o9 hg ho.h9⟩
theorem Off.new {B : Nat} {w : World} {x : MI} {q : Option Nat} (h : MOk B w x) (hq : ∀ k, q = some k → w.heap.size ≤ k) : Off q x :=
 ⟨fun k e c => by have := (h.o3.lt k c).2; have := hq k e; omega, fun k e c => by have := (h.o4.lt k c).2; have := hq k e; omega, fun k e c => by have := (h.o5.lt k c).2; have := hq k e; omega, fun k e c => by have := (h.o8.lt k c).2; have := hq k e; omega, fun k e c => by have := (h.o9.lt k c).2; have := hq k e; omega⟩
theorem Off.old {B : Nat} {w : World} {x : MI} {q : Option Nat} (h : MOk B w x) (hq : ∀ k, q = some k → k < B) : Off q x :=
 ⟨fun k e c => by have := (h.o3.lt k c).1; have := hq k e; omega, fun k e c => by have := (h.o4.lt k c).1; have := hq k e; omega, fun k e c => by have := (h.o5.lt k c).1; have := hq k e; omega, fun k e c => by have := (h.o8.lt k c).1; have := hq k e; omega, fun k e c => by have := (h.o9.lt k c).1; have := hq k e; omega⟩
structure LdW (w wr : World) (s : ByteArray) (r : RS) (c : List PR) (L : List Nat) (lv v : Value) (its : List MI) : Prop where
 hR : RowL wr (w.heap.size + 1) 50 (rC s r)
 hC : RowL wr (w.heap.size + 1 + 1) 26 [v]
 hO : RowL wr w.heap.size 26 [.slice none 0 0]
 left : wr.ownsRow (w.heap.size + 3) 3 1 lv L.length (lfC L)
 prot : wr.ownsRow (w.heap.size + 3) 48 10 v its.length (its.flatMap mC)
 ps : its.map (·.p) = c
 all : ∀ it ∈ its, MOk (w.heap.size + 3) wr it ∧ Off v.ownBlock it ∧ Off lv.ownBlock it
 apart : ∀ k, lv.ownBlock = some k → v.ownBlock ≠ some k
 bw : Below w.heap.size w wr
section
variable {w y y' : World} {s : ByteArray} {r : RS} {c : List PR} {L : List Nat} {lv v : Value} {its : List MI}
theorem LdW.big (h : LdW w y s r c L lv v its) : w.heap.size + 3 ≤ y.heap.size := by have := h.hC.lt; omega
theorem LdW.call (h : LdW w y s r c L lv v its) (hb : Below y.heap.size y y') : LdW w y' s r c L lv v its :=
 ⟨h.hR.call hb, h.hC.call hb, h.hO.call hb, own_belowL h.left hb, own_belowL h.prot hb, h.ps, fun it hi => ⟨(h.all it hi).1.below hb, (h.all it hi).2⟩, h.apart, h.bw.trans (hb.mono h.bw.size)⟩
theorem LdW.setR (h : LdW w y s r c L lv v its) (r1 : RS) : LdW w (((y.setCell ⟨w.heap.size + 1, 0, none⟩ (.string s)).setCell ⟨w.heap.size + 1, 1, none⟩ (.int .i64 (r1.pos : Int))).setCell ⟨w.heap.size + 1, 2, none⟩ (.int .i64 r1.bad)) s r1 c L lv v its := by
 refine ⟨rC_put h.hR r1, h.hC.put (by omega) _ _ _, h.hO.put (by omega) _ _ _, ?_, ?_, h.ps, fun it hi => ⟨?_, (h.all it hi).2⟩, h.apart, ?_⟩
 ·exact own_set (own_set (own_set h.left (a := ⟨w.heap.size + 1, 0, none⟩) (by simp only []; omega) _) (a := ⟨w.heap.size + 1, 1, none⟩) (by simp only []; omega) _) (a := ⟨w.heap.size + 1, 2, none⟩) (by simp only []; omega) _
 ·exact own_set (own_set (own_set h.prot (a := ⟨w.heap.size + 1, 0, none⟩) (by simp only []; omega) _) (a := ⟨w.heap.size + 1, 1, none⟩) (by simp only []; omega) _) (a := ⟨w.heap.size + 1, 2, none⟩) (by simp only []; omega) _
 ·exact (((h.all it hi).1.set (a := ⟨w.heap.size + 1, 0, none⟩) (by simp only []; omega) _).set (a := ⟨w.heap.size + 1, 1, none⟩) (by simp only []; omega) _).set (a := ⟨w.heap.size + 1, 2, none⟩) (by simp only []; omega) _
 ·exact Below.setCell (Below.setCell (Below.setCell h.bw (p := ⟨w.heap.size + 1, 0, none⟩) (by simp only []; omega) _) (p := ⟨w.heap.size + 1, 1, none⟩) (by simp only []; omega) _) (p := ⟨w.heap.size + 1, 2, none⟩) (by simp only []; omega) _
theorem below_grown {n : Nat} {a b b' : World} {q : Option Nat} (h : Below n a b) (hg : b.grownBy b' q) (hq : ∀ k, q = some k → n ≤ k) (hn : n ≤ b.heap.size) : Below n a b' :=
 ⟨hg.os.trans h.os, hg.tape.trans h.tape, hg.output.trans h.output, Nat.le_trans h.size hg.size, fun i hi => (hg.block i (by omega) (fun e => by have := hq i (by first | exact e | exact e.symm); omega)).trans (h.block i hi)⟩
theorem LdW.app (h : LdW w y s r c L lv v its) {it : MI} {v' : Value} (hm : MOk (w.heap.size + 3) y it) (o1 : Off v.ownBlock it) (o2 : Off lv.ownBlock it)
  (hown : y'.ownsRow (w.heap.size + 3) 48 10 v' (its.length + 1) (its.flatMap mC ++ mC it)) (hg : y.grownBy y' v.ownBlock) (hat : v'.ownBlock = v.ownBlock ∨ ∃ q, v'.ownBlock = some q ∧ y.heap.size ≤ q) :
  LdW w (y'.setCell ⟨w.heap.size + 1 + 1, 0, none⟩ v') s r (c ++ [it.p]) L lv v' (its ++ [it]) := by
 have hb := own_base h.prot
 have off : ∀ x, MOk (w.heap.size + 3) y x → Off v.ownBlock x → Off v'.ownBlock x := fun x hx ho => by
  rcases hat with e | ⟨q, e, hq⟩
  ·rw [e]; exact ho
  ·exact Off.new hx (fun k hk => by rw [e] at hk; cases hk; exact hq)
 have hall : ∀ x, MOk (w.heap.size + 3) y x → Off v.ownBlock x → Off lv.ownBlock x → MOk (w.heap.size + 3) (y'.setCell ⟨w.heap.size + 1 + 1, 0, none⟩ v') x ∧ Off v'.ownBlock x ∧ Off lv.ownBlock x := fun x hx ho hl =>
  ⟨(hx.grown hg ho).set (a := ⟨w.heap.size + 1 + 1, 0, none⟩) (by simp only []; omega) _, off x hx ho, hl⟩
 refine ⟨(row_grown h.hR hg (fun e => by have := hb _ e; omega)).other (a := ⟨w.heap.size + 1 + 1, 0, none⟩) (by simp) _, (row_grown h.hC hg (fun e => by have := hb _ e; omega)).set 0 v', (row_grown h.hO hg (fun e => by have := hb _ e; omega)).other (a := ⟨w.heap.size + 1 + 1, 0, none⟩) (show w.heap.size ≠ w.heap.size + 1 + 1 by omega) _, ?_, ?_, ?_, ?_, ?_, ?_⟩
 ·exact own_set (own_grown h.left hg (fun k e e2 => h.apart k e2 e)) (a := ⟨w.heap.size + 1 + 1, 0, none⟩) (by simp only []; omega) _
 ·rw [List.length_append, List.flatMap_append, List.flatMap_singleton];exact own_set hown (a := ⟨w.heap.size + 1 + 1, 0, none⟩) (by simp only []; omega) _
 ·rw [List.map_append, h.ps]; rfl
 ·intro x hx;rcases List.mem_append.1 hx with hx | hx
  ·exact hall x (h.all x hx).1 (h.all x hx).2.1 (h.all x hx).2.2
  ·rw [List.mem_singleton.1 hx];exact hall it hm o1 o2
 ·intro k hk;rcases hat with e | ⟨q, e, hq⟩
  ·rw [e]; exact h.apart k hk
  ·rw [e];intro e2;have e3 : q = k := Option.some.inj e2;have := (h.left.lt k hk).2;omega
 ·exact Below.setCell (below_grown h.bw hg (fun k e => by have := hb k e; omega) (by have := h.big; omega)) (p := ⟨w.heap.size + 1 + 1, 0, none⟩) (by simp only []; omega) _
theorem LdW.turn (h : LdW w y s r c L lv v its) {L' : List Nat} {lv' : Value} (hown : y'.ownsRow (w.heap.size + 3) 3 1 lv' L'.length (lfC L')) (hg : y.grownBy y' lv.ownBlock) (hat : lv'.ownBlock = lv.ownBlock ∨ ∃ q, lv'.ownBlock = some q ∧ y.heap.size ≤ q) :
  LdW w y' s r c L' lv' v its := by
 have hb := own_base h.left;refine ⟨row_grown h.hR hg (fun e => by have := hb _ e; omega), row_grown h.hC hg (fun e => by have := hb _ e; omega), row_grown h.hO hg (fun e => by have := hb _ e; omega), hown, own_grown h.prot hg (fun k e e2 => h.apart k e e2), h.ps, ?_, ?_, below_grown h.bw hg (fun k e => by have := hb k e; omega) (by have := h.big; omega)⟩
 ·intro x hx;obtain ⟨h1, h2, h3⟩ := h.all x hx;refine ⟨h1.grown hg h3, h2, ?_⟩;rcases hat with e | ⟨q, e, hq⟩
  ·rw [e]; exact h3
  ·exact Off.new h1 (fun k hk => by rw [e] at hk; cases hk; exact hq)
 ·intro k hk e2;rcases hat with e | ⟨q, e, hq⟩
  ·rw [e] at hk; exact h.apart k hk e2
  ·rw [e] at hk;have e3 : q = k := Option.some.inj hk;have := (h.prot.lt k e2).2;omega
theorem LdW.offs (h : LdW w y s r c L lv v its) {it : MI} (hm : MOk y.heap.size y' it) : Off v.ownBlock it ∧ Off lv.ownBlock it :=
 ⟨Off.old hm (fun k e => (h.prot.lt k e).2), Off.old hm (fun k e => (h.left.lt k e).2)⟩
end
theorem LdW.start (w : World) (s : ByteArray) : LdW w ((((w.alloc (.cells #[.slice none 0 0] 26)).alloc (.cells #[.string s, .int .i64 6, .int .i64 0] 50)).alloc (.cells #[.slice none 0 0] 26)).alloc (.cells #[] 3)) s ⟨6, 0⟩ [] [] (.slice (some ⟨w.heap.size + 1 + 1 + 1, 0, none⟩) 0 0) (.slice none 0 0) [] := by
 refine ⟨?_, ?_, ?_, ?_, World.ownsRow_nil _ _ _ _, rfl, fun it h => by simp at h, fun k _ h => by simp [Value.ownBlock] at h, by go_grown⟩
 ·have := ((RowL.new (w.alloc (.cells #[.slice none 0 0] 26)) (rC s ⟨6, 0⟩) 50).alloc (.cells #[.slice none 0 0] 26)).alloc (.cells #[] 3);rw [World.size_alloc] at this;exact this
 ·have := (RowL.new ((w.alloc (.cells #[.slice none 0 0] 26)).alloc (.cells #[.string s, .int .i64 6, .int .i64 0] 50)) [.slice none 0 0] 26).alloc (.cells #[] 3);simp only [World.size_alloc] at this;exact this
 ·exact (((RowL.new w [.slice none 0 0] 26).alloc _).alloc _).alloc _
 ·refine ⟨rfl, .inr ⟨_, 0, #[], rfl, by omega, ?_, Nat.le_refl _, Nat.zero_le _, rfl, rfl⟩⟩;have := heap_alloc_new (((w.alloc (.cells #[.slice none 0 0] 26)).alloc (.cells #[.string s, .int .i64 6, .int .i64 0] 50)).alloc (.cells #[.slice none 0 0] 26)) (.cells #[] 3);simp only [World.size_alloc] at this;exact this
def cLen (b : Nat) (w : World) : Nat := match w.cell? ⟨b, 0, none⟩ with | some (.slice _ n _) => n | _ => 0
theorem LdW.len {w y : World} {s : ByteArray} {r : RS} {c : List PR} {L : List Nat} {lv v : Value} {its : List MI} (h : LdW w y s r c L lv v its) : cLen (w.heap.size + 1 + 1) y = c.length ∧ its.length = c.length := by
 have e : its.length = c.length := by rw [← h.ps, List.length_map]
 obtain ⟨o, k, rfl⟩ := own_slL h.prot;refine ⟨?_, e⟩;unfold cLen;rw [h.hC.cell 0 rfl];exact e
theorem infProto : (Tryz.prog.info? 48).map (fun i => (i.zero, i.size, i.bytes)) = some (some (.agg #[.int .i64 0, .bool false, .int .i64 0, .slice none 0 0, .slice none 0 0, .slice none 0 0, .int .i64 0, .string ⟨#[]⟩, .slice none 0 0, .slice none 0 0]), 10, 168) := by kernel_rfl
theorem infC1 : (Tryz.prog.info? 26).map (·.size) = some 1 := by kernel_rfl
theorem load_short (s : ByteArray) (h : s.size < 6) (w : World) :
  Calls Tryz.prog 5 #[.string s] w fun e w' => e = .returned (.tuple #[.agg #[.slice none 0 0], .int .i64 1]) ∧ Below w.heap.size w w' := by
 have h6 : (s.size : Int) < 6 := by omega
 go_enter Tryz.func5, Tryz.ntmps5;go_wp2_with fail;refine bodyPost_ret (v := .tuple #[.agg #[.slice none 0 0], .int .i64 1]) ?_ rfl ⟨rfl, by go_grown⟩;simp [results, Tryz.results5, go_sem]
theorem load_other (s : ByteArray) (h : 6 ≤ s.size) (hh : (s.extract 0 6).toList ≠ [27, 76, 82, 86, 1, 0]) (w : World) :
  Calls Tryz.prog 5 #[.string s] w fun e w' => e = .returned (.tuple #[.agg #[.slice none 0 0], .int .i64 1]) ∧ Below w.heap.size w w' := by
 have h6 : ¬ (s.size : Int) < 6 := by omega
 have h6b : (6 : Int) ≤ (s.size : Int) := by omega
 have hsl : ∀ wx, (Instr.slice 9 (.string s) none (some (.int .i64 6)) none).run Tryz.prog wx = .ok (.string (s.extract 0 6)) wx := fun wx => WPut.sl_head s 6 wx h6b;have he : ((s.extract 0 6).toList == [27, 76, 82, 86, 1, 0]) = false := by simpa using hh
 go_enter Tryz.func5, Tryz.ntmps5;go_wp2_with fail;refine bodyPost_ret (v := .tuple #[.agg #[.slice none 0 0], .int .i64 1]) ?_ rfl ⟨rfl, by go_grown⟩;simp [results, Tryz.results5, go_sem]
theorem specLoad_hdr (s : ByteArray) (V : Nat → Option (Int × Nat)) (hV : VrOk s V) (hs : s.size ≤ 2000000000) (hh : HdrOk s) (w : World) : Calls Tryz.prog 5 #[.string s] w fun e w' =>
  (∃ a n c, e = .returned (.tuple #[.agg #[.slice a n c], .int .i64 (rdCode s V)])) ∧ Below w.heap.size w w' := by
 have h6 : ¬ (s.size : Int) < 6 := by have := hh.1; omega
 have h6b : (6 : Int) ≤ (s.size : Int) := by omega
 have hsl : ∀ wx, (Instr.slice 9 (.string s) none (some (.int .i64 6)) none).run Tryz.prog wx = .ok (.string (s.extract 0 6)) wx := fun wx => WPut.sl_head s 6 wx h6b;have he : ((s.extract 0 6).toList == [27, 76, 82, 86, 1, 0]) = true := by simpa using hh.2
 replace hh := hidR hh;obtain ⟨code, hcode⟩ : ∃ z, rdCode s V = z := ⟨_, rfl⟩;rw [hcode];replace hcode := hidR hcode;go_enter Tryz.func5, Tryz.ntmps5;go_upto_region 6 with fail;have H := hidR (LdW.start w s);generalize (((w.alloc (.cells #[.slice none 0 0] 26)).alloc (.cells #[.string s, .int .i64 6, .int .i64 0] 50)).alloc (.cells #[.slice none 0 0] 26)).alloc (.cells #[] 3) = y0 at H ⊢;clear h6 h6b hsl he;go_wp2_with fail;go_loopw [6, 7] (fun lv pv wr => ∃ (x : LS) (v : Value) (its : List MI) (n : Nat), pv = .int .i64 x.an ∧ Hid (LInv s x ∧ Rnds s V ld0 x n ∧ LdW w wr s x.r x.c x.L lv v its)) (fun _ _ wr => 200 - cLen (w.heap.size + 1 + 1) wr);case atStart => exact ⟨ld0, .slice none 0 0, [], 0, rfl, LInv.start hh.out, .here _, H.out⟩
 case round =>
  obtain ⟨x, v, its, n, rfl, hq⟩ := hrel;have I := hq.out.1;have Rn := hidR hq.out.2.1;have D := hidR hq.out.2.2;obtain ⟨ov, kv, rfl⟩ := own_slL hq.out.2.2.prot;have hlv := own_slL hq.out.2.2.left;obtain ⟨ol, kl, rfl⟩ := hlv;have hlen := hidR hq.out.2.2.len;have hc := hq.out.2.2.hC.cell 0 rfl;have hcf := hq.out.2.2.hC.frozen;have hcl := hq.out.2.2.hC.lt;have ha0 : (0 : Int) ≤ x.an := by have := I.an; omega
  have ha1 := I.an.2;have hl63 := I.len;have hpx := I.pos;have hbx := hidR I.bad;replace I := hidR I;clear hq H;by_cases hl : (x.c.length : Int) < x.an
  ·have hlI : x.an > (its.length : Int) := by have := hlen.out.2; omega
   obtain ⟨most, hm⟩ : ∃ m : Int, (if (x.L.length : Int) = 63 then (0 : Int) else 200 - x.an) = m := ⟨_, rfl⟩;have hn : nxt s V x = rdPro s V gi0 most x.r := by unfold nxt; rw [hm]
   have hcall := hidR (l3ReadProto_in s V hV gi0 giOk x.r most wr hs hpx);rw [← hn] at hcall;obtain ⟨z, hz⟩ : ∃ z, nxt s V x = z := ⟨_, rfl⟩;rw [hz] at hcall;obtain ⟨p1, r1⟩ := z;dsimp only at hcall;unfold rV at hcall;replace hz := hidR hz;clear hn;go_upto_region 9 with fail;go_upto_if 33 with fail;go_cut [8] from 74 (fun sx wz => wr = wz ∧ sx = .int .i64 most)
   case first =>
    by_cases h63 : x.L.length = 63
    ·have h63I : (x.L.length : Int) = 63 := by omega
     rw [if_pos h63I] at hm;replace hm := hidR hm;have hge : (x.L.length : Int) ≥ 63 := by omega
     clear h63 h63I;go_wp2_with fail;go_meet;case rel => exact ⟨rfl, by first | rfl | rw [hm.out]⟩
    ·have h63I : ¬ (x.L.length : Int) = 63 := by omega
     rw [if_neg h63I] at hm;replace hm := hidR hm;have hge : ¬ (x.L.length : Int) ≥ 63 := by omega
     clear h63 h63I;go_wp2_with fail;go_meet;case rel => exact ⟨rfl, by first | rfl | rw [hm.out]⟩
   obtain ⟨hw9, hs9⟩ := hcut;subst hw9;subst hs9;have c0 := D.out.hR.cell 0 rfl;have c1 := D.out.hR.cell 1 rfl;have c2 := D.out.hR.cell 2 rfl;have cf := D.out.hR.frozen;have cl := D.out.hR.lt;go_upto_region 11 with fail;go_wp2_with fail;refine Calls.mono hcall.out ?_;rintro e y1 ⟨⟨i0, i2, i6, b1, t, o3, o4, o5, o8, o9, n3, n4, n5, n8, n9, k3, k4, k5, k8, k9, rfl, hmr⟩, b9⟩;clear hcall c0 c1 c2 cf cl hc hcf hcl;have D1 := hidR (D.out.call b9);have c0 := D1.out.hR.cell 0 rfl;have c1 := D1.out.hR.cell 1 rfl;have c2 := D1.out.hR.cell 2 rfl;have cf := D1.out.hR.frozen;have cl := D1.out.hR.lt;replace hmr := hidR hmr;replace b9 := hidR b9;go_upto_region 12 with fail;clear c0 c1 c2 cf cl;have bb : Below y1.heap.size y1 ((y1.alloc (.cells #[.int .i64 i0, .bool b1, .int .i64 i2, .slice o3 n3 k3, .slice o4 n4 k4, .slice o5 n5 k5, .int .i64 i6, .string t, .slice o8 n8 k8, .slice o9 n9 k9] 48)).alloc (.cells #[.string s, .int .i64 (r1.pos : Int), .int .i64 r1.bad] 50)) := ((Below.refl _ _).alloc (Nat.le_refl _) _).alloc (by rw [World.size_alloc]; omega) _;have hP : RowL ((y1.alloc (.cells #[.int .i64 i0, .bool b1, .int .i64 i2, .slice o3 n3 k3, .slice o4 n4 k4, .slice o5 n5 k5, .int .i64 i6, .string t, .slice o8 n8 k8, .slice o9 n9 k9] 48)).alloc (.cells #[.string s, .int .i64 (r1.pos : Int), .int .i64 r1.bad] 50)) y1.heap.size 48 [.int .i64 i0, .bool b1, .int .i64 i2, .slice o3 n3 k3, .slice o4 n4 k4, .slice o5 n5 k5, .int .i64 i6, .string t, .slice o8 n8 k8, .slice o9 n9 k9] := (RowL.new y1 [.int .i64 i0, .bool b1, .int .i64 i2, .slice o3 n3 k3, .slice o4 n4 k4, .slice o5 n5 k5, .int .i64 i6, .string t, .slice o8 n8 k8, .slice o9 n9 k9] 48).alloc _
   have hN : RowL ((y1.alloc (.cells #[.int .i64 i0, .bool b1, .int .i64 i2, .slice o3 n3 k3, .slice o4 n4 k4, .slice o5 n5 k5, .int .i64 i6, .string t, .slice o8 n8 k8, .slice o9 n9 k9] 48)).alloc (.cells #[.string s, .int .i64 (r1.pos : Int), .int .i64 r1.bad] 50)) (y1.heap.size + 1) 50 (rC s r1) := by
    have := RowL.new (y1.alloc (.cells #[.int .i64 i0, .bool b1, .int .i64 i2, .slice o3 n3 k3, .slice o4 n4 k4, .slice o5 n5 k5, .int .i64 i6, .string t, .slice o8 n8 k8, .slice o9 n9 k9] 48)) (rC s r1) 50;rw [World.size_alloc] at this;exact this
   have D2 := D1.out.call bb;have hRl := D1.out.hR.lt;have hzw := D.out.big;have hz9 := b9.out.size;replace bb := hidR bb;generalize ((y1.alloc (.cells #[.int .i64 i0, .bool b1, .int .i64 i2, .slice o3 n3 k3, .slice o4 n4 k4, .slice o5 n5 k5, .int .i64 i6, .string t, .slice o8 n8 k8, .slice o9 n9 k9] 48)).alloc (.cells #[.string s, .int .i64 (r1.pos : Int), .int .i64 r1.bad] 50)) = y2 at bb hP hN D2 ⊢;obtain ⟨PB, hPB⟩ : ∃ n, y1.heap.size = n := ⟨_, rfl⟩;rw [hPB] at hP hN ⊢;have c0 := D2.hR.cell 0 rfl;have c1 := D2.hR.cell 1 rfl;have c2 := D2.hR.cell 2 rfl;have cf := D2.hR.frozen;have cl := D2.hR.lt;have d0 := hN.cell 0 rfl;have d1 := hN.cell 1 rfl;have d2 := hN.cell 2 rfl;have dl := hN.lt;have hne : ¬ PB + 1 = (w.heap.size + 1) := by omega
   have hne2 : ¬ PB = (w.heap.size + 1) := by omega
   have D3 := hidR (D2.setR r1);replace hP := hidR (hP.put (R := (w.heap.size + 1)) hne2 (.string s) (.int .i64 (r1.pos : Int)) (.int .i64 r1.bad));have bs : Hid (∀ {it : MI}, MOk (w.heap.size + 3) y2 it → MOk (w.heap.size + 3) (((y2.setCell ⟨(w.heap.size + 1), 0, none⟩ (.string s)).setCell ⟨(w.heap.size + 1), 1, none⟩ (.int .i64 (r1.pos : Int))).setCell ⟨(w.heap.size + 1), 2, none⟩ (.int .i64 r1.bad)) it) := fun h => ((h.set (a := ⟨(w.heap.size + 1), 0, none⟩) (by simp only []; omega) _).set (a := ⟨(w.heap.size + 1), 1, none⟩) (by simp only []; omega) _).set (a := ⟨(w.heap.size + 1), 2, none⟩) (by simp only []; omega) _;replace D2 := hidR D2;replace hN := hidR hN;go_upto_region 13 with fail;clear c0 c1 c2 cf cl d0 d1 d2 dl hne;generalize ((y2.setCell ⟨(w.heap.size + 1), 0, none⟩ (.string s)).setCell ⟨(w.heap.size + 1), 1, none⟩ (.int .i64 (r1.pos : Int))).setCell ⟨(w.heap.size + 1), 2, none⟩ (.int .i64 r1.bad) = y3 at D3 hP bs ⊢;have hst := hidR (fun h : (nxt s V x).2.bad = 0 => LInv.step hV I.out hl h);by_cases hb : r1.bad = 0
   ·obtain ⟨rp, rb⟩ := r1;dsimp only at hb;subst hb;obtain ⟨⟨rfl, rfl, rfl, rfl, rfl⟩, hmo⟩ := hmr.out rfl;have m1 : MOk wr.heap.size y1 (⟨p1, .slice o3 n3 k3, .slice o4 n4 k4, .slice o5 n5 k5, .slice o8 n8 k8, .slice o9 n9 k9⟩ : MI) := hmo;have offs := hidR (D.out.offs m1);have m3 : MOk (w.heap.size + 3) y3 (⟨p1, .slice o3 n3 k3, .slice o4 n4 k4, .slice o5 n5 k5, .slice o8 n8 k8, .slice o9 n9 k9⟩ : MI) := bs.out ((m1.low hzw).below bb.out);have hz0 := hz.out;obtain ⟨S1, S2, S3⟩ := hst.out (by rw [hz0]);have hk0 : 0 ≤ p1.kids := by rw [hz0] at S2; exact S2
    have hk1 : p1.kids ≤ 200 := by rw [hz0] at S3; exact S3
    have e1 : (stp s V x).an = x.an + p1.kids := by show x.an + (nxt s V x).1.kids = x.an + p1.kids; rw [hz0]
    have e2 : (stp s V x).r = ⟨rp, 0⟩ := by show (nxt s V x).2 = ⟨rp, 0⟩; rw [hz0]
    have e3 : (stp s V x).c = x.c ++ [p1] := by show x.c ++ [(nxt s V x).1] = x.c ++ [p1]; rw [hz0]
    have e4 : (stp s V x).L = if 0 < p1.kids then p1.kids.toNat :: x.L else upLL x.L := by show (if 0 < (nxt s V x).1.kids then (nxt s V x).1.kids.toNat :: x.L else upLL x.L) = _; rw [hz0]
    have ha2 : x.an + p1.kids ≤ 200 := by have := S1.an.2; rw [e1] at this; exact this
    have R2 := hidR (Rn.out.snoc hl (show (nxt s V x).2.bad = 0 by rw [hz0]));replace e1 := hidR e1;replace e2 := hidR e2;replace e3 := hidR e3;replace e4 := hidR e4;replace S1 := hidR S1;replace m3 := hidR m3;have hvq : ∀ q, (Value.slice ov its.length kv).ownBlock = some q → q < PB := fun q h => by have := (D.out.prot.lt q h).2; omega
    replace hvq := hidR hvq;clear hmr hmo m1 bs bb hst D D1 D2 b9 hz0 S2 S3 hN;have c2 := D3.out.hR.cell 2 rfl;have cf := D3.out.hR.frozen;go_upto_region 15 with fail;clear c2 cf;have hc := D3.out.hC.cell 0 rfl;have hcl := D3.out.hC.lt;have g0 := hP.out.cell 0 rfl;have g1 := hP.out.cell 1 rfl;have g2 := hP.out.cell 2 rfl;have g3 := hP.out.cell 3 rfl;have g4 := hP.out.cell 4 rfl;have g5 := hP.out.cell 5 rfl;have g6 := hP.out.cell 6 rfl;have g7 := hP.out.cell 7 rfl;have g8 := hP.out.cell 8 rfl;have g9 := hP.out.cell 9 rfl;have hpl := hP.out.lt;obtain ⟨i9, hi, hz0, hz1, hz2⟩ := info_of infProto;go_wp2_with (at_builtin; refine wpList_append_own_at _ rfl (.tmp 48) (.tmp 50) 24 rfl (w.heap.size + 3) 48 i9 (.agg #[.int .i64 0, .bool false, .int .i64 0, .slice none 0 0, .slice none 0 0, .slice none 0 0, .int .i64 0, .string ⟨#[]⟩, .slice none 0 0, .slice none 0 0]) 10 168 Tryz.underlying24 hi hz0 hz1 hz2 rfl (by decide) (.slice ov its.length kv) its.length _ rfl (D3.out.prot.alloc _) ⟨y3.heap.size, 0, none⟩ 1 1 (mC (⟨p1, .slice o3 n3 k3, .slice o4 n4 k4, .slice o5 n5 k5, .slice o8 n8 k8, .slice o9 n9 k9⟩ : MI)) rfl rfl ?c1 ?c2 ?c3 ?c4 ?c5 ?_);case c1 => exact World.news_of_block (heap_alloc_new _ _)
    case c2 => intro u hu; simp only [mC, List.mem_cons, List.not_mem_nil, or_false] at hu; rcases hu with rfl | rfl | rfl | rfl | rfl | rfl | rfl | rfl | rfl | rfl <;> rfl
    case c3 => have := hlen.out.2; simp only [maxLen]; omega
    case c4 => have := hlen.out.2; omega
    case c5 => have := D3.out.big; simp only [World.size_alloc]; omega
    intro v' w4 hown2 hg _ hat;have bl : Below y3.heap.size y3 (y3.alloc (.cells #[.int .i64 p1.params, .bool p1.vararg, .int .i64 p1.regs, .slice o3 n3 k3, .slice o4 n4 k4, .slice o5 n5 k5, .int .i64 p1.kids, .string p1.name, .slice o8 n8 k8, .slice o9 n9 k9] 48)) := (Below.refl _ _).alloc (Nat.le_refl _) _;have D3a := D3.out.call bl;have D4 := hidR (D3a.app (it := (⟨p1, .slice o3 n3 k3, .slice o4 n4 k4, .slice o5 n5 k5, .slice o8 n8 k8, .slice o9 n9 k9⟩ : MI)) (m3.out.below bl) offs.out.1 offs.out.2 hown2 hg (hat.imp id (fun h => ⟨_, h, by first | exact Nat.le_refl _ | (rw [World.size_alloc]; exact Nat.le_refl _)⟩)));obtain ⟨ow, kw, rfl⟩ := own_slL hown2;have hb9 := own_base D3a.prot;have hC4 := row_grown D3a.hC hg (fun e => by have := hb9 _ e; omega);have hc4 := hC4.cell 0 rfl;have hcf4 := hC4.frozen;have hcl4 := hC4.lt;have hP4 := hidR ((row_grown (hP.out.alloc _) hg (fun e => by have := hvq.out _ e; omega)).other (a := ⟨(w.heap.size + 1 + 1), 0, none⟩) (show PB ≠ (w.heap.size + 1 + 1) by omega) (.slice ow (its.length + 1) kw));clear hc hcl g0 g1 g2 g3 g4 g5 g6 g7 g8 g9 hpl hi hz0 hz1 hz2 hown2 hg hat bl D3a D3 hP hC4 hb9 m3 offs;go_upto_region 16 with fail;clear hc4 hcf4 hcl4;generalize w4.setCell ⟨(w.heap.size + 1 + 1), 0, none⟩ (.slice ow (its.length + 1) kw) = y5 at D4 hP4 ⊢;have g6 := hP4.out.cell 6 rfl;have hpl := hP4.out.lt;go_upto_if 59 with fail;by_cases hk : 0 < p1.kids
    ·rw [if_pos hk] at e4;obtain ⟨i8, hi, hz0, hz1, hz2⟩ := info_of infInt;go_wp2_with (at_builtin; refine wpList_append_own_at _ rfl (.tmp 60) (.tmp 63) 45 rfl (w.heap.size + 3) 3 i8 (.int .i64 0) 1 8 Tryz.underlying45 hi hz0 hz1 hz2 rfl (by decide) (.slice ol x.L.length kl) x.L.length _ rfl (D4.out.left.alloc _) ⟨y5.heap.size, 0, none⟩ 1 1 [.int .i64 p1.kids] rfl rfl ?c1 ?c2 ?c3 ?c4 ?c5 ?_);case c2 => first | rfl | (intro u hu; simp only [List.mem_cons, List.not_mem_nil, or_false] at hu; subst hu; rfl)
     case c3 => simp only [maxLen]; omega
     case c4 => omega
     case c5 => have := D4.out.big; first | omega | (simp only [World.size_alloc]; omega)
     intro lw w6 hown3 hg3 _ hat3;have bl : Below y5.heap.size y5 (y5.alloc (.cells #[.int .i64 p1.kids] 3)) := (Below.refl _ _).alloc (Nat.le_refl _) _;have hkI : (p1.kids.toNat : Int) = p1.kids := by omega
     have D5 := (D4.out.call bl).turn (L' := p1.kids.toNat :: x.L) (by rw [lfC_cons, List.length_cons, hkI]; exact hown3) hg3 (hat3.imp id (fun h => ⟨_, h, by first | exact Nat.le_refl _ | (rw [World.size_alloc]; exact Nat.le_refl _)⟩));obtain ⟨om, km, rfl⟩ := own_slL hown3;have hm2 : cLen (w.heap.size + 1 + 1) w6 = x.c.length + 1 := by rw [D5.len.1, List.length_append]; rfl
     have hrel : Hid (LInv s (stp s V x) ∧ Rnds s V ld0 (stp s V x) (n + 1) ∧ LdW w w6 s (stp s V x).r (stp s V x).c (stp s V x).L (.slice om (x.L.length + 1) km) (.slice ow (its.length + 1) kw) (its ++ [(⟨p1, .slice o3 n3 k3, .slice o4 n4 k4, .slice o5 n5 k5, .slice o8 n8 k8, .slice o9 n9 k9⟩ : MI)])) := ⟨S1.out, R2.out, by rw [e2.out, e3.out, e4.out]; exact D5⟩;replace hm2 := hidR hm2;clear hi hz0 hz1 hz2 hown3 hg3 hat3 bl D5 D4 hP4 g6 hpl S1 R2;go_wp2_with fail;go_roundw;case rel => exact ⟨stp s V x, _, _, n + 1, by rw [e1.out], hrel.out⟩
     case measure => have h1 := hm2.out; have h2 := hlen.out.1; rw [h1, h2]; omega
    ·rw [if_neg hk] at e4;have hup := hidR (l3Up_at (w.heap.size + 3) (.slice ol x.L.length kl) x.L y5 D4.out.left (by omega) (fun k hk => by have := I.out.all k hk; omega) (by have := D4.out.big; omega));go_wp2_with fail;refine Calls.mono hup.out ?_;rintro e y6 ⟨lw, rfl, hown3, hg3, hat3⟩;have D5 := D4.out.turn hown3 hg3 hat3;obtain ⟨om, km, rfl⟩ := own_slL hown3;have hm2 : cLen (w.heap.size + 1 + 1) y6 = x.c.length + 1 := by rw [D5.len.1, List.length_append]; rfl
     have hrel : Hid (LInv s (stp s V x) ∧ Rnds s V ld0 (stp s V x) (n + 1) ∧ LdW w y6 s (stp s V x).r (stp s V x).c (stp s V x).L (.slice om (upLL x.L).length km) (.slice ow (its.length + 1) kw) (its ++ [(⟨p1, .slice o3 n3 k3, .slice o4 n4 k4, .slice o5 n5 k5, .slice o8 n8 k8, .slice o9 n9 k9⟩ : MI)])) := ⟨S1.out, R2.out, by rw [e2.out, e3.out, e4.out]; exact D5⟩;replace hm2 := hidR hm2;clear hup hown3 hg3 hat3 D5 D4 hP4 g6 hpl S1 R2;go_wp2_with fail;go_roundw;case rel => exact ⟨stp s V x, _, _, n + 1, by rw [e1.out], hrel.out⟩
     case measure => have h1 := hm2.out; have h2 := hlen.out.1; rw [h1, h2]; omega
   ·have hbI : (r1.bad == 0) = false := by simpa using hb
    have hco : code = r1.bad := by
     have h1 := code_fails hV hh.out Rn.out hl (by rw [hz.out]; exact hb);rw [hcode.out, hz.out] at h1;exact h1
    have c2 := D3.out.hR.cell 2 rfl;have cf := D3.out.hR.frozen;clear hmr bs bb hst D D1 D2 b9 hN hP;replace hco := hidR hco;go_upto_region 14 with fail;clear c2 cf;have kO := hidR (D3.out.hO.call (Below.refl _ _).drew);have kR := hidR (show RowL y3.drew (w.heap.size + 1) 50 (rC s r1) from D3.out.hR.call (Below.refl _ _).drew);have bf := hidR (D3.out.bw.drew);refine wp_region_held_drew (S := fun wv => RowL wv (w.heap.size + 1) 50 (rC s r1)) (by kernel_rfl) kR.out (fun hH => ?_);generalize y3.drew = yz at kO kR bf hH ⊢;refine tkd 0 44 (.agg #[.slice none 0 0]) hH ?_ (hy := Or.inl ⟨by rfl, by intro wv hSv; clear hSv; go_simp⟩);try simp only [tK]
    refine tkd 1 45 (.pointer (some ⟨(w.heap.size + 1), 2, none⟩)) hH ?_ (hy := Or.inl ⟨by rfl, by intro wv hSv; clear hSv; go_simp⟩);try simp only [tK]
    refine tkd 2 46 (.int .i64 r1.bad) hH ?_ (hy := Or.inl ⟨by rfl, by intro wv hSv; have g0 := hSv.cell 2 rfl; clear hSv; go_simp⟩);try simp only [tK]
    have s1 := hidR (show RowL (yz.setRow w.heap.size ([.slice none 0 0] : List Value).toArray) (w.heap.size + 1) 50 (rC s r1) from kR.out.rowOther (by omega) _);refine ready_storeL 3 (by kernel_rfl) rfl 26 (.tmp 2) (.tmp 44) rfl rfl rfl w.heap.size _ [.slice none 0 0] rfl rfl _ kO.out infC1 rfl (by simp [Value.oneCell']) s1.out ?_;have kO2 := hidR (kO.out.setRow [.slice none 0 0] rfl);have bf2 := hidR (below_row bf.out (Nat.le_refl _) ([.slice none 0 0] : List Value).toArray);generalize yz.setRow w.heap.size ([.slice none 0 0] : List Value).toArray = yy at kO2 bf2 s1 ⊢;refine rdy1 4 (fun K hK => ?_);go_simp;refine hK.out _ _ s1.out (fun hzz => ?_);clear hK K hzz;try simp only [tK]
    refine wpAnyH_done (by kernel_rfl) ?_ _;have l0 := kO2.out.cell 0 rfl;go_wp2_with fail;refine bodyPost_ret (v := .tuple #[.agg #[.slice none 0 0], .int .i64 r1.bad]) ?_ rfl ?_
    ·simp [results, Tryz.results5, go_sem, l0]
    ·exact ⟨⟨_, _, _, by rw [hco.out]⟩, bf2.out⟩
  ·have hlI : ¬ x.an > (its.length : Int) := by have := hlen.out.2; omega
   obtain ⟨E1, E2, E3, E4⟩ := code_ends hV hh.out Rn.out hl;rw [hcode.out] at E4;have c1 := D.out.hR.cell 1 rfl;have cf := D.out.hR.frozen;have o0 := D.out.hO.cell 0 rfl;have of := D.out.hO.frozen;have ol_ := D.out.hO.lt;have bo := Below.setCell D.out.bw (p := ⟨w.heap.size, 0, none⟩) (Nat.le_refl _) (.slice none 0 0);by_cases hpe : x.r.pos = s.size
   ·rw [if_neg (by omega)] at E4;have hpI : ((x.r.pos : Int) == (s.size : Int)) = true := by simp [hpe]
    have B2 := hidR (Below.setCell D.out.bw (p := ⟨w.heap.size, 0, none⟩) (Nat.le_refl _) (.slice ov its.length kv));have O2 := D.out.hO.set 0 (.slice ov its.length kv);have l0 := O2.cell 0 rfl;replace E4 := hidR E4;replace hpe := hidR hpe;clear O2 E1 E2 E3 bo D I Rn;go_wp2_with fail;refine bodyPost_ret (v := .tuple #[.agg #[.slice ov its.length kv], .int .i64 0]) ?_ rfl ?_
    ·simp [results, Tryz.results5, go_sem, l0]
    ·exact ⟨⟨_, _, _, by rw [E4.out]⟩, B2.out⟩
   ·rw [if_pos (by omega)] at E4
    have hpI : ((x.r.pos : Int) == (s.size : Int)) = false := by
     have : (x.r.pos : Int) ≠ (s.size : Int) := by omega
     simpa using this
    have O2 := D.out.hO.set 0 (.slice none 0 0);have l0 := O2.cell 0 rfl;replace E4 := hidR E4;replace bo := hidR bo;replace hpe := hidR hpe;clear O2 E1 E2 E3 D I Rn;go_wp2_with fail;refine bodyPost_ret (v := .tuple #[.agg #[.slice none 0 0], .int .i64 5]) ?_ rfl ?_
    ·simp [results, Tryz.results5, go_sem, l0]
    ·exact ⟨⟨_, _, _, by rw [E4.out]⟩, bo.out⟩
theorem specLoad_in (s : ByteArray) (V : Nat → Option (Int × Nat)) (hV : VrOk s V) (hs : s.size ≤ 2000000000) (w : World) : Calls Tryz.prog 5 #[.string s] w fun e w' => (∃ a n c, e = .returned (.tuple #[.agg #[.slice a n c], .int .i64 (rdCode s V)])) ∧ Below w.heap.size w w' := by
 by_cases hh : HdrOk s
 ·exact specLoad_hdr s V hV hs hh w
 ·have hc : rdCode s V = 1 := code_nohdr hh
  have h : Calls Tryz.prog 5 #[.string s] w fun e w' => e = .returned (.tuple #[.agg #[.slice none 0 0], .int .i64 1]) ∧ Below w.heap.size w w' := by
   by_cases h6 : s.size < 6
   ·exact load_short s h6 w
   ·exact load_other s (by omega) (fun e => hh ⟨by omega, e⟩) w
  exact h.mono fun e w' ⟨he, hb⟩ => ⟨⟨_, _, _, by rw [hc]; exact he⟩, hb⟩
end Go.Proofs.YtnhanccjnhgjoaaGreatDoor

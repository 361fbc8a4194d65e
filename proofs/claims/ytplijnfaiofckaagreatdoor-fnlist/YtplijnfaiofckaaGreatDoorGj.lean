import Derived.Test.YtplijnfaiofckaaGreatDoorChI
import Derived.Test.YtplijnfaiofckaaGreatDoorChJ
import Derived.Deep.Slices
import Derived.RangeFuncNested
import Derived.RangeFuncBound
import Derived.OwnWalkIn
import Derived.LoopNIn
import Derived.LoopIn
namespace Go.Proofs.YtplijnfaiofckaaGreatDoor
open Go.RowKit
set_option linter.unusedVariables false
set_option linter.unusedSimpArgs false
set_option maxRecDepth 100000
set_option maxHeartbeats 9000000
theorem l2ProtoOk_in (p : PD) (a3 a4 a5 a8 a9 : Value) (w : World) (hp : IsProto (· < w.heap.size) w a3 a4 a5 a8 a9 p) :
  Calls Tryz.prog 17 #[pAgg p a3 a4 a5 a8 a9] w fun e w' => Says e (ProtoOk p) ∧ Below w.heap.size w w' := by
 by_cases c0 : p.regs < 1 ∨ 250 < p.regs ∨ p.params < 0 ∨ p.regs < p.params ∨ p.code.n < 1
 ·exact l2ProtoOk_no0 p a3 a4 a5 a8 a9 w hp c0
 by_cases c1 : 2000 < p.code.n ∨ 500 < p.consts.n ∨ 60 < p.ups.n ∨ 1000 < p.name.size
 ·exact l2ProtoOk_no1 p a3 a4 a5 a8 a9 w hp (by omega) (by omega) (by omega) (by omega) (by omega) c1
 by_cases l1 : 0 < p.lines.n
 ·by_cases l2 : (p.lines.n : Int) = (p.code.n : Int)
  ·by_cases u1 : 0 < p.upNames.n
   ·by_cases u2 : (p.upNames.n : Int) = (p.ups.n : Int)
    ·exact qf8 p a3 a4 a5 a8 a9 w hp (by omega) (by omega) (by omega) (by omega) (by omega) (by omega) (by omega) (by omega) (by omega) (.inr ⟨l1, l2⟩) (.inr ⟨u1, u2⟩)
    ·exact l2ProtoOk_no3 p a3 a4 a5 a8 a9 w hp (by omega) (by omega) (by omega) (by omega) (by omega) (by omega) (by omega) (by omega) (by omega) l1 l2 u1 u2
   ·exact qf8 p a3 a4 a5 a8 a9 w hp (by omega) (by omega) (by omega) (by omega) (by omega) (by omega) (by omega) (by omega) (by omega) (.inr ⟨l1, l2⟩) (.inl u1)
  ·exact l2ProtoOk_no2 p a3 a4 a5 a8 a9 w hp (by omega) (by omega) (by omega) (by omega) (by omega) (by omega) (by omega) (by omega) (by omega) l1 l2
 ·by_cases u1 : 0 < p.upNames.n
  ·by_cases u2 : (p.upNames.n : Int) = (p.ups.n : Int)
   ·exact qf8 p a3 a4 a5 a8 a9 w hp (by omega) (by omega) (by omega) (by omega) (by omega) (by omega) (by omega) (by omega) (by omega) (.inl l1) (.inr ⟨u1, u2⟩)
   ·exact l2ProtoOk_no4 p a3 a4 a5 a8 a9 w hp (by omega) (by omega) (by omega) (by omega) (by omega) (by omega) (by omega) (by omega) (by omega) l1 u1 u2
  ·exact qf8 p a3 a4 a5 a8 a9 w hp (by omega) (by omega) (by omega) (by omega) (by omega) (by omega) (by omega) (by omega) (by omega) (.inl l1) (.inl u1)
def kidsOf (s : Sl PD) (i : Nat) : Int := (s.f i).kids
structure Wf (s : Sl PD) : Prop where
 low : 1 ≤ s.n
 high : s.n ≤ 200
 tree : ∃ h, Fo (kidsOf s) s.n 1 0 s.n h ∧ h ≤ 64
 each : ∀ i, i < s.n → ProtoOk (s.f i)

theorem qa0.kids {av : Nat → Prop} {w : World} {ao : Option Addr} {cap : Nat} {s : Sl PD} (h : qa0 av w (.slice ao s.n cap) s) : 0 < s.n → ∃ b o, ao = some ⟨b, o, none⟩ ∧ av b ∧ ∀ i, i < s.n → w.cell? ⟨b, o + i * 10 + 6, none⟩ = some (.int .i64 (kidsOf s i)) := by
 obtain ⟨a3, a4, a5, a8, a9, ⟨ao', cap', he, hn, hc⟩, ht⟩ := h;intro hp;simp only [Value.slice.injEq] at he;obtain ⟨rfl, _, rfl⟩ := he;obtain ⟨b, o, rfl, hb, hcc⟩ := hc hp;exact ⟨b, o, rfl, hb, fun i hi => hcc i hi 6 (by omega)⟩
theorem specWF_in (s : Sl PD) (v : Value) (w : World) (hv : qa0 (· < w.heap.size) w v s) :
  Calls Tryz.prog 6 #[.agg #[v]] w fun e w' => Says e (Wf s) ∧ Below w.heap.size w w' := by
 have hv' := hv;obtain ⟨a3, a4, a5, a8, a9, ⟨ao, cap, rfl, hn, hc⟩, ht⟩ := hv;have hkids := hv'.kids;by_cases h1 : s.n < 1
 ·clear hc ht hkids hv';go_enter Tryz.func6, Tryz.ntmps6;go_wp2_with fail;go_ret;exact ⟨Says.no rfl (fun h => by have := h.low; omega), by go_grown⟩
 by_cases h2 : 200 < s.n
 ·clear hc ht hkids hv';go_enter Tryz.func6, Tryz.ntmps6;go_wp2_with fail;go_ret;exact ⟨Says.no rfl (fun h => by have := h.high; omega), by go_grown⟩
 have R0 := RowL.new w [.slice ao s.n cap] 25;have bw : Below w.heap.size w (w.alloc (.cells #[.slice ao s.n cap] 25)) := by go_grown
 have hk : 0 < s.n → ∃ b o, ao = some ⟨b, o, none⟩ ∧ ∀ i, i < s.n → (w.alloc (.cells #[.slice ao s.n cap] 25)).cell? ⟨b, o + i * 10 + 6, none⟩ = some (.int .i64 (kidsOf s i)) := fun hp => by
  obtain ⟨b, o, e, hb, hcc⟩ := hkids hp;exact ⟨b, o, e, fun i hi => (bw.cell (p := ⟨b, _, none⟩) hb).trans (hcc i hi)⟩
 have hE := l2End_in ao s.n cap (kidsOf s) _ hn hk s.n 0 0 (by omega) (by omega) (by omega);clear hk hkids;have hc' : Hid (0 < s.n → ∃ b o, ao = some ⟨b, o, none⟩ ∧ b < w.heap.size ∧ ∀ i, i < s.n → ∀ j, j < 10 → w.cell? ⟨b, o + i * 10 + j, none⟩ = some (pC s.f a3 a4 a5 a8 a9 i j)) := hc;have ht' : Hid (∀ i, i < s.n → IsProto (· < w.heap.size) w (a3 i) (a4 i) (a5 i) (a8 i) (a9 i) (s.f i)) := ht;clear hc ht hv';go_enter Tryz.func6, Tryz.ntmps6;go_wp2_with fail;generalize w.alloc (.cells #[.slice ao s.n cap] 25) = wx at R0 bw hE ⊢;refine hE.mono ?_;rintro e w1 ⟨⟨r, rfl, hr⟩, rfl⟩;have r0 := R0.cell 0 rfl;by_cases hrn : r = (s.n : Int)
 rotate_left
 ·have hno : Hid (¬ Wf s) := fun h => by
   obtain ⟨g, t, hg⟩ := h.tree;rcases hr with ⟨e', h', t', hh, rfl⟩ | ⟨rfl, hno⟩
   ·exact hrn (by rw [(t.det t').1])
   ·have := hno _ _ t;omega
  clear hr;have hne : (r != (s.n : Int)) = true := by simpa using hrn
  go_wp2_with fail;go_ret;exact ⟨Says.no rfl hno.out, bw⟩
 have htree : Hid (∃ h, Fo (kidsOf s) s.n 1 0 s.n h ∧ h ≤ 64) := by
  subst hrn;rcases hr with ⟨e', h', t', hh, he⟩ | ⟨he, _⟩
  ·obtain rfl : s.n = e' := by omega
   exact ⟨h', t', by omega⟩
  ·omega
 clear hr;subst hrn;go_wp2_with fail;go_loopw [4] (fun i wr => ∃ (i' : Nat), i = .int .i64 i' ∧ i' ≤ s.n ∧ Below wx.heap.size wx wr ∧ Hid (∀ j, j < i' → ProtoOk (s.f j))) (fun i _ => s.n - (intOf i).toNat);case atStart => exact ⟨0, rfl, by omega, Below.refl _ _, fun j hj => by omega⟩
 case round =>
  obtain ⟨i', rfl, q1, q2, q3⟩ := hrel;have r0 := (R0.call q2).cell 0 rfl;have q4 := bw.trans (q2.mono bw.size);by_cases hi : i' < s.n
  ·obtain ⟨b, o, rfl, hb, hcc⟩ := hc'.out (by omega);have c0 := hcc i' hi 0 (by omega);have c1 := hcc i' hi 1 (by omega);have c2 := hcc i' hi 2 (by omega);have c3 := hcc i' hi 3 (by omega);have c4 := hcc i' hi 4 (by omega);have c5 := hcc i' hi 5 (by omega);have c6 := hcc i' hi 6 (by omega);have c7 := hcc i' hi 7 (by omega);have c8 := hcc i' hi 8 (by omega);have c9 := hcc i' hi 9 (by omega);rw [← q4.cell (p := ⟨b, _, none⟩) hb] at c0 c1 c2 c3 c4 c5 c6 c7 c8 c9;simp only [Nat.add_zero, pC] at c0 c1 c2 c3 c4 c5 c6 c7 c8 c9;have hti : IsProto (· < wr.heap.size) wr (a3 i') (a4 i') (a5 i') (a8 i') (a9 i') (s.f i') := (ht'.out i' hi).later q4;clear hcc hc' ht';go_wp2_with fail;refine (l2ProtoOk_in (s.f i') (a3 i') (a4 i') (a5 i') (a8 i') (a9 i') _ hti).mono ?_;rintro e w1 ⟨⟨r, rfl, hr⟩, b1⟩;have hb1 : Below wx.heap.size wx w1 := q2.trans (b1.mono q2.size);clear c0 c1 c2 c3 c4 c5 c6 c7 c8 c9 r0
   cases r with
   | false =>
    have hno : Hid (¬ Wf s) := fun h => by simpa using hr.2 (h.each i' hi)
    clear hr;go_wp2_with fail;go_ret;exact ⟨Says.no rfl hno.out, bw.trans (hb1.mono bw.size)⟩
   | true =>
    have q5 : Hid (∀ j, j < i' + 1 → ProtoOk (s.f j)) := fun j hj => by
     by_cases hji : j = i'
     ·subst hji; exact hr.1 rfl
     ·exact q3.out j (by omega)
    clear hr q3;go_wp2_with fail;go_roundw;case rel => exact ⟨i' + 1, rfl, by omega, hb1, q5⟩
    case measure => simp [intOf]; omega
  ·have z1 : Hid (∀ j, j < s.n → ProtoOk (s.f j)) := fun j hj => q3.out j (by omega);clear q3;go_wp2_with fail;go_ret;exact ⟨Says.yes rfl ⟨by omega, by omega, htree.out, z1.out⟩, q4⟩
end Go.Proofs.YtplijnfaiofckaaGreatDoor
namespace Go.Proofs.YtplijnfaiofckaaGreatDoor
open Go.RowKit Go.ChangeShapes Go.WideShapes Go.ChangeAt
set_option linter.unusedVariables false
set_option linter.unusedSimpArgs false

section
variable {H : Type} {enc : TypeId × Value → H} {w : World} {base : Nat} {spare : Nat → Bool} {held : Bool}

structure Bnd (s : Sl PD) : Prop where
 code : ∀ i, i < s.n → ∀ j, j < (s.f i).code.n → (Lit.int .u32 ((s.f i).code.f j)).wf = true
 nums : ∀ i, i < s.n → ∀ j, j < (s.f i).consts.n → (Lit.int .i64 ((s.f i).consts.f j).num).wf = true
end

end Go.Proofs.YtplijnfaiofckaaGreatDoor
namespace Go.Proofs.YtplijnfaiofckaaGreatDoor
open Go.RowKit
set_option linter.unusedVariables false
set_option linter.unusedSimpArgs false
set_option maxRecDepth 100000
set_option maxHeartbeats 9000000

def EndsFrom (K : Nat → Int) (n m : Nat) (g : Nat → Value) : Prop := ∀ j, m ≤ j → j < n → ∃ (e h : Nat), g j = .int .i64 (e : Int) ∧ Fo K n 1 j e h

def EndsIs (K : Nat → Int) (n B : Nat) (w : World) (v : Value) : Prop :=
 (v = .slice none 0 0 ∧ ∀ h, ¬ Fo K n 1 0 n h) ∨
 (∃ E : Nat → Nat, 0 < n ∧ v = .slice (some ⟨B, 0, none⟩) n n ∧ w.rowIs B 3 n (fun j => .int .i64 (E j : Int)) ∧ (∀ i, i < n → ∃ h, Fo K n 1 i (E i) h) ∧ E 0 = n)

theorem EndsFrom.store {K : Nat → Int} {n i e h : Nat} {g : Nat → Value} (hg : EndsFrom K n (i + 1) g) (t : Fo K n 1 i e h) : EndsFrom K n i (fun j => if j = i then .int .i64 (e : Int) else g j) := by
 intro j hj hn;by_cases hji : j = i
 ·subst hji;exact ⟨e, h, by simp, t⟩
 ·obtain ⟨e', h', he, t'⟩ := hg j (by omega) hn;exact ⟨e', h', by simp [hji, he], t'⟩
theorem no_tree_neg {K : Nat → Int} {n i : Nat} (hi : i < n) (hk : K i < 0) : ∀ h, ¬ Fo K n 1 0 n h := fun h t => by
 obtain ⟨e, g, u⟩ := t.within i (by omega) hi;obtain ⟨_, _, _, h0, _⟩ := u.one;omega
theorem no_tree_end {K : Nat → Int} {n i k h : Nat} (hi : i < n) (hk : (k : Int) < K i) (t : Fo K n k (i + 1) n h) : ∀ h, ¬ Fo K n 1 0 n h := fun h' t0 => by
 obtain ⟨e, g, u⟩ := t0.within i (by omega) hi;obtain ⟨_, _, _, h0, u'⟩ := u.one;obtain ⟨d, hd⟩ : ∃ d, (K i).toNat = k + (1 + d) := ⟨(K i).toNat - k - 1, by omega⟩;rw [hd] at u';obtain ⟨m, g1, g2, u1, u2, _⟩ := Fo.split k (1 + d) u';obtain ⟨rfl, _⟩ := t.det u1;obtain ⟨m', g3, g4, u3, u4, _⟩ := Fo.split 1 d u2;obtain ⟨_, _, hlt, _, _⟩ := u3.one;omega

theorem EndsIs.made {K : Nat → Int} {n B : Nat} {w : World} {g : Nat → Value} (hn : 0 < n) (hr : w.rowIs B 3 n g) (hg : EndsFrom K n 0 g) (h0 : g 0 = .int .i64 (n : Int)) : EndsIs K n B w (.slice (some ⟨B, 0, none⟩) n n) := by
 refine .inr ⟨fun j => (intOf (g j)).toNat, hn, rfl, hr.congr fun i hi => ?_, fun i hi => ?_, ?_⟩
 ·obtain ⟨e, h, he, _⟩ := hg i (by omega) hi;simp [he, intOf]
 ·obtain ⟨e, h, he, t⟩ := hg i (by omega) hi;refine ⟨h, ?_⟩
  simpa [he, intOf] using t
 ·simp [h0, intOf]
theorem no_tree_first {K : Nat → Int} {n : Nat} {g : Nat → Value} {e : Int} (hn : 0 < n) (hg : EndsFrom K n 0 g) (he : g 0 = .int .i64 e) (hne : e ≠ (n : Int)) : ∀ h, ¬ Fo K n 1 0 n h := fun h t => by
 obtain ⟨e', h', he', t'⟩ := hg 0 (by omega) hn;rw [he] at he';have := (t.det t').1;simp only [Value.int.injEq, true_and] at he';omega

theorem treeEnds_in (ao : Option Addr) (n cap : Nat) (K : Nat → Int) (w : World) (hn : n ≤ 200)
  (hc : 0 < n → ∃ b o, ao = some ⟨b, o, none⟩ ∧ b < w.heap.size ∧ ∀ i, i < n → w.cell? ⟨b, o + i * 10 + 6, none⟩ = some (.int .i64 (K i))) :
  Calls Tryz.prog 50 #[.slice ao n cap] w fun e w' => (∃ v, e = .returned v ∧ EndsIs K n w.heap.size w' v) ∧ Below w.heap.size w w' := by
 have hmk := qe3 60 3 (.int .i64 0) 1 8 Tryz.underlying60 (by kernel_rfl) n (by omega) (by omega);have hc' : Hid (0 < n → ∃ b o, ao = some ⟨b, o, none⟩ ∧ b < w.heap.size ∧ ∀ i, i < n → w.cell? ⟨b, o + i * 10 + 6, none⟩ = some (.int .i64 (K i))) := hc;clear hc;go_enter Tryz.func50, Tryz.ntmps50;go_wp2_with fail;obtain ⟨g0, hg0⟩ := rowIs_madeW w (.int .i64 0) n 1 3;have bw0 := qg8 w (.int .i64 0) n 1 3;generalize madeW w (.int .i64 0) n 1 3 = w0 at hg0 bw0 ⊢;rw [Nat.mul_one] at hg0;clear hmk;go_loopw [4] (fun i wr => ∃ (m : Nat) (g : Nat → Value), i = .int .i64 ((m : Int) - 1) ∧ m ≤ n ∧ Below w.heap.size w wr ∧ Hid (wr.rowIs w.heap.size 3 n g ∧ EndsFrom K n m g)) (fun i _ => (intOf i + 1).toNat);case atStart => exact ⟨n, g0, rfl, by omega, bw0, hg0, fun j h1 h2 => by omega⟩
 case round =>
  obtain ⟨m, g, rfl, q1, q2, q3⟩ := hrel;by_cases hm : m = 0
  ·subst hm;by_cases hn0 : n = 0
   ·have hno : Hid (∀ h, ¬ Fo K n 1 0 n h) := fun h t => by have := t.le.1; omega
    have hn0' : (n : Int) = 0 := by omega
    go_wp2_with fail;go_ret;exact ⟨⟨_, rfl, .inl ⟨rfl, hno.out⟩⟩, q2⟩
   ·have d0 := q3.out.1.cell (show 0 < n by omega);obtain ⟨e, h, he, t⟩ := q3.out.2 0 (by omega) (by omega);rw [he] at d0;have hn0' : ¬ (n : Int) = 0 := by omega
    by_cases hen : (e : Int) = (n : Int)
    ·have hfin : Hid (EndsIs K n w.heap.size wr (.slice (some ⟨w.heap.size, 0, none⟩) n n)) := EndsIs.made (by omega) q3.out.1 q3.out.2 (by rw [he, hen]);clear t he q3;go_wp2_with fail;go_ret;exact ⟨⟨_, rfl, hfin.out⟩, q2⟩
    ·have hno : Hid (∀ h, ¬ Fo K n 1 0 n h) := no_tree_first (by omega) q3.out.2 he hen;have hne : ((e : Int) != (n : Int)) = true := by simpa using hen
     clear t he q3;go_wp2_with fail;go_ret;exact ⟨⟨_, rfl, .inl ⟨rfl, hno.out⟩⟩, q2⟩
  ·obtain ⟨i, rfl⟩ : ∃ i, m = i + 1 := ⟨m - 1, by omega⟩;have hei : (((i + 1 : Nat) : Int) - 1) = (i : Int) := by omega
   rw [hei];obtain ⟨b, o, rfl, hb, hcc⟩ := hc'.out (by omega);have c6 := hcc i (by omega);rw [← q2.cell (p := ⟨b, _, none⟩) hb] at c6;have hin : (i : Int) < (n : Int) := by omega
   clear hcc hei;by_cases hk : K i < 0
   ·have hno : Hid (∀ h, ¬ Fo K n 1 0 n h) := no_tree_neg (by omega) hk;go_wp2_with fail;go_ret;exact ⟨⟨_, rfl, .inl ⟨rfl, hno.out⟩⟩, q2⟩
   ·go_wp2_with fail;go_loopw [5, 29] (fun v k ws => ∃ (e k' : Nat), v = .int .i64 (e : Int) ∧ k = .int .i64 (k' : Int) ∧ wr = ws ∧ (k' : Int) ≤ K i ∧ e ≤ n ∧ i + 1 ≤ e ∧ k' ≤ n ∧ Hid (∃ h, Fo K n k' (i + 1) e h)) (fun _ k _ => n - (intOf k).toNat);case atStart => exact ⟨i + 1, 0, by simp, rfl, rfl, by omega, by omega, by omega, by omega, ⟨0, .nil⟩⟩
    case round =>
     obtain ⟨e, k, rfl, rfl, rfl, r1, r2, r3, r4, r5⟩ := hrel;by_cases hkk : (k : Int) < K i
     ·by_cases hen : e = n
      ·have hno : Hid (∀ h, ¬ Fo K n 1 0 n h) := by
        obtain ⟨h, t⟩ := r5.out;subst hen;exact no_tree_end (by omega) hkk t
       have hen' : (e : Int) = (n : Int) := by omega
       clear r5 q3;go_wp2_with fail;go_ret;exact ⟨⟨_, rfl, .inl ⟨rfl, hno.out⟩⟩, q2⟩
      ·have hen' : ¬ (e : Int) = (n : Int) := by omega
       have hel : (e : Int) < (n : Int) := by omega
       have d0 := q3.out.1.cell (show e < n by omega);obtain ⟨e2, h2, he2, t2⟩ := q3.out.2 e (by omega) (by omega);rw [he2] at d0
       have hnew : Hid (∃ h, Fo K n (k + 1) (i + 1) e2 h) := by
        obtain ⟨h, t⟩ := r5.out;exact ⟨_, t.join t2⟩
       have le2 := t2.le
       have hkn : k + 1 ≤ n := by
        obtain ⟨h, t⟩ := r5.out;have := t.le.1;omega
       clear r5 he2 t2;go_wp2_with fail;go_roundw;case rel => exact ⟨e2, k + 1, rfl, rfl, by first | trivial | rfl, by omega, by omega, by omega, by omega, hnew⟩
       case measure => simp [intOf]; omega
     ·have d0 := q3.out.1.cell (show i < n by omega);have f0 := q3.out.1.frozen i
      have q6 : Hid ((wr.setCell ⟨w.heap.size, i, none⟩ (.int .i64 (e : Int))).rowIs w.heap.size 3 n (fun j => if j = i then .int .i64 (e : Int) else g j) ∧ EndsFrom K n i (fun j => if j = i then .int .i64 (e : Int) else g j)) := by
       obtain ⟨h, t⟩ := r5.out;refine ⟨q3.out.1.set i _, q3.out.2.store (Fo.mk1 (by omega) (by omega) (g := h) ?_)⟩
       rwa [show (K i).toNat = k by omega]
      have q7 : Below w.heap.size w (wr.setCell ⟨w.heap.size, i, none⟩ (.int .i64 (e : Int))) := q2.setCell (p := ⟨w.heap.size, i, none⟩) (Nat.le_refl _) _;generalize g i = gi at d0;clear r5 q3;go_wp2_with fail;go_roundw;case rel => exact ⟨i, _, rfl, by omega, q7, q6⟩
      case measure => simp [intOf]
end Go.Proofs.YtplijnfaiofckaaGreatDoor
namespace Go.Proofs.YtplijnfaiofckaaGreatDoor
open Go.RowKit Go.Shelf
set_option linter.unusedVariables false
set_option linter.unusedSimpArgs false

structure Keep (lo B : Nat) (W W' : World) : Prop where
 size : W.heap.size ≤ W'.heap.size
 block : ∀ b, b < lo ∨ B ≤ b → b < W.heap.size → W'.heap[b]? = W.heap[b]?
theorem Keep.trans {lo B : Nat} {W W' W'' : World} (h : Keep lo B W W') (k : Keep lo B W' W'') : Keep lo B W W'' :=
 ⟨Nat.le_trans h.size k.size, fun b hb hl => (k.block b hb (Nat.lt_of_lt_of_le hl h.size)).trans (h.block b hb hl)⟩
theorem Keep.of_below {lo B : Nat} {W W' : World} (h : Below W.heap.size W W') : Keep lo B W W' := ⟨h.size, fun b _ hl => h.block b hl⟩
theorem Keep.setCell {lo B : Nat} (W : World) {a : Addr} (h1 : lo ≤ a.block) (h2 : a.block < B) (u : Value) : Keep lo B W (W.setCell a u) :=
 ⟨by rw [World.size_setCell]; exact Nat.le_refl _, fun b hb _ => Below.heap_setCell W a u b (by omega)⟩
theorem Keep.putObj {lo B : Nat} (W : World) {l : Nat} (h1 : lo ≤ l) (h2 : l < B) (o : Obj) : Keep lo B W (W.putObj l o) :=
 ⟨by simp, fun b hb _ => World.putObj_heap_other (by omega)⟩
theorem Keep.wider {lo B B' : Nat} {W W' : World} (h : Keep lo B W W') (hB : B ≤ B') : Keep lo B' W W' :=
 ⟨h.size, fun b hb hl => h.block b (by omega) hl⟩

def Stable {β : Type} (B : Nat) (I : β → World → Prop) : Prop := ∀ s A C, I s A → Below B A C → I s C
theorem qb6 {B : Nat} (W : World) {l : Nat} (h : B ≤ l) (hl : l < W.heap.size) (o : Obj) : Below B W (W.putObj l o) :=
 (Below.refl B W).grown (grownBy_putObj' W l o) (by omega) (fun k e => by cases e; exact h)

def RoundEnd {α : Type} (lo B : Nat) (I : List α → World → Prop) (Ix : Code → List α → World → Prop) (xs : List α) (W : World) : Exit → Act → World → Prop
 | .normal, _, W' => Keep lo B W W' ∧ I xs W'
 | .ret, _, W' => Keep lo B W W' ∧ Ix .ret xs W'
 | .exit id, _, W' => Keep lo B W W' ∧ Ix (.exit id) xs W'
 | .goto t, _, W' => Keep lo B W W' ∧ Ix (.goto t) xs W'
 | .panic _, _, _ => False
 | .outgrown, _, _ => False

def SeqB {α : Type} (m : Nat) (P : Program) (gf : Nat) (lb : Array Value) (encs : α → Array Value) (lo l : Nat) (S Sp : List α → Prop) (N : Nat) (W : World) : Prop :=
 ∀ (J Jx : List α → World → Prop), Stable W.heap.size J → Stable W.heap.size Jx →
  (∀ pre x W1, J pre W1 → pre.length < N → YieldAt Fence.wide (m - 1) P l (encs x) W1 fun e W' =>
   (e = .returned (.bool true) ∧ J (pre ++ [x]) W' ∧ Keep lo W.heap.size W1 W') ∨ (e = .returned (.bool false) ∧ Jx (pre ++ [x]) W')) →
  J [] W →
  CallsIn Fence.wide m P gf (#[.func (.yield l) #[] #[]] ++ lb) W fun e W' => (∃ v, e = .returned v) ∧ ((∃ xs, S xs ∧ J xs W') ∨ (∃ pre, Sp pre ∧ Jx pre W'))

theorem range_law {α : Type} {P : Program} {m : Nat} {g : Operand} {ps : Array Tmp} {assign body : Code} {Q : Exit → Act → World → Prop} {a : Act} {w : World}
  {gf : Nat} {lb : Array Value} (hg : a.eval g = .func (.func gf) #[] lb) (eg : ∀ args w, (callFunc gf args).run P w = .ok (.enter gf args) w) (h1 : 1 ≤ m)
  {encs : α → Array Value} (hps : ∀ x, (encs x).size = ps.size) {lo N : Nat} (hlo : lo ≤ w.heap.size) {S Sp : List α → Prop}
  (I : List α → World → Prop) (Ix : Code → List α → World → Prop) (hI : Stable w.heap.size I) (hIx : ∀ c, Stable w.heap.size (Ix c)) (h0 : I [] w)
  (hseq : ∀ W, W.heap.size = w.heap.size + 2 → Below w.heap.size w W → SeqB (m - 1) P gf lb encs lo (w.heap.size + 1) S Sp N W)
  (Ax : α → Act → World → Prop) (hAx : ∀ x a' W o, Ax x a' W → Ax x a' (W.putObj (w.heap.size + 1) o))
  (hassign : ∀ (l : Nat) (pre : List α) (x : α) (W : World) (K : Act → World → Prop), w.heap.size + 2 ≤ W.heap.size → I pre W →
   (∀ a' W', Keep lo w.heap.size W W' → I pre W' → Ax x a' W' → K a' W') →
   assign.wpIn (Fence.wide.inRound l) (m - 1 - 1) P (Exit.then K (fun _ _ _ => False)) { tmps := (ps.zip (encs x)).foldl (fun t (p, v) => t.setIfInBounds p v) a.tmps, defers := [] } W)
  (hbody : ∀ (l : Nat) (pre : List α) (x : α) (a' : Act) (W : World), w.heap.size + 2 ≤ W.heap.size → I pre W → Ax x a' W → pre.length < N →
   body.wpIn (Fence.wide.inRound l) (m - 1 - 1) P (RoundEnd lo w.heap.size I Ix (pre ++ [x]) W) a' W)
  (hdone : ∀ (D : Nat) (xs : List α) (W : World), w.heap.size = D → S xs → I xs W → W.heap[D]? = some (.deferred (some [])) → Q .normal { a with defers := { target := .collected D, args := #[] } :: a.defers } W)
  (hstop : ∀ (D : Nat) (c : Code) (pre : List α) (W : World), w.heap.size = D → Sp pre → Ix c pre W → W.heap[D]? = some (.deferred (some [])) →
   c.wpIn Fence.wide m P Q { a with defers := { target := .collected D, args := #[] } :: a.defers } W) :
  (Code.rangeFunc g ps assign body).wpIn Fence.wide m P Q a w := by
 refine wpIn_rangeFunc fun fn hfn => ?_
 -- the record of the loop, in whatever state
 let R : LoopState → Option Code → Loop := fun st pe => { state := st, pending := pe, fn := fn, tmps := a.tmps, params := ps, assign := assign, body := body, defers := w.heap.size }
 let W0 : World := (w.alloc (.deferred (some []))).alloc (.loop (R .ready none))
 have sz0 : W0.heap.size = w.heap.size + 2 := by simp [W0]
 have bel0 : Below w.heap.size w W0 := ((Below.refl _ w).alloc (Nat.le_refl _) _).alloc (by simp) _;have hD0 : W0.heap[w.heap.size]? = some (.deferred (some [])) := (Below.heap_alloc _ _ _ (by simp)).trans (World.alloc_heap_new w _)
 have hL0 : W0.heap[w.heap.size + 1]? = some (.loop (R .ready none)) := by
  have := World.alloc_heap_new (w.alloc (.deferred (some []))) (.loop (R .ready none))
  rwa [World.size_alloc] at this
 refine ⟨w.heap.size + 1, [{ target := .collected w.heap.size, args := #[] }], W0, { target := .fn (.func gf) lb, args := #[.func (.yield (w.heap.size + 1)) #[] #[]] }, W0, gf,
  #[.func (.yield (w.heap.size + 1)) #[] #[]] ++ lb, W0, run_enterLoop_outer _ _ _ _ _, ?_, fun _ _ => trivial, ?_, fun _ => h1, ?_⟩
 ·simp only [resolve, hg];simp [go_sem]
 ·simp [invoke, go_sem, eg]
 have key := hseq W0 sz0 bel0
  (fun pre W => I pre W ∧ w.heap.size + 2 ≤ W.heap.size ∧ W.heap[w.heap.size + 1]? = some (.loop (R .ready none)) ∧ W.heap[w.heap.size]? = some (.deferred (some [])))
  (fun pre W => ∃ c, Ix c pre W ∧ w.heap.size + 2 ≤ W.heap.size ∧ W.heap[w.heap.size + 1]? = some (.loop (R .done (some c))) ∧ W.heap[w.heap.size]? = some (.deferred (some [])))
  (fun s A C hs hb => ⟨hI s A C hs.1 (hb.mono (by omega)), Nat.le_trans hs.2.1 hb.size, (hb.block _ (by omega)).trans hs.2.2.1, (hb.block _ (by omega)).trans hs.2.2.2⟩)
  (fun s A C hs hb => by
   obtain ⟨c, k1, k2, k3, k4⟩ := hs;exact ⟨c, hIx c s A C k1 (hb.mono (by omega)), Nat.le_trans k2 hb.size, (hb.block _ (by omega)).trans k3, (hb.block _ (by omega)).trans k4⟩)
  ?_ ⟨hI _ _ _ h0 bel0, by omega, hL0, hD0⟩
 ·refine key.mono ?_;rintro e W2 ⟨⟨v, rfl⟩, (⟨xs, hS, hi, hsz, hl, hk⟩ | ⟨pre, hSp, c, hi, hsz, hl, hk⟩)⟩
  ·refine ⟨none, _, run_endLoop (P := P) hl (by simp [R]), ?_⟩;exact hdone _ xs _ rfl hS (hI _ _ _ hi (qb6 _ (by omega) (by omega) _)) ((World.putObj_heap_other (by omega)).trans hk)
  ·refine ⟨some c, _, run_endLoop (P := P) hl (by simp [R]), ?_⟩;exact hstop _ c pre _ rfl hSp (hIx c _ _ _ hi (qb6 _ (by omega) (by omega) _)) ((World.putObj_heap_other (by omega)).trans hk)
 ·rintro pre x W ⟨hi, hsz, hl, hk⟩ hlen;refine ⟨fn, _, assign, body, run_yield (P := P) (args := encs x) hl (hps x), roundIn_of_wpIn hfn (hassign _ pre x W _ hsz hi ?_)⟩;intro a' Wa ka ia ax;have la := (ka.block _ (.inr (by omega)) (by omega)).trans hl;have da := (ka.block _ (.inr (by omega)) (by omega)).trans hk;have sa : w.heap.size + 2 ≤ Wa.heap.size := Nat.le_trans hsz ka.size;refine ⟨_, run_beginRound la rfl, ?_⟩;have kb := Keep.putObj (lo := lo) (B := w.heap.size + 2) Wa (l := w.heap.size + 1) (by omega) (by omega) (.loop { R .ready none with state := .busy });have lb' : (Wa.putObj (w.heap.size + 1) (.loop { R .ready none with state := .busy })).heap[w.heap.size + 1]? = some (.loop { R .ready none with state := .busy }) := World.putObj_heap_same (by omega);have db : (Wa.putObj (w.heap.size + 1) (.loop { R .ready none with state := .busy })).heap[w.heap.size]? = some (.deferred (some [])) := (World.putObj_heap_other (by omega)).trans da;have ib := hI _ _ _ ia (qb6 Wa (l := w.heap.size + 1) (by omega) (by omega) (.loop { R .ready none with state := .busy }));refine wpIn_mono (hbody _ pre x a' _ (by simpa using sa) ib (hAx x a' Wa _ ax) hlen) ?_;intro e a3 W3 hp
  have fin : ∀ (jump : Option Code), Keep lo w.heap.size (Wa.putObj (w.heap.size + 1) (.loop { R .ready none with state := .busy })) W3 →
    ∃ W4, W4 = W3.putObj (w.heap.size + 1) (.loop (R (if jump.isNone then .ready else .done) jump)) ∧ (Instr.endRound (w.heap.size + 1) jump).run P W3 = .ok (.bool jump.isNone) W4 ∧ Below w.heap.size W3 W4 ∧ w.heap.size + 2 ≤ W4.heap.size ∧
     W4.heap[w.heap.size + 1]? = some (.loop (R (if jump.isNone then .ready else .done) jump)) ∧ W4.heap[w.heap.size]? = some (.deferred (some [])) ∧ Keep lo (w.heap.size + 2) W W4 := by
   intro jump k3
   have s3 : w.heap.size + 2 ≤ W3.heap.size := by
    have := k3.size;simp at this;omega
   have l3 := (k3.block _ (.inr (by omega)) (by simp; omega)).trans lb';have d3 := (k3.block _ (.inr (by omega)) (by simp; omega)).trans db;refine ⟨_, rfl, run_endRound (P := P) jump l3, qb6 _ (by omega) (by omega) _, by simpa using s3, World.putObj_heap_same (by omega), (World.putObj_heap_other (by omega)).trans d3, ?_⟩;exact (((ka.wider (by omega)).trans kb).trans (k3.wider (by omega))).trans (Keep.putObj _ (by omega) (by omega) _)
  rw [sz0]
  cases e with
  | normal =>
   obtain ⟨k3, i3⟩ := hp;obtain ⟨W4, _, r4, b4, s4, l4, d4, k4⟩ := fin none k3;exact ⟨_, _, r4, .inl ⟨rfl, ⟨hI _ _ _ i3 b4, s4, l4, d4⟩, k4⟩⟩
  | ret =>
   obtain ⟨k3, i3⟩ := hp;obtain ⟨W4, _, r4, b4, s4, l4, d4, k4⟩ := fin (some .ret) k3;exact ⟨_, _, r4, .inr ⟨rfl, _, hIx _ _ _ _ i3 b4, s4, l4, d4⟩⟩
  | exit id =>
   obtain ⟨k3, i3⟩ := hp;obtain ⟨W4, _, r4, b4, s4, l4, d4, k4⟩ := fin (some (.exit id)) k3;exact ⟨_, _, r4, .inr ⟨rfl, _, hIx _ _ _ _ i3 b4, s4, l4, d4⟩⟩
  | goto t =>
   obtain ⟨k3, i3⟩ := hp;obtain ⟨W4, _, r4, b4, s4, l4, d4, k4⟩ := fin (some (.goto t)) k3;exact ⟨_, _, r4, .inr ⟨rfl, _, hIx _ _ _ _ i3 b4, s4, l4, d4⟩⟩
  | panic ch => exact hp.elim
  | outgrown => exact hp.elim
end Go.Proofs.YtplijnfaiofckaaGreatDoor

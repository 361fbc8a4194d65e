import Derived.Test.YtnhanccjnhgjoaaGreatDoorLtD
namespace Go.Proofs.YtnhanccjnhgjoaaGreatDoor
open Go.RowKit
set_option linter.unusedVariables false
set_option linter.unusedSimpArgs false
set_option maxRecDepth 100000
set_option maxHeartbeats 9000000
structure PI where
 lo : Nat
 hi : Nat
 v3 : Value
 v4 : Value
 v5 : Value
 v8 : Value
 v9 : Value
 p : PR
def pcs (x : PI) : List Value := [.int .i64 x.p.params, .bool x.p.vararg, .int .i64 x.p.regs, x.v3, x.v4, x.v5, .int .i64 x.p.kids, .string x.p.name, x.v8, x.v9]
theorem pcs_len (L : List PI) : (L.flatMap pcs).length = L.length * 10 := by
 induction L with
 | nil => rfl
 | cons x L ih => rw [List.flatMap_cons, List.length_append, ih, List.length_cons, Nat.succ_mul]; simp [pcs]; omega
structure ItOk (y : World) (x : PI) : Prop where
 row : PRow x.lo y x.v3 x.v4 x.v5 x.v8 x.v9 x.p
 b3 : ∀ q, x.v3.ownBlock = some q → q < x.hi
 b4 : ∀ q, x.v4.ownBlock = some q → q < x.hi
 b5 : ∀ q, x.v5.ownBlock = some q → q < x.hi
 b8 : ∀ q, x.v8.ownBlock = some q → q < x.hi
 b9 : ∀ q, x.v9.ownBlock = some q → q < x.hi
def Chain : Nat → Nat → List PI → Prop
 | lo, hi, [] => lo ≤ hi
 | lo, hi, x :: L => lo ≤ x.lo ∧ x.lo ≤ x.hi ∧ Chain x.hi hi L
theorem Chain.le : ∀ {L : List PI} {lo hi : Nat}, Chain lo hi L → lo ≤ hi
 | [], _, _, h => h
 | x :: L, lo, hi, h => by have := h.2.2.le; have := h.1; have := h.2.1; omega
theorem Chain.append : ∀ {L M : List PI} {lo mid hi : Nat}, Chain lo mid L → Chain mid hi M → Chain lo hi (L ++ M)
 | [], [], _, _, _, h, k => Nat.le_trans h k
 | [], x :: M, lo, mid, hi, h, k => ⟨Nat.le_trans h k.1, k.2⟩
 | x :: L, M, lo, mid, hi, h, k => ⟨h.1, h.2.1, Chain.append h.2.2 k⟩
theorem Chain.up : ∀ {L : List PI} {lo hi hi' : Nat}, Chain lo hi L → hi ≤ hi' → Chain lo hi' L
 | [], _, _, _, h, k => Nat.le_trans h k
 | x :: L, lo, hi, hi', h, k => ⟨h.1, h.2.1, h.2.2.up k⟩
theorem Chain.down {L : List PI} {lo lo' hi : Nat} (h : Chain lo hi L) (k : lo' ≤ lo) : Chain lo' hi L := by
 cases L with
 | nil => exact Nat.le_trans k h
 | cons x L => exact ⟨Nat.le_trans k h.1, h.2⟩
theorem Chain.mem : ∀ {L : List PI} {lo hi : Nat} {x : PI}, Chain lo hi L → x ∈ L → lo ≤ x.lo ∧ x.hi ≤ hi
 | [], _, _, _, _, h => by cases h
 | a :: L, lo, hi, x, h, hx => by
  rcases List.mem_cons.1 hx with rfl | hx
  ·exact ⟨h.1, h.2.2.le⟩
  ·have := h.2.2.mem hx;have := h.1;have := h.2.1;omega
theorem own_ne {y : World} {b b' : Nat} {e e' : TypeId} {z z' n n' : Nat} {v v' : Value} {xs xs' : List Value} (h : y.ownsRow b e z v n xs) (h' : y.ownsRow b' e' z' v' n' xs') (he : e ≠ e') : ∀ q, v.ownBlock = some q → v'.ownBlock ≠ some q := fun q hq hq' => by
 rcases h.2 with ⟨rfl, _⟩ | ⟨g, cap, cur, rfl, _, hg, _⟩
 ·cases hq
 ·rcases h'.2 with ⟨rfl, _⟩ | ⟨g', cap', cur', rfl, _, hg', _⟩
  ·cases hq'
  ·simp only [Value.ownBlock, Option.some.injEq] at hq hq';subst hq hq';rw [hg] at hg';simp only [Option.some.injEq, Obj.cells.injEq] at hg';exact he hg'.2.1
theorem own_kept {y y' : World} {b : Nat} {e : TypeId} {z n : Nat} {v : Value} {xs : List Value} (h : y.ownsRow b e z v n xs) (hk : ∀ q, v.ownBlock = some q → y'.heap[q]? = y.heap[q]?) : y'.ownsRow b e z v n xs := by
 refine ⟨h.1, ?_⟩;rcases h.2 with hn | ⟨g, cap, cur, rfl, hbb, hg, rest⟩
 ·exact .inl hn
 ·exact .inr ⟨g, cap, cur, rfl, hbb, (hk g rfl).trans hg, rest⟩
theorem PRow.keep {B : Nat} {y y' : World} {v3 v4 v5 v8 v9 : Value} {p : PR} (h : PRow B y v3 v4 v5 v8 v9 p) (hk : ∀ q, (v3.ownBlock = some q ∨ v4.ownBlock = some q ∨ v5.ownBlock = some q ∨ v8.ownBlock = some q ∨ v9.ownBlock = some q) → y'.heap[q]? = y.heap[q]?) : PRow B y' v3 v4 v5 v8 v9 p :=
 ⟨own_kept h.o3 fun q hq => hk q (.inl hq), own_kept h.o4 fun q hq => hk q (.inr (.inl hq)), own_kept h.o5 fun q hq => hk q (.inr (.inr (.inl hq))), own_kept h.o8 fun q hq => hk q (.inr (.inr (.inr (.inl hq)))), own_kept h.o9 fun q hq => hk q (.inr (.inr (.inr (.inr hq)))), h.sep⟩
theorem PRow.lt {B : Nat} {y : World} {v3 v4 v5 v8 v9 : Value} {p : PR} (h : PRow B y v3 v4 v5 v8 v9 p) {q : Nat} (hq : v3.ownBlock = some q ∨ v4.ownBlock = some q ∨ v5.ownBlock = some q ∨ v8.ownBlock = some q ∨ v9.ownBlock = some q) : B ≤ q ∧ q < y.heap.size := by
 rcases hq with hq | hq | hq | hq | hq
 ·exact h.o3.lt q hq
 ·exact h.o4.lt q hq
 ·exact h.o5.lt q hq
 ·exact h.o8.lt q hq
 ·exact h.o9.lt q hq
theorem PRow.ne {B : Nat} {y : World} {v3 v4 v5 v8 v9 : Value} {p : PR} (h : PRow B y v3 v4 v5 v8 v9 p) {b : Nat} {e : TypeId} {z n : Nat} {v : Value} {xs : List Value} (hv : y.ownsRow b e z v n xs) (he : e ≠ 76 ∧ e ≠ 82 ∧ e ≠ 84 ∧ e ≠ 3 ∧ e ≠ 9)
  {q : Nat} (hq : v3.ownBlock = some q ∨ v4.ownBlock = some q ∨ v5.ownBlock = some q ∨ v8.ownBlock = some q ∨ v9.ownBlock = some q) : v.ownBlock ≠ some q := fun hv' => by
 obtain ⟨e3, e4, e5, e8, e9⟩ := he;rcases hq with hq | hq | hq | hq | hq
 ·exact own_ne hv h.o3 e3 q hv' hq
 ·exact own_ne hv h.o4 e4 q hv' hq
 ·exact own_ne hv h.o5 e5 q hv' hq
 ·exact own_ne hv h.o8 e8 q hv' hq
 ·exact own_ne hv h.o9 e9 q hv' hq
theorem ItOk.keep {y y' : World} {x : PI} (h : ItOk y x) (hk : ∀ q, (x.v3.ownBlock = some q ∨ x.v4.ownBlock = some q ∨ x.v5.ownBlock = some q ∨ x.v8.ownBlock = some q ∨ x.v9.ownBlock = some q) → y'.heap[q]? = y.heap[q]?) : ItOk y' x := { h with row := h.row.keep hk }
theorem ItOk.ex {R : Nat} {y y' : World} {x : PI} (h : ItOk y x) (hx : Ex R y y') (hR : R < x.lo) : ItOk y' x :=
 h.keep fun q hq => hx.block q (h.row.lt hq).2 (by have := (h.row.lt hq).1; omega)
theorem ItOk.grown {y y' : World} {x : PI} (h : ItOk y x) {b : Nat} {e : TypeId} {z n : Nat} {v : Value} {xs : List Value} (hv : y.ownsRow b e z v n xs) (he : e ≠ 76 ∧ e ≠ 82 ∧ e ≠ 84 ∧ e ≠ 3 ∧ e ≠ 9) (hg : y.grownBy y' v.ownBlock) : ItOk y' x :=
 h.keep fun q hq => hg.block q (h.row.lt hq).2 (fun e1 => h.row.ne hv he hq e1.symm)
structure TrOk (y w' : World) (v : Value) (L : List PI) (mid : Nat) : Prop where
 row : w'.ownsRow mid 48 10 v L.length (L.flatMap pcs)
 its : ∀ x ∈ L, ItOk w' x
 chain : Chain y.heap.size mid L
 mid : mid ≤ w'.heap.size
def rdFor (t : RS → Int → List PR × RS × Int) : Nat → RS → Int → List (List PR) → List (List PR) × RS × Int
 | 0, r, an, acc => (acc, r, an)
 | n + 1, r, an, acc => if (t r an).2.1.bad ≠ 0 then ([], (t r an).2) else rdFor t n (t r an).2.1 (t r an).2.2 (acc ++ [(t r an).1])
theorem rdFor_bad {t : RS → Int → List PR × RS × Int} {n : Nat} {r : RS} {an : Int} {acc : List (List PR)} (h : (t r an).2.1.bad ≠ 0) : rdFor t (n + 1) r an acc = ([], (t r an).2) := if_pos h
theorem rdFor_ok {t : RS → Int → List PR × RS × Int} {n : Nat} {r : RS} {an : Int} {acc : List (List PR)} (h : (t r an).2.1.bad = 0) : rdFor t (n + 1) r an acc = rdFor t n (t r an).2.1 (t r an).2.2 (acc ++ [(t r an).1]) := if_neg (by simp [h])
structure FoOk (R : Nat) (w y : World) (o : Value) (L : List (Value × List PI)) (mid : Nat) : Prop where
 row : y.ownsRow w.heap.size 24 1 o L.length (L.map (·.1))
 each : ∀ x ∈ L, ∃ m, w.heap.size ≤ m ∧ y.ownsRow m 48 10 x.1 x.2.length (x.2.flatMap pcs)
 its : ∀ x ∈ L, ∀ z ∈ x.2, ItOk y z
 chain : Chain w.heap.size mid (L.flatMap (·.2))
 mid : mid ≤ y.heap.size
 ex : Ex R w y
theorem infF : (Tryz.prog.info? 24).map (fun i => (i.zero, i.size, i.bytes)) = some (some (.slice none 0 0), 1, 24) := by kernel_rfl
theorem FoOk.none {R : Nat} {w y : World} (h : Ex R w y) : FoOk R w y (.slice none 0 0) [] w.heap.size := ⟨World.ownsRow_nil _ _ _ _, fun _ hx => (by cases hx), fun _ hx => (by cases hx), Nat.le_refl _, h.size, h⟩
theorem FoOk.later {R : Nat} {w y y' : World} {o : Value} {L : List (Value × List PI)} {mid : Nat} (h : FoOk R w y o L mid) (hR : R < w.heap.size) (hx : Ex R y y') : FoOk R w y' o L mid := by
 refine ⟨own_ex h.row hR hx, fun x hx' => ?_, fun x hx' z hz => (h.its x hx' z hz).ex hx ?_, h.chain, Nat.le_trans h.mid hx.size, h.ex.trans hx⟩
 ·obtain ⟨m, hm, hr⟩ := h.each x hx';exact ⟨m, hm, own_ex hr (by omega) hx⟩
 ·have := (h.chain.mem (x := z) (List.mem_flatMap.2 ⟨x, hx', hz⟩)).1;omega
theorem FoOk.push {R : Nat} {w y0 y w' : World} {o o' v : Value} {L : List (Value × List PI)} {its : List PI} {mid m1 : Nat} {nb : Obj} (h : FoOk R w y o L mid) (k : TrOk y0 y v its m1) (hy : mid ≤ y0.heap.size)
  (hown : w'.ownsRow w.heap.size 24 1 o' (L.length + 1) (L.map (·.1) ++ [v])) (hg : (y.alloc nb).grownBy w' o.ownBlock) : FoOk R w w' o' (L ++ [(v, its)]) m1 := by
 have hE : 24 ≠ 76 ∧ 24 ≠ 82 ∧ 24 ≠ 84 ∧ 24 ≠ 3 ∧ 24 ≠ 9 := by decide
 have hal : ∀ q, q < y.heap.size → (y.alloc nb).heap[q]? = y.heap[q]? := fun q hq => heap_alloc_old y nb hq;have hrow := h.row.alloc nb;have hsz : mid ≤ m1 := Nat.le_trans hy k.chain.le
 have hkeep : ∀ {m : Nat} {u : Value} {n : Nat} {xs : List Value}, y.ownsRow m 48 10 u n xs → w'.ownsRow m 48 10 u n xs := fun {m u n xs} hr =>
  own_kept (hr.alloc nb) fun q hq => hg.block q ((hr.alloc nb).lt q hq).2 (fun e1 => own_ne (hr.alloc nb) hrow (by decide) q hq e1.symm)
 have hit : ∀ z, ItOk y z → ItOk w' z := fun z hz => (hz.keep (y' := y.alloc nb) fun q hq => hal q (hz.row.lt hq).2).grown hrow hE hg;refine ⟨?_, fun x hx => ?_, fun x hx z hz => ?_, ?_, ?_, (h.ex.alloc nb).grown hg (own_base h.row)⟩
 ·rw [List.length_append, List.map_append]; exact hown
 ·rcases List.mem_append.1 hx with hx | hx
  ·obtain ⟨m, hm, hr⟩ := h.each x hx;exact ⟨m, hm, hkeep hr⟩
  ·obtain rfl : x = (v, its) := by simpa using hx
   exact ⟨m1, Nat.le_trans h.chain.le hsz, hkeep k.row⟩
 ·rcases List.mem_append.1 hx with hx | hx
  ·exact hit z (h.its x hx z hz)
  ·obtain rfl : x = (v, its) := by simpa using hx
   exact hit z (k.its z hz)
 ·rw [List.flatMap_append];refine h.chain.append ?_
  simpa using k.chain.down hy
 ·have := k.mid;have := hg.size;rw [World.size_alloc] at this;omega
theorem severalF_in (t : RS → Int → List PR × RS × Int) (s : ByteArray) (ab : Int) (R : Nat) (n : Nat) (r0 : RS) (an0 : Int) (w : World)
  (hone : 0 < n → ∀ r an y, RowL y R 98 (rdL s r ab an) → r.pos ≤ s.size → 0 ≤ an → an ≤ 200 → Calls Tryz.prog 42 #[.pointer (some ⟨R, 0, none⟩)] y fun e w' => ∃ v its mid, e = .returned v ∧ TrOk y w' v its mid ∧ its.map (·.p) = (t r an).1 ∧ RowL w' R 98 (rdL s (t r an).2.1 ab (t r an).2.2) ∧ Ex R y w')
  (hpos : ∀ r an, r.pos ≤ s.size → 0 ≤ an → an ≤ 200 → (t r an).2.1.pos ≤ s.size ∧ 0 ≤ (t r an).2.2 ∧ (t r an).2.2 ≤ 200) (h : RowL w R 98 (rdL s r0 ab an0)) (hp : r0.pos ≤ s.size) (ha0 : 0 ≤ an0) (ha1 : an0 ≤ 200) (hn : n ≤ 200) :
  Calls Tryz.prog 87 #[.pointer (some ⟨R, 0, none⟩), .int .i64 (n : Int), .func (.func 42) #[.pointer (some ⟨R, 0, none⟩)] #[]] w fun e w' =>
   ∃ v L mid, e = .returned v ∧ FoOk R w w' v L mid ∧ L.map (fun x => x.2.map (·.p)) = (rdFor t n r0 an0 []).1 ∧ L.length ≤ n ∧ RowL w' R 98 (rdL s (rdFor t n r0 an0 []).2.1 ab (rdFor t n r0 an0 []).2.2) := by
 have hlt : R < w.heap.size := World.rowIs.lt h;obtain ⟨i0, hi, hz0, hz1, hz2⟩ := info_of infF;replace hone := hidR hone;replace hpos := hidR hpos;obtain ⟨N, hN⟩ : ∃ N : Int, N = (n : Int) := ⟨_, rfl⟩;rw [← hN];replace hN := hidR hN;go_enter Tryz.func87, Tryz.ntmps87;go_wp2_with fail;go_loopw [7, 10] (fun o i wr => ∃ (k : Nat) (L : List (Value × List PI)) (mid : Nat) (r : RS) (an : Int), i = .int .i64 k ∧ k ≤ n ∧ Hid (r.pos ≤ s.size ∧ (0 ≤ an ∧ an ≤ 200) ∧ RowL wr R 98 (rdL s r ab an) ∧ FoOk R w wr o L mid ∧ L.length = k ∧ rdFor t n r0 an0 [] = rdFor t (n - k) r an (L.map (fun x => x.2.map (·.p))))) (fun _ i _ => n - (intOf i).toNat);case atStart => exact ⟨0, [], w.heap.size, r0, an0, rfl, Nat.zero_le _, hp, ⟨ha0, ha1⟩, h, FoOk.none (Ex.refl R w), rfl, rfl⟩
 case round =>
  obtain ⟨k, L, mid, r, an, rfl, q1, q2⟩ := hrel;by_cases hk : k < n
  ·have hk1 : (k : Int) < N := by have := hN.out; omega
   have hc := hone.out (by omega) r an _ q2.out.2.2.1 q2.out.1 q2.out.2.1.1 q2.out.2.1.2;have hp1 := hpos.out r an q2.out.1 q2.out.2.1.1 q2.out.2.1.2;obtain ⟨x, hx⟩ : ∃ x, t r an = x := ⟨_, rfl⟩;rw [hx] at hc hp1;obtain ⟨ps, r1, an1⟩ := x;dsimp only at hc hp1;replace hc := hidR hc;replace hp1 := hidR hp1;go_wp2_with fail;refine Calls.mono hc.out ?_;rintro e y1 ⟨v, its, m1, rfl, htr, hps, hr1, hx1⟩;have hsv := q2.out.2.2.2.1.later hlt hx1;have hyl := q2.out.2.2.2.1.mid;have hLk := q2.out.2.2.2.2.1;have heq := q2.out.2.2.2.2.2;clear hc q2;obtain ⟨o1, c1, rfl⟩ := own_slL htr.row;have h2 : y1.cell? ⟨R, 2, none⟩ = some (fltV r1.bad) := hr1.cell 2 rfl;replace hr1 := hidR hr1;replace hsv := hidR hsv;replace heq := hidR heq;replace htr := hidR htr;replace hps := hidR hps;replace hx := hidR hx;by_cases hb : r1.bad = 0
   ·rw [hb, show fltV (0 : Int) = .nilIface from rfl] at h2;replace hb := hidR hb;go_wp2_with (at_builtin; refine wpList_append_own_at _ rfl (.tmp 19) (.tmp 21) 152 rfl w.heap.size 24 i0 (.slice none 0 0) 1 24 Tryz.underlying152 hi hz0 hz1 hz2 rfl (by decide) u7 L.length _ rfl (hsv.out.row.alloc _) ⟨y1.heap.size, 0, none⟩ 1 1 [.slice o1 its.length c1] rfl rfl ?c1 ?c2 ?c3 ?c4 ?c5 ?_);case c1 => exact World.news_of_block (heap_alloc_new _ _)
    case c2 => intro u hu; simp only [List.mem_cons, List.not_mem_nil, or_false] at hu; subst hu; rfl
    case c3 => simp only [maxLen]; omega
    case c4 => omega
    case c5 => have := hsv.out.ex.size; simp only [World.size_alloc]; omega
    intro v' w' hown hg _ hat
    have hrel : Hid (r1.pos ≤ s.size ∧ (0 ≤ an1 ∧ an1 ≤ 200) ∧ RowL w' R 98 (rdL s r1 ab an1) ∧ FoOk R w w' v' (L ++ [(.slice o1 its.length c1, its)]) m1 ∧ (L ++ [(Value.slice o1 its.length c1, its)]).length = k + 1 ∧ rdFor t n r0 an0 [] = rdFor t (n - (k + 1)) r1 an1 ((L ++ [(Value.slice o1 its.length c1, its)]).map (fun x => x.2.map (·.p)))) := by
     refine ⟨hp1.out.1, hp1.out.2, row_grown (hr1.out.alloc _) hg (fun e => by have := own_base hsv.out.row _ e; omega), hsv.out.push htr.out hyl (by rw [hLk]; simpa using hown) hg, ?_, ?_⟩
     ·rw [List.length_append, hLk]; rfl
     ·rw [heq.out, show n - k = (n - (k + 1)) + 1 by omega, rdFor_ok (by rw [hx.out]; exact hb.out), hx.out, List.map_append];simp [hps.out]
    clear hown hg hat hi hz0 hz1 hz2 heq hsv hr1 h2 hx1 htr hps;go_wp2_with fail;go_roundw;case rel => exact ⟨k + 1, L ++ [(Value.slice o1 its.length c1, its)], m1, r1, an1, by go_num, by omega, hrel.out⟩
    case measure => simp [intOf]; omega
   ·have hfb : fltV r1.bad = .iface 59 (.agg #[.int .i64 r1.bad]) := if_neg hb;rw [hfb] at h2;clear hfb;go_wp2_with fail;go_ret
    have he : rdFor t n r0 an0 [] = ([], r1, an1) := by
     rw [heq.out, show n - k = (n - k - 1) + 1 by omega, rdFor_bad (by rw [hx.out]; exact hb), hx.out]
    rw [he];exact ⟨_, [], _, rfl, FoOk.none hsv.out.ex, rfl, Nat.zero_le _, hr1.out⟩
  ·obtain rfl : k = n := by omega
   have hk1 : N ≤ (k : Int) := by have := hN.out; omega
   go_wp2_with fail;go_ret
   have he : rdFor t k r0 an0 [] = (L.map (fun x => x.2.map (·.p)), r, an) := by
    rw [q2.out.2.2.2.2.2, Nat.sub_self]; rfl
   rw [he];exact ⟨_, L, mid, rfl, q2.out.2.2.2.1, rfl, Nat.le_of_eq q2.out.2.2.2.2.1, q2.out.2.2.1⟩
def zP : Value := .agg #[.int .i64 0, .bool false, .int .i64 0, .slice none 0 0, .slice none 0 0, .slice none 0 0, .int .i64 0, .string ⟨#[]⟩, .slice none 0 0, .slice none 0 0]
theorem infPr : (Tryz.prog.info? 48).map (fun i => (i.zero, i.size, i.bytes)) = some (some zP, 10, 168) := by kernel_rfl
theorem grow_in (n : Nat) (hn : n ≤ 1000000) (w : World) :
  Calls Tryz.prog 112 #[.slice none 0 0, .int .i64 (n : Int)] w fun e w' => ∃ v, e = .returned v ∧ w'.ownsRow w.heap.size 48 10 v 0 [] ∧ Below w.heap.size w w' := by
 by_cases h : n = 0
 ·subst h;refine (Any8.slices_Grow_room Tryz.growP none 0 0 0 w (by omega) (by omega) (by omega) (by omega)).mono fun e w' ⟨he, hw⟩ => ⟨_, he, ?_, ?_⟩
  ·exact World.ownsRow_nil _ _ _ _
  ·rw [hw]; exact Below.refl _ _
 ·obtain ⟨i0, hi, hz0, hz1, hz2⟩ := info_of infPr;have hm : 0 + n ≤ maxLen := by simp only [maxLen]; omega
  refine (Any8.slices_Grow_grow Tryz.growP i0 zP hi hz0 (by omega) none 0 0 n [] w (by omega) (by omega) (by rw [hz2]; omega) (by omega) (by simp) (fun _ => rfl) (fun a ha => by cases ha)).mono fun e w' ⟨he, hw⟩ => ⟨_, he, ?_, ?_⟩
  ·have hge := grownCap_ge w (0 + n) 0 48;have hle := grownCap_le_maxLen w (0 + n) 0 48 hm;rw [hw];refine ⟨rfl, .inr ⟨w.heap.size, _, _, rfl, Nat.le_refl _, heap_alloc_new w.drew _, Nat.zero_le _, hle, ?_, by simp⟩⟩;simp only [Array.size_append, size_zeroCells, zP, Value.cells, List.size_toArray, List.length_nil];simp;rw [← Nat.add_mul]
   congr 1
   rw [Nat.zero_add] at hge;exact Nat.add_sub_cancel' hge
  ·rw [hw];exact (Below.refl w.heap.size w).drew.alloc (Nat.le_refl _) _
def pre (L : List (Value × List PI)) (k : Nat) : List PI := (L.take k).flatMap (·.2)
theorem pre_succ {L : List (Value × List PI)} {k : Nat} (hk : k < L.length) : pre L (k + 1) = pre L k ++ L[k].2 := by
 unfold pre;rw [List.take_succ_eq_append_getElem hk, List.flatMap_append];simp
theorem pre_le (L : List (Value × List PI)) (k : Nat) : (pre L k).length ≤ (L.flatMap (·.2)).length := by
 have h : L.flatMap (·.2) = pre L k ++ (L.drop k).flatMap (·.2) := by
  unfold pre;rw [← List.flatMap_append, List.take_append_drop]
 rw [h, List.length_append];omega
theorem concat_in (L : List (Value × List PI)) (b : Nat) (ao : Option Addr) (cap : Nat) (w : World)
  (hrow : w.ownsRow b 24 1 (.slice ao L.length cap) L.length (L.map (·.1)))
  (heach : ∀ x ∈ L, ∃ m, w.ownsRow m 48 10 x.1 x.2.length (x.2.flatMap pcs)) (hne : ∀ x ∈ L, x.2 ≠ []) (h1 : ∀ x ∈ L, ∀ u ∈ x.2.flatMap pcs, u.oneCell' = true)
  (hn : L.length ≤ 200) (htot : (L.flatMap (·.2)).length ≤ 1000000) :
  Calls Tryz.prog 88 #[.slice ao L.length cap] w fun e w' => ∃ v, e = .returned v ∧ w'.ownsRow w.heap.size 48 10 v (L.flatMap (·.2)).length ((L.flatMap (·.2)).flatMap pcs) ∧ Below w.heap.size w w' := by
 obtain ⟨i0, hi, hz0, hz1, hz2⟩ := info_of infPr
 -- where the k-th tree lies
 have hat : ∀ k (hk : k < L.length), ∃ g gx cx m, ao = some ⟨g, 0, none⟩ ∧ g < w.heap.size ∧ L[k].1 = .slice (some ⟨gx, 0, none⟩) L[k].2.length cx ∧ w.cell? ⟨g, k, none⟩ = some L[k].1 ∧ w.ownsRow m 48 10 (.slice (some ⟨gx, 0, none⟩) L[k].2.length cx) L[k].2.length (L[k].2.flatMap pcs) := by
  intro k hk;obtain ⟨m, hm⟩ := heach L[k] (List.getElem_mem hk);have hpos : 0 < L[k].2.length := List.length_pos_iff.2 (hne _ (List.getElem_mem hk));obtain ⟨gx, cx, he, -, -⟩ := hm.form hpos;rcases hrow.2 with ⟨_, h0⟩ | ⟨g, cp, cur, he2, _, hg, hnc, _, hcs, htk⟩
  ·omega
  ·simp only [Value.slice.injEq] at he2;obtain ⟨rfl, -, rfl⟩ := he2;refine ⟨g, gx, cx, m, rfl, (Array.getElem?_eq_some_iff.1 hg).1, he, ?_, by rw [← he]; exact hm⟩;have hc := hrow.cellAt k (by omega);rw [hc, List.getElem?_map, List.getElem?_eq_getElem hk];rfl
 obtain ⟨N, hN⟩ : ∃ N : Int, N = (L.length : Int) := ⟨_, rfl⟩;replace hat := hidR hat;replace h1 := hidR h1;replace hrow := hidR hrow;clear heach hne;go_enter Tryz.func88, Tryz.ntmps88;go_wp2_with fail;go_loopw [3, 11] (fun z i wr => ∃ k : Nat, i = .int .i64 k ∧ k ≤ L.length ∧ z = .int .i64 ((pre L k).length : Int) ∧ w = wr) (fun _ i _ => L.length - (intOf i).toNat);case atStart => exact ⟨0, rfl, Nat.zero_le _, rfl, rfl⟩
 case round =>
  obtain ⟨k, rfl, q1, rfl, rfl⟩ := hrel;by_cases hk : k < L.length
  ·obtain ⟨g, gx, cx, m, rfl, hgl, he, hc, -⟩ := hat.out k hk;have hle := pre_le L (k + 1);have hsu : ((pre L (k + 1)).length : Int) = ((pre L k).length : Int) + (L[k].2.length : Int) := by rw [pre_succ hk, List.length_append]; omega
   rw [he] at hc;have hle2 : ((pre L k).length : Int) + (L[k].2.length : Int) ≤ 1000000 := by omega
   obtain ⟨l, hl⟩ : ∃ l, L[k].2.length = l := ⟨_, rfl⟩;rw [hl] at hc hsu hle2;obtain ⟨p, hp⟩ : ∃ p, (pre L k).length = p := ⟨_, rfl⟩;rw [hp] at hsu hle2 ⊢;have hkI : (k : Int) < (L.length : Int) := by omega
   have hp0 : (0 : Int) ≤ (p : Int) + (l : Int) := by omega
   replace hsu := hidR hsu;replace he := hidR he;clear hp hl hle;go_wp2_with fail;go_roundw;case rel => exact ⟨k + 1, by go_num, by omega, by rw [hsu.out], trivial⟩
   case measure => simp [intOf]; omega
  ·obtain rfl : k = L.length := by omega
   have hpe : pre L L.length = L.flatMap (·.2) := by unfold pre; rw [List.take_length]
   rw [hpe];obtain ⟨T, hT⟩ : ∃ T, (L.flatMap (·.2)).length = T := ⟨_, rfl⟩;rw [hT] at htot ⊢;have hgr := hidR (grow_in T (by omega) w);replace hT := hidR hT;go_wp2_with fail;refine Calls.mono hgr.out ?_;rintro e y0 ⟨v0, rfl, hv0, hb0⟩;clear hgr;obtain ⟨o0, c0, rfl⟩ := own_slL hv0;replace hv0 := hidR hv0;go_wp2_with fail;go_loopw [6, 27] (fun z i wr => ∃ k : Nat, i = .int .i64 k ∧ k ≤ L.length ∧ Hid (wr.ownsRow w.heap.size 48 10 z (pre L k).length ((pre L k).flatMap pcs) ∧ Below w.heap.size w wr)) (fun _ i _ => L.length - (intOf i).toNat);case atStart => exact ⟨0, rfl, Nat.zero_le _, hv0.out, hb0⟩
   case round =>
    obtain ⟨k, rfl, q2, q3⟩ := hrel;by_cases hk2 : k < L.length
    ·obtain ⟨g, gx, cx, m, rfl, hgl, he, hc, hm⟩ := hat.out k hk2;rw [he] at hc;have hcy := (q3.out.2.cell (p := ⟨g, k, none⟩) hgl).trans hc;have hmy := hidR (own_kept (y' := wr) hm (fun q hq => q3.out.2.block q (hm.lt q hq).2));have hle := pre_le L (k + 1);have hsu : (pre L (k + 1)).length = (pre L k).length + L[k].2.length := by rw [pre_succ hk2, List.length_append]
     have hflat : (pre L (k + 1)).flatMap pcs = (pre L k).flatMap pcs ++ L[k].2.flatMap pcs := by rw [pre_succ hk2, List.flatMap_append]
     have hone := hidR (h1.out L[k] (List.getElem_mem hk2));have hT2 := hT.out;have htt : (pre L k).length + L[k].2.length ≤ 1000000 := by omega
     have hkI : (k : Int) < (L.length : Int) := by omega
     have hlen := hidR (pcs_len L[k].2);replace hsu := hidR hsu;replace hflat := hidR hflat;replace htt := hidR htt;clear hc hle hT2 he hm;obtain ⟨X, hX⟩ : ∃ X, L[k].2 = X := ⟨_, rfl⟩;rw [hX] at hcy hmy hone hsu hflat htt hlen;clear hX;go_wp2_with (at_builtin; refine wpList_append_own_at _ rfl (.tmp 31) (.tmp 32) 24 rfl w.heap.size 48 i0 zP 10 168 Tryz.underlying24 hi hz0 hz1 hz2 rfl (by decide) u6 (pre L k).length _ rfl q3.out.1 ⟨gx, 0, none⟩ X.length cx (X.flatMap pcs) rfl hlen.out ?c1 hone.out ?c3 ?c4 ?c5 ?_);case c1 => intro j u hj; rw [Addr.add_mid, Nat.zero_add, hmy.out.cellAt j (by rw [← hlen.out]; exact (List.getElem?_eq_some_iff.1 hj).1)]; exact hj
     case c3 => have := htt.out; simp only [maxLen]; omega
     case c4 => have := htt.out; omega
     case c5 => exact q3.out.2.size
     intro v' w' hown hg _ hat2
     have hrel : Hid (w'.ownsRow w.heap.size 48 10 v' (pre L (k + 1)).length ((pre L (k + 1)).flatMap pcs) ∧ Below w.heap.size w w') := by
      refine ⟨by rw [hsu.out, hflat.out]; exact hown, Below.grown q3.out.2 hg q3.out.2.size (fun q hq => (q3.out.1.lt q hq).1)⟩
     clear hown hg hat2 hi hz0 hz1 hz2 hmy hone hlen hsu hflat htt q3 hcy;go_wp2_with fail;go_roundw;case rel => exact ⟨k + 1, by go_num, by omega, hrel.out⟩
     case measure => simp [intOf]; omega
    ·obtain rfl : k = L.length := by omega
     go_wp2_with fail;go_ret;have := q3.out;rw [hpe] at this;exact ⟨_, rfl, this.1, this.2⟩
noncomputable def rdTree (s : ByteArray) (V : Nat → Option (Int × Nat)) : Nat → Int → RS → Int → List PR × RS × Int
 | 0, _, r, an => ([], r, an)
 | f + 1, ab, r, an =>
  let p := rdPro s V gi0 (if ab = 63 then 0 else 200 - an) r
  let k := rdFor (rdTree s V f (ab + 1)) p.1.kids.toNat p.2 (an + p.1.kids) []
  (p.1 :: k.1.flatten, k.2)
theorem rdPro_facts {s : ByteArray} {V : Nat → Option (Int × Nat)} (hV : VrOk s V) {G : ByteArray → Int} {most : Int} (hm : 0 ≤ most) {r : RS} (hp : r.pos ≤ s.size) : (rdPro s V G most r).2.pos ≤ s.size ∧ 0 ≤ (rdPro s V G most r).1.kids ∧ (rdPro s V G most r).1.kids ≤ most := by
 have k := fun r0 => rdNum_bd (s := s) (V := V) (lo := 0) (hi := most) r0 (by decide) hm;have w1 := fun r0 h => rdSev_pos (rd := rdWord s) (m := s.size) (fun r hq => rdWord_pos hq) h r0 [];have w2 := fun r0 h => rdSev_pos (rd := rdVal s V G) (m := s.size) (fun r hq => rdVal_pos hV hq) h r0 [];have w3 := fun r0 h => rdSev_pos (rd := rdUp s V) (m := s.size) (fun r hq => rdUp_pos hV hq) h r0 [];unfold rdPro;dsimp only;refine ⟨?_, k _⟩
 have q : ∀ g : Nat × RS, g.2.pos ≤ s.size → ∀ a b : Nat, (if g.1 = 1 then rdDbg s V a b g.2 else ((⟨#[]⟩, [], []), g.2)).2.pos ≤ s.size := by
  intro g hg a b;split
  ·unfold rdDbg;dsimp only;have z := rdSev_pos (rd := rdText s V) (m := s.size) (fun r hq => rdText_pos hV hq) (rdCnt s V b (rdSev (rdAny s V) (rdCnt s V a (rdText s V g.2).2).1.toNat (rdCnt s V a (rdText s V g.2).2).2 []).2).1.toNat _ [] (rdCnt_pos (all := (b : Int)) hV (rdSev_pos (rd := rdAny s V) (m := s.size) (fun r hq => rdAny_pos hV hq) (rdCnt s V a (rdText s V g.2).2).1.toNat _ [] (rdCnt_pos (all := (a : Int)) hV (rdText_pos hV hg))));split
   ·unfold RS.fail;split <;> exact z
   ·exact z
  ·exact hg
 exact q _ (rdByte_pos (rdNum_pos hV (w3 _ _ (rdNum_pos hV (w2 _ _ (rdNum_pos hV (w1 _ _ (rdNum_pos hV (rdNum_pos hV (rdNum_pos hV (rdByte_pos hp)))))))))) ) _ _
theorem rdFor_facts {t : RS → Int → List PR × RS × Int} {m : Nat} (ht : ∀ r an, r.pos ≤ m → 0 ≤ an → an ≤ 200 → (t r an).2.1.pos ≤ m ∧ (an ≤ (t r an).2.2 ∧ (t r an).2.2 ≤ 200) ∧ ((t r an).1.length : Int) ≤ 1 + ((t r an).2.2 - an)) :
  ∀ n r an acc, r.pos ≤ m → 0 ≤ an → an ≤ 200 → (rdFor t n r an acc).2.1.pos ≤ m ∧ (an ≤ (rdFor t n r an acc).2.2 ∧ (rdFor t n r an acc).2.2 ≤ 200) ∧ ((rdFor t n r an acc).1.flatten.length : Int) ≤ acc.flatten.length + n + ((rdFor t n r an acc).2.2 - an)
 | 0, r, an, acc, hr, h0, h1 => by
  unfold rdFor;dsimp only;omega
 | n + 1, r, an, acc, hr, h0, h1 => by
  have h := ht r an hr h0 h1;unfold rdFor;split
  ·dsimp only;simp only [List.flatten_nil, List.length_nil];omega
  ·have k := rdFor_facts ht n (t r an).2.1 (t r an).2.2 (acc ++ [(t r an).1]) h.1 (by omega) h.2.1.2;rw [List.flatten_append, List.length_append] at k;simp only [List.flatten_cons, List.flatten_nil, List.append_nil] at k;omega
theorem rdTree_facts {s : ByteArray} {V : Nat → Option (Int × Nat)} (hV : VrOk s V) : ∀ f ab r an, r.pos ≤ s.size → 0 ≤ an → an ≤ 200 →
  (rdTree s V f ab r an).2.1.pos ≤ s.size ∧ (an ≤ (rdTree s V f ab r an).2.2 ∧ (rdTree s V f ab r an).2.2 ≤ 200) ∧ ((rdTree s V f ab r an).1.length : Int) ≤ 1 + ((rdTree s V f ab r an).2.2 - an)
 | 0, ab, r, an, hr, h0, h1 => by
  unfold rdTree;simp only [List.length_nil];omega
 | f + 1, ab, r, an, hr, h0, h1 => by
  have hm : 0 ≤ (if ab = 63 then 0 else 200 - an) ∧ (if ab = 63 then 0 else 200 - an) ≤ 200 - an := by split <;> omega
  have p := rdPro_facts hV (G := gi0) hm.1 hr;unfold rdTree;dsimp only;generalize rdPro s V gi0 (if ab = 63 then 0 else 200 - an) r = P at p ⊢;have k := rdFor_facts (rdTree_facts hV f (ab + 1)) P.1.kids.toNat P.2 (an + P.1.kids) [] p.1 (by omega) (by omega);simp only [List.flatten_nil, List.length_nil] at k;rw [List.length_cons];omega
theorem rdTree_ne {s : ByteArray} {V : Nat → Option (Int × Nat)} (f : Nat) (ab : Int) (r : RS) (an : Int) : (rdTree s V (f + 1) ab r an).1 ≠ [] := by
 unfold rdTree;simp
theorem rdFor_ne {t : RS → Int → List PR × RS × Int} (ht : ∀ r an, (t r an).1 ≠ []) : ∀ n r an acc, (∀ l ∈ acc, l ≠ []) → ∀ l ∈ (rdFor t n r an acc).1, l ≠ []
 | 0, r, an, acc, h => h
 | n + 1, r, an, acc, h => by
  unfold rdFor;split
  ·intro l hl; cases hl
  ·exact rdFor_ne ht n _ _ _ (fun l hl => by
    rcases List.mem_append.1 hl with hl | hl
    ·exact h l hl
    ·rw [List.mem_singleton.1 hl]; exact ht r an)
end Go.Proofs.YtnhanccjnhgjoaaGreatDoor

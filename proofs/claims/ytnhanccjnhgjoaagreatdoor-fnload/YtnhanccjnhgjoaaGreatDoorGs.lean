import Derived.Test.YtnhanccjnhgjoaaGreatDoorGr
import Derived.Test.YtnhanccjnhgjoaaGreatDoorGq
import Derived.Maps.AppendAt
import Derived.Deep.AppendLies
namespace Go.Proofs.YtnhanccjnhgjoaaGreatDoor
open Go.RowKit
set_option linter.unusedVariables false
set_option linter.unusedSimpArgs false
set_option maxRecDepth 100000
set_option maxHeartbeats 9000000
theorem info_of {P : Program} {t : TypeId} {z : Value} {a b : Nat} (h : (P.info? t).map (fun i => (i.zero, i.size, i.bytes)) = some (some z, a, b)) : ∃ i, P.info? t = some i ∧ i.zero = some z ∧ i.size = a ∧ i.bytes = b := by
 obtain ⟨i, hi, he⟩ := Option.map_eq_some_iff.1 h;simp only [Prod.mk.injEq] at he;exact ⟨i, hi, he.1, he.2.1, he.2.2⟩
def rdSev {α : Type} (rd : RS → α × RS) : Nat → RS → List α → List α × RS
 | 0, r, acc => (acc, r)
 | n + 1, r, acc => if (rd r).2.bad ≠ 0 then ([], (rd r).2) else rdSev rd n (rd r).2 (acc ++ [(rd r).1])
theorem rdSev_bad {α : Type} {rd : RS → α × RS} {n : Nat} {r : RS} {acc : List α} (h : (rd r).2.bad ≠ 0) : rdSev rd (n + 1) r acc = ([], (rd r).2) := if_pos h
theorem rdSev_ok {α : Type} {rd : RS → α × RS} {n : Nat} {r : RS} {acc : List α} (h : (rd r).2.bad = 0) : rdSev rd (n + 1) r acc = rdSev rd n (rd r).2 (acc ++ [(rd r).1]) := if_neg (by simp [h])
theorem rdSev_pos {α : Type} {rd : RS → α × RS} {m : Nat} (h : ∀ r, r.pos ≤ m → (rd r).2.pos ≤ m) : ∀ n r acc, r.pos ≤ m → (rdSev rd n r acc).2.pos ≤ m
 | 0, r, acc, hr => hr
 | n + 1, r, acc, hr => by
  unfold rdSev;split
  ·exact h r hr
  ·exact rdSev_pos h n _ _ (h r hr)
theorem rdSev_len {α : Type} {rd : RS → α × RS} : ∀ n r acc, (rdSev rd n r acc).1.length ≤ acc.length + n
 | 0, r, acc => Nat.le_refl _
 | n + 1, r, acc => by
  unfold rdSev;split
  ·simp
  ·have := rdSev_len (rd := rd) n (rd r).2 (acc ++ [(rd r).1]);rw [List.length_append, List.length_singleton] at this;omega
structure Sv (R : Nat) (w0 y : World) (e : TypeId) (z : Nat) (v : Value) (n : Nat) (xs : List Value) : Prop where
 row : y.ownsRow w0.heap.size e z v n xs
 ex : Ex R w0 y
theorem own_ex {R base : Nat} {e : TypeId} {z n : Nat} {y y' : World} {v : Value} {xs : List Value} (h : y.ownsRow base e z v n xs) (hR : R < base) (hb : Ex R y y') : y'.ownsRow base e z v n xs := by
 refine ⟨h.1, ?_⟩;rcases h.2 with hn | ⟨g, cap, cur, hv, hbb, hg, rest⟩
 ·exact .inl hn
 ·exact .inr ⟨g, cap, cur, hv, hbb, (hb.block g (Array.getElem?_eq_some_iff.1 hg).1 (by omega)).trans hg, rest⟩
theorem Sv.later {R : Nat} {w0 y y' : World} {e : TypeId} {z n : Nat} {v : Value} {xs : List Value} (h : Sv R w0 y e z v n xs) (hR : R < w0.heap.size) (hb : Ex R y y') : Sv R w0 y' e z v n xs := ⟨own_ex h.row hR hb, h.ex.trans hb⟩
theorem Sv.none {R : Nat} {w0 y : World} {e : TypeId} {z : Nat} (h : Ex R w0 y) : Sv R w0 y e z (.slice none 0 0) 0 [] := ⟨World.ownsRow_nil y _ e z, h⟩
theorem Ex.grown {R : Nat} {w0 y y' : World} {b : Option Nat} (h : Ex R w0 y) (hg : y.grownBy y' b) (hb : ∀ q, b = some q → w0.heap.size ≤ q) : Ex R w0 y' := by
 obtain ⟨h1, h2, h3, h4, h5⟩ := hg;refine ⟨h1.trans h.os, h2.trans h.tape, h3.trans h.output, Nat.le_trans h.size h4, fun k hk hR => ?_⟩;refine (h5 k (Nat.lt_of_lt_of_le hk h.size) ?_).trans (h.block k hk hR);intro e;have := hb k e.symm;omega
theorem Ex.alloc {R : Nat} {w0 y : World} (h : Ex R w0 y) (o : Obj) : Ex R w0 (y.alloc o) :=
 ⟨h.os, h.tape, h.output, by rw [World.size_alloc]; have := h.size; omega, fun k hk hR => (heap_alloc_old y o (Nat.lt_of_lt_of_le hk h.size)).trans (h.block k hk hR)⟩
theorem own_base {w : World} {base : Nat} {e : TypeId} {z n : Nat} {v : Value} {xs : List Value} (h : w.ownsRow base e z v n xs) : ∀ q, v.ownBlock = some q → base ≤ q := fun q hq => (h.lt q hq).1
theorem row_grown {y y' : World} {b : Option Nat} {R : Nat} {t : TypeId} {L : List Value} (h : RowL y R t L) (hg : y.grownBy y' b) (hb : b ≠ some R) : RowL y' R t L := by
 obtain ⟨h1, h2, h3, h4, h5⟩ := hg;exact World.rowIs.of_block h (h5 R (World.rowIs.lt h) (fun e => hb e.symm))
theorem infCode : (Tryz.prog.info? 76).map (fun i => (i.zero, i.size, i.bytes)) = some (some (.int .u32 0), 1, 4) := by kernel_rfl
def cCode (x : Nat) : List Value := [.int .u32 (x : Int)]
theorem severalCode_in (rd : RS → Nat × RS) (s : ByteArray) (ab an : Int) (R : Nat) (n : Nat) (r0 : RS) (w : World)
  (hone : ∀ r y, RowL y R 98 (rdL s r ab an) → r.pos ≤ s.size → Calls Tryz.prog 105 #[.pointer (some ⟨R, 0, none⟩)] y fun e w' => e = .returned (let x := (rd r).1; (.int .u32 (x : Int))) ∧ RowL w' R 98 (rdL s (rd r).2 ab an) ∧ Ex R y w')
  (hpos : ∀ r, r.pos ≤ s.size → (rd r).2.pos ≤ s.size) (h : RowL w R 98 (rdL s r0 ab an)) (hp : r0.pos ≤ s.size) (hn : n ≤ 16777215) :
  Calls Tryz.prog 104 #[.pointer (some ⟨R, 0, none⟩), .int .i64 (n : Int), .func (.func 105) #[.pointer (some ⟨R, 0, none⟩)] #[]] w fun e w' =>
   ∃ v, e = .returned v ∧ Sv R w w' 76 1 v (rdSev rd n r0 []).1.length ((rdSev rd n r0 []).1.flatMap cCode) ∧ RowL w' R 98 (rdL s (rdSev rd n r0 []).2 ab an) := by
 have hlt : R < w.heap.size := World.rowIs.lt h;obtain ⟨i0, hi, hz0, hz1, hz2⟩ := info_of infCode;replace hone : Hid _ := hone;obtain ⟨N, hN⟩ : ∃ N : Int, N = (n : Int) := ⟨_, rfl⟩;rw [← hN];go_enter Tryz.func104, Tryz.ntmps104;go_wp2_with fail;go_loopw [7, 10] (fun o i wr => ∃ (k : Nat) (L : List Nat) (r : RS), i = .int .i64 k ∧ k ≤ n ∧ Hid (r.pos ≤ s.size ∧ RowL wr R 98 (rdL s r ab an) ∧ Sv R w wr 76 1 o L.length (L.flatMap cCode) ∧ L.length = k ∧ rdSev rd n r0 [] = rdSev rd (n - k) r L)) (fun _ i _ => n - (intOf i).toNat);case atStart => exact ⟨0, [], r0, rfl, Nat.zero_le _, hp, h, Sv.none (Ex.refl R w), rfl, rfl⟩
 case round =>
  rename_i a0 a1 y;obtain ⟨k, L, r, rfl, q1, q2⟩ := hrel;by_cases hk : k < n
  ·have hk1 : (k : Int) < N := by omega
   have hc := hone.out r _ q2.out.2.1 q2.out.1;have hp1 := hpos r q2.out.1;obtain ⟨x, hx⟩ : ∃ x, rd r = x := ⟨_, rfl⟩;rw [hx] at hc hp1;obtain ⟨x, r1⟩ := x;dsimp only at hc hp1;replace hc : Hid _ := hc;go_wp2_with fail;refine Calls.mono hc.out ?_;rintro e y1 ⟨rfl, hr1, hx1⟩;have hsv := q2.out.2.2.1.later hlt hx1;have hLk := q2.out.2.2.2.1;have heq := q2.out.2.2.2.2;clear hc q2;have h2 : y1.cell? ⟨R, 2, none⟩ = some (fltV r1.bad) := hr1.cell 2 rfl;replace hr1 : Hid _ := hr1;replace hsv : Hid _ := hsv;replace heq : Hid _ := heq;by_cases hb : r1.bad = 0
   ·rw [hb, show fltV (0 : Int) = .nilIface from rfl] at h2;go_wp2_with (at_builtin; refine wpList_append_own_at _ rfl (.tmp 19) (.tmp 21) 42 rfl w.heap.size 76 i0 (.int .u32 0) 1 4 Tryz.underlying42 hi hz0 hz1 hz2 rfl (by decide) u7 L.length _ rfl (hsv.out.row.alloc _) ⟨y1.heap.size, 0, none⟩ 1 1 (cCode x) rfl rfl ?c1 ?c2 ?c3 ?c4 ?c5 ?_);case c1 => exact World.news_of_block (heap_alloc_new _ _)
    case c2 => intro u hu; simp only [cCode, List.mem_cons, List.not_mem_nil, or_false] at hu; subst hu; rfl
    case c3 => simp only [maxLen]; omega
    case c4 => omega
    case c5 => have := hsv.out.ex.size; simp only [World.size_alloc]; omega
    intro v' w' hown hg _ hat;have hbase := own_base hsv.out.row
    have hrel : Hid (r1.pos ≤ s.size ∧ RowL w' R 98 (rdL s r1 ab an) ∧ Sv R w w' 76 1 v' (L ++ [x]).length ((L ++ [x]).flatMap cCode) ∧ (L ++ [x]).length = k + 1 ∧ rdSev rd n r0 [] = rdSev rd (n - (k + 1)) r1 (L ++ [x])) := by
     refine ⟨hp1, row_grown (hr1.out.alloc _) hg (fun e => by have := hbase _ e; omega), ⟨?_, (hsv.out.ex.alloc _).grown hg hbase⟩, ?_, ?_⟩
     ·rw [List.length_append, List.flatMap_append, hLk]; simpa using hown
     ·rw [List.length_append, hLk]; rfl
     ·rw [heq.out, show n - k = (n - (k + 1)) + 1 by omega, rdSev_ok (by rw [hx]; exact hb), hx]
    clear hown hg hat hi hz0 hz1 hz2 hbase heq hsv hr1 h2 hx1;go_wp2_with fail;go_roundw;case rel => exact ⟨k + 1, L ++ [x], r1, by go_num, by omega, hrel.out⟩
    case measure => simp [intOf]; omega
   ·have hfb : fltV r1.bad = .iface 59 (.agg #[.int .i64 r1.bad]) := if_neg hb;rw [hfb] at h2;clear hfb;go_wp2_with fail;go_ret
    have he : rdSev rd n r0 [] = ([], r1) := by
     rw [heq.out, show n - k = (n - k - 1) + 1 by omega, rdSev_bad (by rw [hx]; exact hb), hx]
    rw [he];exact ⟨_, rfl, Sv.none hsv.out.ex, hr1.out⟩
  ·obtain rfl : k = n := by omega
   go_wp2_with fail;go_ret
   have he : rdSev rd k r0 [] = (L, r) := by
    rw [q2.out.2.2.2.2, Nat.sub_self]; rfl
   rw [he];exact ⟨_, rfl, q2.out.2.2.1, q2.out.2.1⟩
theorem infConsts : (Tryz.prog.info? 82).map (fun i => (i.zero, i.size, i.bytes)) = some (some (.agg #[.int .i64 0, .int .i64 0, .string ⟨#[]⟩]), 3, 32) := by kernel_rfl
def cConsts (x : VD) : List Value := [.int .i64 x.kind, .int .i64 x.num, .string x.text]
theorem severalConsts_in (rd : RS → VD × RS) (s : ByteArray) (ab an : Int) (R : Nat) (n : Nat) (r0 : RS) (w : World)
  (hone : ∀ r y, RowL y R 98 (rdL s r ab an) → r.pos ≤ s.size → Calls Tryz.prog 107 #[.pointer (some ⟨R, 0, none⟩)] y fun e w' => e = .returned (let x := (rd r).1; (.agg #[.int .i64 x.kind, .int .i64 x.num, .string x.text])) ∧ RowL w' R 98 (rdL s (rd r).2 ab an) ∧ Ex R y w')
  (hpos : ∀ r, r.pos ≤ s.size → (rd r).2.pos ≤ s.size) (h : RowL w R 98 (rdL s r0 ab an)) (hp : r0.pos ≤ s.size) (hn : n ≤ 16777215) :
  Calls Tryz.prog 106 #[.pointer (some ⟨R, 0, none⟩), .int .i64 (n : Int), .func (.func 107) #[.pointer (some ⟨R, 0, none⟩)] #[]] w fun e w' =>
   ∃ v, e = .returned v ∧ Sv R w w' 82 3 v (rdSev rd n r0 []).1.length ((rdSev rd n r0 []).1.flatMap cConsts) ∧ RowL w' R 98 (rdL s (rdSev rd n r0 []).2 ab an) := by
 have hlt : R < w.heap.size := World.rowIs.lt h;obtain ⟨i0, hi, hz0, hz1, hz2⟩ := info_of infConsts;replace hone : Hid _ := hone;obtain ⟨N, hN⟩ : ∃ N : Int, N = (n : Int) := ⟨_, rfl⟩;rw [← hN];go_enter Tryz.func106, Tryz.ntmps106;go_wp2_with fail;go_loopw [7, 10] (fun o i wr => ∃ (k : Nat) (L : List VD) (r : RS), i = .int .i64 k ∧ k ≤ n ∧ Hid (r.pos ≤ s.size ∧ RowL wr R 98 (rdL s r ab an) ∧ Sv R w wr 82 3 o L.length (L.flatMap cConsts) ∧ L.length = k ∧ rdSev rd n r0 [] = rdSev rd (n - k) r L)) (fun _ i _ => n - (intOf i).toNat);case atStart => exact ⟨0, [], r0, rfl, Nat.zero_le _, hp, h, Sv.none (Ex.refl R w), rfl, rfl⟩
 case round =>
  rename_i a0 a1 y;obtain ⟨k, L, r, rfl, q1, q2⟩ := hrel;by_cases hk : k < n
  ·have hk1 : (k : Int) < N := by omega
   have hc := hone.out r _ q2.out.2.1 q2.out.1;have hp1 := hpos r q2.out.1;obtain ⟨x, hx⟩ : ∃ x, rd r = x := ⟨_, rfl⟩;rw [hx] at hc hp1;obtain ⟨x, r1⟩ := x;dsimp only at hc hp1;replace hc : Hid _ := hc;go_wp2_with fail;refine Calls.mono hc.out ?_;rintro e y1 ⟨rfl, hr1, hx1⟩;have hsv := q2.out.2.2.1.later hlt hx1;have hLk := q2.out.2.2.2.1;have heq := q2.out.2.2.2.2;clear hc q2;have h2 : ∀ o, (y1.alloc o).cell? ⟨R, 2, none⟩ = some (fltV r1.bad) := fun o => (hr1.alloc o).cell 2 rfl;replace hr1 : Hid _ := hr1;replace hsv : Hid _ := hsv;replace heq : Hid _ := heq;by_cases hb : r1.bad = 0
   ·rw [hb, show fltV (0 : Int) = .nilIface from rfl] at h2;go_wp2_with (at_builtin; refine wpList_append_own_at _ rfl (.tmp 19) (.tmp 21) 43 rfl w.heap.size 82 i0 (.agg #[.int .i64 0, .int .i64 0, .string ⟨#[]⟩]) 3 32 Tryz.underlying43 hi hz0 hz1 hz2 rfl (by decide) u7 L.length _ rfl ((hsv.out.row.alloc _).alloc _) ⟨y1.heap.size + 1, 0, none⟩ 1 1 (cConsts x) rfl rfl ?c1 ?c2 ?c3 ?c4 ?c5 ?_);case c1 => exact World.news_of_block (by rw [show y1.heap.size + 1 = (y1.alloc (.cells (cConsts x).toArray 82)).heap.size from (World.size_alloc _ _).symm]; exact heap_alloc_new _ _)
    case c2 => intro u hu; simp only [cConsts, List.mem_cons, List.not_mem_nil, or_false] at hu; rcases hu with rfl | rfl | rfl <;> rfl
    case c3 => simp only [maxLen]; omega
    case c4 => omega
    case c5 => have := hsv.out.ex.size; simp only [World.size_alloc]; omega
    intro v' w' hown hg _ hat;have hbase := own_base hsv.out.row
    have hrel : Hid (r1.pos ≤ s.size ∧ RowL w' R 98 (rdL s r1 ab an) ∧ Sv R w w' 82 3 v' (L ++ [x]).length ((L ++ [x]).flatMap cConsts) ∧ (L ++ [x]).length = k + 1 ∧ rdSev rd n r0 [] = rdSev rd (n - (k + 1)) r1 (L ++ [x])) := by
     refine ⟨hp1, row_grown ((hr1.out.alloc _).alloc _) hg (fun e => by have := hbase _ e; omega), ⟨?_, ((hsv.out.ex.alloc _).alloc _).grown hg hbase⟩, ?_, ?_⟩
     ·rw [List.length_append, List.flatMap_append, hLk]; simpa using hown
     ·rw [List.length_append, hLk]; rfl
     ·rw [heq.out, show n - k = (n - (k + 1)) + 1 by omega, rdSev_ok (by rw [hx]; exact hb), hx]
    clear hown hg hat hi hz0 hz1 hz2 hbase heq hsv hr1 h2 hx1;go_wp2_with fail;go_roundw;case rel => exact ⟨k + 1, L ++ [x], r1, by go_num, by omega, hrel.out⟩
    case measure => simp [intOf]; omega
   ·have hfb : fltV r1.bad = .iface 59 (.agg #[.int .i64 r1.bad]) := if_neg hb;rw [hfb] at h2;clear hfb;go_wp2_with fail;go_ret
    have he : rdSev rd n r0 [] = ([], r1) := by
     rw [heq.out, show n - k = (n - k - 1) + 1 by omega, rdSev_bad (by rw [hx]; exact hb), hx]
    rw [he];exact ⟨_, rfl, Sv.none (hsv.out.ex.alloc _), hr1.out.alloc _⟩
  ·obtain rfl : k = n := by omega
   go_wp2_with fail;go_ret
   have he : rdSev rd k r0 [] = (L, r) := by
    rw [q2.out.2.2.2.2, Nat.sub_self]; rfl
   rw [he];exact ⟨_, rfl, q2.out.2.2.1, q2.out.2.1⟩
theorem infUps : (Tryz.prog.info? 84).map (fun i => (i.zero, i.size, i.bytes)) = some (some (.agg #[.bool false, .int .i64 0]), 2, 16) := by kernel_rfl
def cUps (x : UD) : List Value := [.bool x.stack, .int .i64 x.index]
theorem severalUps_in (rd : RS → UD × RS) (s : ByteArray) (ab an : Int) (R : Nat) (n : Nat) (r0 : RS) (w : World)
  (hone : ∀ r y, RowL y R 98 (rdL s r ab an) → r.pos ≤ s.size → Calls Tryz.prog 109 #[.pointer (some ⟨R, 0, none⟩)] y fun e w' => e = .returned (let x := (rd r).1; (.agg #[.bool x.stack, .int .i64 x.index])) ∧ RowL w' R 98 (rdL s (rd r).2 ab an) ∧ Ex R y w')
  (hpos : ∀ r, r.pos ≤ s.size → (rd r).2.pos ≤ s.size) (h : RowL w R 98 (rdL s r0 ab an)) (hp : r0.pos ≤ s.size) (hn : n ≤ 16777215) :
  Calls Tryz.prog 108 #[.pointer (some ⟨R, 0, none⟩), .int .i64 (n : Int), .func (.func 109) #[.pointer (some ⟨R, 0, none⟩)] #[]] w fun e w' =>
   ∃ v, e = .returned v ∧ Sv R w w' 84 2 v (rdSev rd n r0 []).1.length ((rdSev rd n r0 []).1.flatMap cUps) ∧ RowL w' R 98 (rdL s (rdSev rd n r0 []).2 ab an) := by
 have hlt : R < w.heap.size := World.rowIs.lt h;obtain ⟨i0, hi, hz0, hz1, hz2⟩ := info_of infUps;replace hone : Hid _ := hone;obtain ⟨N, hN⟩ : ∃ N : Int, N = (n : Int) := ⟨_, rfl⟩;rw [← hN];go_enter Tryz.func108, Tryz.ntmps108;go_wp2_with fail;go_loopw [7, 10] (fun o i wr => ∃ (k : Nat) (L : List UD) (r : RS), i = .int .i64 k ∧ k ≤ n ∧ Hid (r.pos ≤ s.size ∧ RowL wr R 98 (rdL s r ab an) ∧ Sv R w wr 84 2 o L.length (L.flatMap cUps) ∧ L.length = k ∧ rdSev rd n r0 [] = rdSev rd (n - k) r L)) (fun _ i _ => n - (intOf i).toNat);case atStart => exact ⟨0, [], r0, rfl, Nat.zero_le _, hp, h, Sv.none (Ex.refl R w), rfl, rfl⟩
 case round =>
  rename_i a0 a1 y;obtain ⟨k, L, r, rfl, q1, q2⟩ := hrel;by_cases hk : k < n
  ·have hk1 : (k : Int) < N := by omega
   have hc := hone.out r _ q2.out.2.1 q2.out.1;have hp1 := hpos r q2.out.1;obtain ⟨x, hx⟩ : ∃ x, rd r = x := ⟨_, rfl⟩;rw [hx] at hc hp1;obtain ⟨x, r1⟩ := x;dsimp only at hc hp1;replace hc : Hid _ := hc;go_wp2_with fail;refine Calls.mono hc.out ?_;rintro e y1 ⟨rfl, hr1, hx1⟩;have hsv := q2.out.2.2.1.later hlt hx1;have hLk := q2.out.2.2.2.1;have heq := q2.out.2.2.2.2;clear hc q2;have h2 : ∀ o, (y1.alloc o).cell? ⟨R, 2, none⟩ = some (fltV r1.bad) := fun o => (hr1.alloc o).cell 2 rfl;replace hr1 : Hid _ := hr1;replace hsv : Hid _ := hsv;replace heq : Hid _ := heq;by_cases hb : r1.bad = 0
   ·rw [hb, show fltV (0 : Int) = .nilIface from rfl] at h2;go_wp2_with (at_builtin; refine wpList_append_own_at _ rfl (.tmp 19) (.tmp 21) 44 rfl w.heap.size 84 i0 (.agg #[.bool false, .int .i64 0]) 2 16 Tryz.underlying44 hi hz0 hz1 hz2 rfl (by decide) u7 L.length _ rfl ((hsv.out.row.alloc _).alloc _) ⟨y1.heap.size + 1, 0, none⟩ 1 1 (cUps x) rfl rfl ?c1 ?c2 ?c3 ?c4 ?c5 ?_);case c1 => exact World.news_of_block (by rw [show y1.heap.size + 1 = (y1.alloc (.cells (cUps x).toArray 84)).heap.size from (World.size_alloc _ _).symm]; exact heap_alloc_new _ _)
    case c2 => intro u hu; simp only [cUps, List.mem_cons, List.not_mem_nil, or_false] at hu; rcases hu with rfl | rfl <;> rfl
    case c3 => simp only [maxLen]; omega
    case c4 => omega
    case c5 => have := hsv.out.ex.size; simp only [World.size_alloc]; omega
    intro v' w' hown hg _ hat;have hbase := own_base hsv.out.row
    have hrel : Hid (r1.pos ≤ s.size ∧ RowL w' R 98 (rdL s r1 ab an) ∧ Sv R w w' 84 2 v' (L ++ [x]).length ((L ++ [x]).flatMap cUps) ∧ (L ++ [x]).length = k + 1 ∧ rdSev rd n r0 [] = rdSev rd (n - (k + 1)) r1 (L ++ [x])) := by
     refine ⟨hp1, row_grown ((hr1.out.alloc _).alloc _) hg (fun e => by have := hbase _ e; omega), ⟨?_, ((hsv.out.ex.alloc _).alloc _).grown hg hbase⟩, ?_, ?_⟩
     ·rw [List.length_append, List.flatMap_append, hLk]; simpa using hown
     ·rw [List.length_append, hLk]; rfl
     ·rw [heq.out, show n - k = (n - (k + 1)) + 1 by omega, rdSev_ok (by rw [hx]; exact hb), hx]
    clear hown hg hat hi hz0 hz1 hz2 hbase heq hsv hr1 h2 hx1;go_wp2_with fail;go_roundw;case rel => exact ⟨k + 1, L ++ [x], r1, by go_num, by omega, hrel.out⟩
    case measure => simp [intOf]; omega
   ·have hfb : fltV r1.bad = .iface 59 (.agg #[.int .i64 r1.bad]) := if_neg hb;rw [hfb] at h2;clear hfb;go_wp2_with fail;go_ret
    have he : rdSev rd n r0 [] = ([], r1) := by
     rw [heq.out, show n - k = (n - k - 1) + 1 by omega, rdSev_bad (by rw [hx]; exact hb), hx]
    rw [he];exact ⟨_, rfl, Sv.none (hsv.out.ex.alloc _), hr1.out.alloc _⟩
  ·obtain rfl : k = n := by omega
   go_wp2_with fail;go_ret
   have he : rdSev rd k r0 [] = (L, r) := by
    rw [q2.out.2.2.2.2, Nat.sub_self]; rfl
   rw [he];exact ⟨_, rfl, q2.out.2.2.1, q2.out.2.1⟩
theorem infLines : (Tryz.prog.info? 3).map (fun i => (i.zero, i.size, i.bytes)) = some (some (.int .i64 0), 1, 8) := by kernel_rfl
def cLines (x : Int) : List Value := [.int .i64 x]
theorem severalLines_in (rd : RS → Int × RS) (s : ByteArray) (ab an : Int) (R : Nat) (n : Nat) (r0 : RS) (w : World)
  (hone : ∀ r y, RowL y R 98 (rdL s r ab an) → r.pos ≤ s.size → Calls Tryz.prog 114 #[.pointer (some ⟨R, 0, none⟩)] y fun e w' => e = .returned (let x := (rd r).1; (.int .i64 x)) ∧ RowL w' R 98 (rdL s (rd r).2 ab an) ∧ Ex R y w')
  (hpos : ∀ r, r.pos ≤ s.size → (rd r).2.pos ≤ s.size) (h : RowL w R 98 (rdL s r0 ab an)) (hp : r0.pos ≤ s.size) (hn : n ≤ 16777215) :
  Calls Tryz.prog 119 #[.pointer (some ⟨R, 0, none⟩), .int .i64 (n : Int), .func (.func 114) #[.pointer (some ⟨R, 0, none⟩)] #[]] w fun e w' =>
   ∃ v, e = .returned v ∧ Sv R w w' 3 1 v (rdSev rd n r0 []).1.length ((rdSev rd n r0 []).1.flatMap cLines) ∧ RowL w' R 98 (rdL s (rdSev rd n r0 []).2 ab an) := by
 have hlt : R < w.heap.size := World.rowIs.lt h;obtain ⟨i0, hi, hz0, hz1, hz2⟩ := info_of infLines;replace hone : Hid _ := hone;obtain ⟨N, hN⟩ : ∃ N : Int, N = (n : Int) := ⟨_, rfl⟩;rw [← hN];go_enter Tryz.func119, Tryz.ntmps119;go_wp2_with fail;go_loopw [7, 10] (fun o i wr => ∃ (k : Nat) (L : List Int) (r : RS), i = .int .i64 k ∧ k ≤ n ∧ Hid (r.pos ≤ s.size ∧ RowL wr R 98 (rdL s r ab an) ∧ Sv R w wr 3 1 o L.length (L.flatMap cLines) ∧ L.length = k ∧ rdSev rd n r0 [] = rdSev rd (n - k) r L)) (fun _ i _ => n - (intOf i).toNat);case atStart => exact ⟨0, [], r0, rfl, Nat.zero_le _, hp, h, Sv.none (Ex.refl R w), rfl, rfl⟩
 case round =>
  rename_i a0 a1 y;obtain ⟨k, L, r, rfl, q1, q2⟩ := hrel;by_cases hk : k < n
  ·have hk1 : (k : Int) < N := by omega
   have hc := hone.out r _ q2.out.2.1 q2.out.1;have hp1 := hpos r q2.out.1;obtain ⟨x, hx⟩ : ∃ x, rd r = x := ⟨_, rfl⟩;rw [hx] at hc hp1;obtain ⟨x, r1⟩ := x;dsimp only at hc hp1;replace hc : Hid _ := hc;go_wp2_with fail;refine Calls.mono hc.out ?_;rintro e y1 ⟨rfl, hr1, hx1⟩;have hsv := q2.out.2.2.1.later hlt hx1;have hLk := q2.out.2.2.2.1;have heq := q2.out.2.2.2.2;clear hc q2;have h2 : y1.cell? ⟨R, 2, none⟩ = some (fltV r1.bad) := hr1.cell 2 rfl;replace hr1 : Hid _ := hr1;replace hsv : Hid _ := hsv;replace heq : Hid _ := heq;by_cases hb : r1.bad = 0
   ·rw [hb, show fltV (0 : Int) = .nilIface from rfl] at h2;go_wp2_with (at_builtin; refine wpList_append_own_at _ rfl (.tmp 19) (.tmp 21) 45 rfl w.heap.size 3 i0 (.int .i64 0) 1 8 Tryz.underlying45 hi hz0 hz1 hz2 rfl (by decide) u7 L.length _ rfl (hsv.out.row.alloc _) ⟨y1.heap.size, 0, none⟩ 1 1 (cLines x) rfl rfl ?c1 ?c2 ?c3 ?c4 ?c5 ?_);case c1 => exact World.news_of_block (heap_alloc_new _ _)
    case c2 => intro u hu; simp only [cLines, List.mem_cons, List.not_mem_nil, or_false] at hu; subst hu; rfl
    case c3 => simp only [maxLen]; omega
    case c4 => omega
    case c5 => have := hsv.out.ex.size; simp only [World.size_alloc]; omega
    intro v' w' hown hg _ hat;have hbase := own_base hsv.out.row
    have hrel : Hid (r1.pos ≤ s.size ∧ RowL w' R 98 (rdL s r1 ab an) ∧ Sv R w w' 3 1 v' (L ++ [x]).length ((L ++ [x]).flatMap cLines) ∧ (L ++ [x]).length = k + 1 ∧ rdSev rd n r0 [] = rdSev rd (n - (k + 1)) r1 (L ++ [x])) := by
     refine ⟨hp1, row_grown (hr1.out.alloc _) hg (fun e => by have := hbase _ e; omega), ⟨?_, (hsv.out.ex.alloc _).grown hg hbase⟩, ?_, ?_⟩
     ·rw [List.length_append, List.flatMap_append, hLk]; simpa using hown
     ·rw [List.length_append, hLk]; rfl
     ·rw [heq.out, show n - k = (n - (k + 1)) + 1 by omega, rdSev_ok (by rw [hx]; exact hb), hx]
    clear hown hg hat hi hz0 hz1 hz2 hbase heq hsv hr1 h2 hx1;go_wp2_with fail;go_roundw;case rel => exact ⟨k + 1, L ++ [x], r1, by go_num, by omega, hrel.out⟩
    case measure => simp [intOf]; omega
   ·have hfb : fltV r1.bad = .iface 59 (.agg #[.int .i64 r1.bad]) := if_neg hb;rw [hfb] at h2;clear hfb;go_wp2_with fail;go_ret
    have he : rdSev rd n r0 [] = ([], r1) := by
     rw [heq.out, show n - k = (n - k - 1) + 1 by omega, rdSev_bad (by rw [hx]; exact hb), hx]
    rw [he];exact ⟨_, rfl, Sv.none hsv.out.ex, hr1.out⟩
  ·obtain rfl : k = n := by omega
   go_wp2_with fail;go_ret
   have he : rdSev rd k r0 [] = (L, r) := by
    rw [q2.out.2.2.2.2, Nat.sub_self]; rfl
   rw [he];exact ⟨_, rfl, q2.out.2.2.1, q2.out.2.1⟩
theorem infNames : (Tryz.prog.info? 9).map (fun i => (i.zero, i.size, i.bytes)) = some (some (.string ⟨#[]⟩), 1, 16) := by kernel_rfl
def cNames (x : ByteArray) : List Value := [.string x]
theorem severalNames_in (rd : RS → ByteArray × RS) (s : ByteArray) (ab an : Int) (R : Nat) (n : Nat) (r0 : RS) (w : World)
  (hone : ∀ r y, RowL y R 98 (rdL s r ab an) → r.pos ≤ s.size → Calls Tryz.prog 118 #[.pointer (some ⟨R, 0, none⟩)] y fun e w' => e = .returned (let x := (rd r).1; (.string x)) ∧ RowL w' R 98 (rdL s (rd r).2 ab an) ∧ Ex R y w')
  (hpos : ∀ r, r.pos ≤ s.size → (rd r).2.pos ≤ s.size) (h : RowL w R 98 (rdL s r0 ab an)) (hp : r0.pos ≤ s.size) (hn : n ≤ 16777215) :
  Calls Tryz.prog 121 #[.pointer (some ⟨R, 0, none⟩), .int .i64 (n : Int), .func (.func 118) #[.pointer (some ⟨R, 0, none⟩)] #[]] w fun e w' =>
   ∃ v, e = .returned v ∧ Sv R w w' 9 1 v (rdSev rd n r0 []).1.length ((rdSev rd n r0 []).1.flatMap cNames) ∧ RowL w' R 98 (rdL s (rdSev rd n r0 []).2 ab an) := by
 have hlt : R < w.heap.size := World.rowIs.lt h;obtain ⟨i0, hi, hz0, hz1, hz2⟩ := info_of infNames;replace hone : Hid _ := hone;obtain ⟨N, hN⟩ : ∃ N : Int, N = (n : Int) := ⟨_, rfl⟩;rw [← hN];go_enter Tryz.func121, Tryz.ntmps121;go_wp2_with fail;go_loopw [7, 10] (fun o i wr => ∃ (k : Nat) (L : List ByteArray) (r : RS), i = .int .i64 k ∧ k ≤ n ∧ Hid (r.pos ≤ s.size ∧ RowL wr R 98 (rdL s r ab an) ∧ Sv R w wr 9 1 o L.length (L.flatMap cNames) ∧ L.length = k ∧ rdSev rd n r0 [] = rdSev rd (n - k) r L)) (fun _ i _ => n - (intOf i).toNat);case atStart => exact ⟨0, [], r0, rfl, Nat.zero_le _, hp, h, Sv.none (Ex.refl R w), rfl, rfl⟩
 case round =>
  rename_i a0 a1 y;obtain ⟨k, L, r, rfl, q1, q2⟩ := hrel;by_cases hk : k < n
  ·have hk1 : (k : Int) < N := by omega
   have hc := hone.out r _ q2.out.2.1 q2.out.1;have hp1 := hpos r q2.out.1;obtain ⟨x, hx⟩ : ∃ x, rd r = x := ⟨_, rfl⟩;rw [hx] at hc hp1;obtain ⟨x, r1⟩ := x;dsimp only at hc hp1;replace hc : Hid _ := hc;go_wp2_with fail;refine Calls.mono hc.out ?_;rintro e y1 ⟨rfl, hr1, hx1⟩;have hsv := q2.out.2.2.1.later hlt hx1;have hLk := q2.out.2.2.2.1;have heq := q2.out.2.2.2.2;clear hc q2;have h2 : y1.cell? ⟨R, 2, none⟩ = some (fltV r1.bad) := hr1.cell 2 rfl;replace hr1 : Hid _ := hr1;replace hsv : Hid _ := hsv;replace heq : Hid _ := heq;by_cases hb : r1.bad = 0
   ·rw [hb, show fltV (0 : Int) = .nilIface from rfl] at h2;go_wp2_with (at_builtin; refine wpList_append_own_at _ rfl (.tmp 19) (.tmp 21) 46 rfl w.heap.size 9 i0 (.string ⟨#[]⟩) 1 16 Tryz.underlying46 hi hz0 hz1 hz2 rfl (by decide) u7 L.length _ rfl (hsv.out.row.alloc _) ⟨y1.heap.size, 0, none⟩ 1 1 (cNames x) rfl rfl ?c1 ?c2 ?c3 ?c4 ?c5 ?_);case c1 => exact World.news_of_block (heap_alloc_new _ _)
    case c2 => intro u hu; simp only [cNames, List.mem_cons, List.not_mem_nil, or_false] at hu; subst hu; rfl
    case c3 => simp only [maxLen]; omega
    case c4 => omega
    case c5 => have := hsv.out.ex.size; simp only [World.size_alloc]; omega
    intro v' w' hown hg _ hat;have hbase := own_base hsv.out.row
    have hrel : Hid (r1.pos ≤ s.size ∧ RowL w' R 98 (rdL s r1 ab an) ∧ Sv R w w' 9 1 v' (L ++ [x]).length ((L ++ [x]).flatMap cNames) ∧ (L ++ [x]).length = k + 1 ∧ rdSev rd n r0 [] = rdSev rd (n - (k + 1)) r1 (L ++ [x])) := by
     refine ⟨hp1, row_grown (hr1.out.alloc _) hg (fun e => by have := hbase _ e; omega), ⟨?_, (hsv.out.ex.alloc _).grown hg hbase⟩, ?_, ?_⟩
     ·rw [List.length_append, List.flatMap_append, hLk]; simpa using hown
     ·rw [List.length_append, hLk]; rfl
     ·rw [heq.out, show n - k = (n - (k + 1)) + 1 by omega, rdSev_ok (by rw [hx]; exact hb), hx]
    clear hown hg hat hi hz0 hz1 hz2 hbase heq hsv hr1 h2 hx1;go_wp2_with fail;go_roundw;case rel => exact ⟨k + 1, L ++ [x], r1, by go_num, by omega, hrel.out⟩
    case measure => simp [intOf]; omega
   ·have hfb : fltV r1.bad = .iface 59 (.agg #[.int .i64 r1.bad]) := if_neg hb;rw [hfb] at h2;clear hfb;go_wp2_with fail;go_ret
    have he : rdSev rd n r0 [] = ([], r1) := by
     rw [heq.out, show n - k = (n - k - 1) + 1 by omega, rdSev_bad (by rw [hx]; exact hb), hx]
    rw [he];exact ⟨_, rfl, Sv.none hsv.out.ex, hr1.out⟩
  ·obtain rfl : k = n := by omega
   go_wp2_with fail;go_ret
   have he : rdSev rd k r0 [] = (L, r) := by
    rw [q2.out.2.2.2.2, Nat.sub_self]; rfl
   rw [he];exact ⟨_, rfl, q2.out.2.2.1, q2.out.2.1⟩
structure Ex2 (R P : Nat) (w w' : World) : Prop where
 os : w'.os = w.os
 tape : w'.tape = w.tape
 output : w'.output = w.output
 size : w.heap.size ≤ w'.heap.size
 block : ∀ k, k < w.heap.size → k ≠ R → k ≠ P → w'.heap[k]? = w.heap[k]?
theorem Ex2.refl (R P : Nat) (w : World) : Ex2 R P w w := ⟨rfl, rfl, rfl, Nat.le_refl _, fun _ _ _ _ => rfl⟩
theorem Ex2.trans {R P : Nat} {a b c : World} (h : Ex2 R P a b) (k : Ex2 R P b c) : Ex2 R P a c :=
 ⟨k.os.trans h.os, k.tape.trans h.tape, k.output.trans h.output, Nat.le_trans h.size k.size, fun i hi hR hP => (k.block i (Nat.lt_of_lt_of_le hi h.size) hR hP).trans (h.block i hi hR hP)⟩
theorem Ex.two {R : Nat} {a b : World} (P : Nat) (h : Ex R a b) : Ex2 R P a b := ⟨h.os, h.tape, h.output, h.size, fun i hi hR _ => h.block i hi hR⟩
theorem Ex2.set {R P : Nat} {a b : World} (h : Ex2 R P a b) (k : Nat) (v : Value) : Ex2 R P a (b.setCell ⟨P, k, none⟩ v) :=
 ⟨h.os, h.tape, h.output, by rw [World.size_setCell]; exact h.size, fun i hi hR hP => (Below.heap_setCell _ _ _ _ hP).trans (h.block i hi hR hP)⟩
theorem Ex2.one {R P : Nat} {w a b : World} (h : Ex R w a) (k : Ex2 R P a b) (hP : w.heap.size ≤ P) : Ex R w b :=
 ⟨k.os.trans h.os, k.tape.trans h.tape, k.output.trans h.output, Nat.le_trans h.size k.size, fun i hi hR => (k.block i (Nat.lt_of_lt_of_le hi h.size) hR (by omega)).trans (h.block i hi hR)⟩
theorem own_ex2 {R P base : Nat} {e : TypeId} {z n : Nat} {y y' : World} {v : Value} {xs : List Value} (h : y.ownsRow base e z v n xs) (hR : R < base) (hP : P < base) (hb : Ex2 R P y y') : y'.ownsRow base e z v n xs := by
 refine ⟨h.1, ?_⟩;rcases h.2 with hn | ⟨g, cap, cur, hv, hbb, hg, rest⟩
 ·exact .inl hn
 ·exact .inr ⟨g, cap, cur, hv, hbb, (hb.block g (Array.getElem?_eq_some_iff.1 hg).1 (by omega) (by omega)).trans hg, rest⟩
theorem ba_empty1 {t : ByteArray} (h : t.size = 0) : t = ⟨#[]⟩ := ByteArray.ext (Array.eq_empty_of_size_eq_zero h)
theorem hasDebug1 (c0 c1 c2 c3 c4 c5 c6 : Value) (t : ByteArray) (o8 o9 : Option Addr) (n8 k8 n9 k9 : Nat) (hc : ∀ u ∈ [c0, c1, c2, c3, c4, c5, c6], u.oneCell' = true) (w : World) :
  Calls Tryz.prog 58 #[.agg #[c0, c1, c2, c3, c4, c5, c6, .string t, .slice o8 n8 k8, .slice o9 n9 k9]] w fun e w' => e = .returned (.bool (decide (¬ (t.size = 0 ∧ n8 = 0 ∧ n9 = 0)))) ∧ Below w.heap.size w w' := by
 by_cases h1 : t.size = 0
 ·obtain rfl := ba_empty1 h1;by_cases h2 : n8 = 0
  ·by_cases h3 : n9 = 0
   ·subst h2 h3;go_enter Tryz.func58, Tryz.ntmps58;go_wp2_with fail;go_ret;exact ⟨by simp [ByteArray.size], by go_grown⟩
   ·have h3' : 0 < n9 := by omega
    subst h2;go_enter Tryz.func58, Tryz.ntmps58;go_wp2_with fail;go_ret;exact ⟨by simp [ByteArray.size, h3, h3'], by go_grown⟩
  ·have h2' : 0 < n8 := by omega
   go_enter Tryz.func58, Tryz.ntmps58;go_wp2_with fail;go_ret;exact ⟨by simp [ByteArray.size, h2, h2'], by go_grown⟩
 ·have h1' := text_some1 t (by omega);go_enter Tryz.func58, Tryz.ntmps58;go_wp2_with fail;go_ret;exact ⟨by simp [h1], by go_grown⟩
noncomputable def rdDbg (s : ByteArray) (V : Nat → Option (Int × Nat)) (nc nu : Nat) (r : RS) : (ByteArray × List Int × List ByteArray) × RS :=
 let t := rdText s V r
 let a := rdCnt s V nc t.2
 let ls := rdSev (rdAny s V) a.1.toNat a.2 []
 let b := rdCnt s V nu ls.2
 let ns := rdSev (rdText s V) b.1.toNat b.2 []
 ((t.1, ls.1, ns.1), if t.1.size = 0 ∧ ls.1.length = 0 ∧ ns.1.length = 0 then ns.2.fail 3 else ns.2)
theorem hidR {p : Prop} (h : p) : Hid p := h
theorem rdCnt_pos {s : ByteArray} {V : Nat → Option (Int × Nat)} (hV : VrOk s V) {all : Int} {r : RS} (hp : r.pos ≤ s.size) : (rdCnt s V all r).2.pos ≤ s.size := by
 have h := rdAny_pos hV hp;unfold rdCnt;dsimp only;split
 ·exact h
 ·split
  ·exact h
  ·exact h
theorem rdCnt_bd {s : ByteArray} {V : Nat → Option (Int × Nat)} {all : Int} (r : RS) (h : 0 ≤ all) : 0 ≤ (rdCnt s V all r).1 ∧ (rdCnt s V all r).1 ≤ all := by
 unfold rdCnt;dsimp only;split
 ·exact ⟨Int.le_refl _, h⟩
 ·split
  ·rename_i e;rcases e with e | e <;> rw [e] <;> omega
  ·exact ⟨Int.le_refl _, h⟩
theorem own_low {base b2 : Nat} {e : TypeId} {z n : Nat} {y : World} {v : Value} {xs : List Value} (h : y.ownsRow base e z v n xs) (hb : b2 ≤ base) : y.ownsRow b2 e z v n xs := by
 refine ⟨h.1, ?_⟩;rcases h.2 with hn | ⟨g, cap, cur, hv, hbb, rest⟩
 ·exact .inl hn
 ·exact .inr ⟨g, cap, cur, hv, by omega, rest⟩
theorem own_slL {base : Nat} {e : TypeId} {z n : Nat} {y : World} {v : Value} {xs : List Value} (h : y.ownsRow base e z v n xs) : ∃ o k, v = .slice o n k := by
 rcases h.2 with ⟨rfl, rfl⟩ | ⟨g, cap, cur, rfl, _⟩
 ·exact ⟨_, _, rfl⟩
 ·exact ⟨_, _, rfl⟩
theorem rdDbg_eq {s : ByteArray} {V : Nat → Option (Int × Nat)} {nc nu na nb : Nat} {r r1 r2 r3 r4 r5 : RS} {t : ByteArray} {ls : List Int} {ns : List ByteArray} (et : rdText s V r = (t, r1)) (ea : rdCnt s V nc r1 = ((na : Int), r2)) (els : rdSev (rdAny s V) na r2 [] = (ls, r3)) (eb : rdCnt s V nu r3 = ((nb : Int), r4)) (ens : rdSev (rdText s V) nb r4 [] = (ns, r5)) :
  rdDbg s V nc nu r = ((t, ls, ns), if t.size = 0 ∧ ls.length = 0 ∧ ns.length = 0 then r5.fail 3 else r5) := by
 simp only [rdDbg, et, ea, els, eb, ens, Int.toNat_natCast]
theorem debug_in (s : ByteArray) (V : Nat → Option (Int × Nat)) (hV : VrOk s V) (r : RS) (ab an : Int) (R P : Nat) (w : World) (h : RowL w R 98 (rdL s r ab an)) (hs : s.size ≤ 2000000000) (hp : r.pos ≤ s.size)
  (c0 c1 c2 c4 c6 c7 c8 c9 : Value) (o3 o5 : Option Addr) (nc k3 nu k5 : Nat) (hcs : ∀ u ∈ [c0, c1, c2, .slice o3 nc k3, c4, .slice o5 nu k5, c6], u.oneCell' = true) (hnc : nc ≤ 2000) (hnu : nu ≤ 60)
  (hP : RowL w P 48 [c0, c1, c2, .slice o3 nc k3, c4, .slice o5 nu k5, c6, c7, c8, c9]) (hPR : P ≠ R) :
  Calls Tryz.prog 111 #[.pointer (some ⟨R, 0, none⟩), .pointer (some ⟨P, 0, none⟩)] w fun e w' => e = .returned (.tuple #[]) ∧ ∃ vl vn m,
   w'.ownsRow w.heap.size 3 1 vl (rdDbg s V nc nu r).1.2.1.length ((rdDbg s V nc nu r).1.2.1.flatMap cLines) ∧ w'.ownsRow w.heap.size 9 1 vn (rdDbg s V nc nu r).1.2.2.length ((rdDbg s V nc nu r).1.2.2.flatMap cNames) ∧
   (∀ q, vl.ownBlock = some q → q < m) ∧ (∀ q, vn.ownBlock = some q → m ≤ q) ∧
   RowL w' P 48 [c0, c1, c2, .slice o3 nc k3, c4, .slice o5 nu k5, c6, .string (rdDbg s V nc nu r).1.1, vl, vn] ∧ RowL w' R 98 (rdL s (rdDbg s V nc nu r).2 ab an) ∧ Ex2 R P w w' := by
 have hRlt : R < w.heap.size := World.rowIs.lt h;have hPlt : P < w.heap.size := World.rowIs.lt hP;have ht : Hid _ := text_in s V hV clOk r ab an R w h hs hp;have hp1 := rdText_pos hV hp;obtain ⟨x, et⟩ : ∃ x, rdText s V r = x := ⟨_, rfl⟩;rw [et] at ht hp1;obtain ⟨t, r1⟩ := x;dsimp only at ht hp1;replace et := hidR et;replace hP := hidR hP;clear h;go_enter Tryz.func111, Tryz.ntmps111;go_wp2_with fail;refine Calls.mono ht.out ?_;rintro e y1 ⟨rfl, hr1, hx1⟩;clear ht;have hP1 := hx1.row hP.out hPR;have f7 := hP1.frozen 7;have e7 := hP1.cell 7 rfl;have hP2 := hP1.set 7 (.string t);have hR2 := hr1.other (a := ⟨P, 7, none⟩) (fun e => hPR e.symm) (.string t);have hx2 := (hx1.two P).set 7 (.string t);replace hP2 := hidR hP2;replace hR2 := hidR hR2;clear hP1 hr1;go_upto_region 1 with fail;generalize y1.setCell ⟨P, 7, none⟩ (.string t) = y2 at hP2 hR2 hx2 ⊢;replace hP2 : RowL y2 P 48 [c0, c1, c2, .slice o3 nc k3, c4, .slice o5 nu k5, c6, .string t, c8, c9] := hP2.out;replace hR2 : RowL y2 R 98 (rdL s r1 ab an) := hR2.out;have e3 := hP2.cell 3 rfl
 -- the number of lines
 have hc : Hid _ := debugCount_in s V hV nc r1 ab an R y2 hR2 hs hp1;have hp2 := rdCnt_pos (all := (nc : Int)) hV hp1;have hb2 := rdCnt_bd (s := s) (V := V) (all := (nc : Int)) r1 (by omega);obtain ⟨x, ea⟩ : ∃ x, rdCnt s V nc r1 = x := ⟨_, rfl⟩;rw [ea] at hc hp2 hb2;obtain ⟨na, r2⟩ := x;obtain ⟨na, rfl⟩ : ∃ k : Nat, na = k := ⟨na.toNat, by dsimp only at hb2; omega⟩;dsimp only at hc hp2 hb2;replace ea := hidR ea;replace hP2 := hidR hP2;clear hR2 f7 e7;go_wp2_with fail;refine Calls.mono hc.out ?_;rintro e y3 ⟨rfl, hr3, hx3⟩;have hP3 := hx3.row hP2.out hPR;have hx3' := hx2.trans (hx3.two P);clear hc hP2 e3 hx2 hx3
 -- the lines
 have hv : Hid _ := severalLines_in (rdAny s V) s ab an R na r2 y3 (fun r y hy hq => any_in s V hV r ab an R y hy hs hq) (fun r hq => rdAny_pos hV hq) hr3 hp2 (by omega);have hp3 := rdSev_pos (rd := rdAny s V) (m := s.size) (fun r hq => rdAny_pos hV hq) na r2 [] hp2;obtain ⟨x, els⟩ : ∃ x, rdSev (rdAny s V) na r2 [] = x := ⟨_, rfl⟩;rw [els] at hv hp3;obtain ⟨ls, r3⟩ := x;dsimp only at hv hp3;replace els := hidR els;replace hP3 := hidR hP3;replace hr3 := hidR hr3;go_wp2_with fail;refine Calls.mono hv.out ?_;rintro e y4 ⟨vl, rfl, hl4, hr4⟩;have hP4 := hl4.ex.row hP3.out hPR;have hx4 := hx3'.trans (hl4.ex.two P);have hlo : y4.ownsRow w.heap.size 3 1 vl ls.length (ls.flatMap cLines) := own_low hl4.row hx3'.size;have hls : ∀ q, vl.ownBlock = some q → q < y4.heap.size ∧ w.heap.size ≤ q := fun q hq => ⟨(hlo.lt q hq).2, (hlo.lt q hq).1⟩;clear hv hP3 hr3 hx3' hl4;have f8 := hP4.frozen 8;have e8 := hP4.cell 8 rfl;have hP5 := hP4.set 8 vl;have hR5 := hr4.other (a := ⟨P, 8, none⟩) (fun e => hPR e.symm) vl;have hx5 := hx4.set 8 vl;have hl5 := own_ex2 hlo hRlt hPlt ((Ex2.refl R P y4).set 8 vl);obtain ⟨o8, k8, rfl⟩ := own_slL hlo;replace hP5 := hidR hP5;replace hR5 := hidR hR5;replace hl5 := hidR hl5;replace hls := hidR hls;have hz5 : (y4.setCell ⟨P, 8, none⟩ (.slice o8 ls.length k8)).heap.size = y4.heap.size := World.size_setCell _ _ _;clear hP4 hr4 hx4 hlo;go_upto_region 2 with fail;generalize y4.setCell ⟨P, 8, none⟩ (.slice o8 ls.length k8) = y5 at hP5 hR5 hx5 hl5 hz5 ⊢;replace hP5 : RowL y5 P 48 [c0, c1, c2, .slice o3 nc k3, c4, .slice o5 nu k5, c6, .string t, .slice o8 ls.length k8, c9] := hP5.out;replace hR5 : RowL y5 R 98 (rdL s r3 ab an) := hR5.out;have e5 := hP5.cell 5 rfl
 -- the number of names
 have hc : Hid _ := debugCount_in s V hV nu r3 ab an R y5 hR5 hs hp3;have hp4 := rdCnt_pos (all := (nu : Int)) hV hp3;have hb4 := rdCnt_bd (s := s) (V := V) (all := (nu : Int)) r3 (by omega);obtain ⟨x, eb⟩ : ∃ x, rdCnt s V nu r3 = x := ⟨_, rfl⟩;rw [eb] at hc hp4 hb4;obtain ⟨nb, r4⟩ := x;obtain ⟨nb, rfl⟩ : ∃ k : Nat, nb = k := ⟨nb.toNat, by dsimp only at hb4; omega⟩;dsimp only at hc hp4 hb4;replace eb := hidR eb;replace hP5 := hidR hP5;clear hR5 f8 e8;go_wp2_with fail;refine Calls.mono hc.out ?_;rintro e y6 ⟨rfl, hr6, hx6⟩;have hP6 := hx6.row hP5.out hPR;have hx6' := hx5.trans (hx6.two P);have hl6 := own_ex2 hl5.out hRlt hPlt (hx6.two P);have hz6 := hx6.size;clear hc hP5 e5 hx5 hx6 hl5
 -- the names
 have hv : Hid _ := severalNames_in (rdText s V) s ab an R nb r4 y6 (fun r y hy hq => text_in s V hV clOk r ab an R y hy hs hq) (fun r hq => rdText_pos hV hq) hr6 hp4 (by omega);have hp5 := rdSev_pos (rd := rdText s V) (m := s.size) (fun r hq => rdText_pos hV hq) nb r4 [] hp4;obtain ⟨x, ens⟩ : ∃ x, rdSev (rdText s V) nb r4 [] = x := ⟨_, rfl⟩;rw [ens] at hv hp5;obtain ⟨ns, r5⟩ := x;dsimp only at hv hp5;replace ens := hidR ens;replace hP6 := hidR hP6;replace hr6 := hidR hr6;replace hl6 := hidR hl6;go_wp2_with fail;refine Calls.mono hv.out ?_;rintro e y7 ⟨vn, rfl, hn7, hr7⟩;have hP7 := hn7.ex.row hP6.out hPR;have hx7 := hx6'.trans (hn7.ex.two P);have hl7 := own_ex2 hl6.out hRlt hPlt (hn7.ex.two P);have hno : y7.ownsRow w.heap.size 9 1 vn ns.length (ns.flatMap cNames) := own_low hn7.row hx6'.size;have hns : ∀ q, vn.ownBlock = some q → y6.heap.size ≤ q := fun q hq => (hn7.row.lt q hq).1;clear hv hP6 hr6 hx6' hn7 hl6;have f9 := hP7.frozen 9;have e9 := hP7.cell 9 rfl;have hP8 := hP7.set 9 vn;have hR8 := hr7.other (a := ⟨P, 9, none⟩) (fun e => hPR e.symm) vn;have hx8 := hx7.set 9 vn;have hn8 := own_ex2 hno hRlt hPlt ((Ex2.refl R P y7).set 9 vn);have hl8 := own_ex2 hl7 hRlt hPlt ((Ex2.refl R P y7).set 9 vn);obtain ⟨o9, k9, rfl⟩ := own_slL hno;replace hP8 := hidR hP8;replace hR8 := hidR hR8;replace hl8 := hidR hl8;replace hn8 := hidR hn8;replace hns := hidR hns;clear hP7 hr7 hx7 hno hl7;go_upto_region 3 with fail;generalize y7.setCell ⟨P, 9, none⟩ (.slice o9 ns.length k9) = y8 at hP8 hR8 hx8 hl8 hn8 ⊢;replace hP8 : RowL y8 P 48 [c0, c1, c2, .slice o3 nc k3, c4, .slice o5 nu k5, c6, .string t, .slice o8 ls.length k8, .slice o9 ns.length k9] := hP8.out;replace hR8 : RowL y8 R 98 (rdL s r5 ab an) := hR8.out;have hD : Hid _ := rdDbg_eq et.out ea.out els.out eb.out ens.out;have g0 := hP8.cell 0 rfl;have g1 := hP8.cell 1 rfl;have g2 := hP8.cell 2 rfl;have g3 := hP8.cell 3 rfl;have g4 := hP8.cell 4 rfl;have g5 := hP8.cell 5 rfl;have g6 := hP8.cell 6 rfl;have g7 := hP8.cell 7 rfl;have g8 := hP8.cell 8 rfl;have g9 := hP8.cell 9 rfl;have hd : Hid _ := hasDebug1 c0 c1 c2 (.slice o3 nc k3) c4 (.slice o5 nu k5) c6 t o8 o9 ls.length k8 ns.length k9 hcs y8;replace hP8 := hidR hP8;replace hR8 := hidR hR8;clear et ea els eb ens f9 e9;by_cases hbare : t.size = 0 ∧ ls.length = 0 ∧ ns.length = 0
 ·rw [if_pos hbare] at hD;rw [decide_eq_false (not_not_intro hbare)] at hd;clear hbare;go_wp2_with fail;refine Calls.mono hd.out ?_;rintro e y9 ⟨rfl, hb9⟩;have hP9 := hP8.out.call hb9;have hR9 := hR8.out.call hb9;have hx9 := hx8.trans ((Ex.of hb9 : Ex R y8 y9).two P);have hl9 := own_ex2 hl8.out hRlt hPlt ((Ex.of hb9 : Ex R y8 y9).two P);have hn9 := own_ex2 hn8.out hRlt hPlt ((Ex.of hb9 : Ex R y8 y9).two P);clear hd hP8 hR8 hx8 hl8 hn8 g0 g1 g2 g3 g4 g5 g6 g7 g8 g9;have hf : Hid _ := reader_fail s r5 ab an 3 R y9 hR9 (by decide);replace hP9 := hidR hP9;replace hl9 := hidR hl9;replace hn9 := hidR hn9;clear hR9;go_wp2_with fail;refine Calls.mono hf.out ?_;rintro e ya ⟨rfl, hra, hxa⟩;clear hf;have hPa := hxa.row hP9.out hPR;have hla := own_ex2 hl9.out hRlt hPlt (hxa.two P);have hna := own_ex2 hn9.out hRlt hPlt (hxa.two P);have hxb := hx9.trans (hxa.two P);replace hPa := hidR hPa;replace hla := hidR hla;replace hna := hidR hna;replace hra := hidR hra;go_wp2_with fail
  go_end0
  rw [hD.out];exact ⟨rfl, _, _, y6.heap.size, hla.out, hna.out, fun q hq => by have := (hls.out q hq).1; omega, hns.out, hPa.out, hra.out, hxb⟩
 ·rw [if_neg hbare] at hD;rw [decide_eq_true hbare] at hd;clear hbare;go_wp2_with fail;refine Calls.mono hd.out ?_;rintro e y9 ⟨rfl, hb9⟩;have hP9 := hP8.out.call hb9;have hR9 := hR8.out.call hb9;have hx9 := hx8.trans ((Ex.of hb9 : Ex R y8 y9).two P);have hl9 := own_ex2 hl8.out hRlt hPlt ((Ex.of hb9 : Ex R y8 y9).two P);have hn9 := own_ex2 hn8.out hRlt hPlt ((Ex.of hb9 : Ex R y8 y9).two P);clear hd hP8 hR8 hx8 hl8 hn8 g0 g1 g2 g3 g4 g5 g6 g7 g8 g9;replace hP9 := hidR hP9;replace hR9 := hidR hR9;replace hl9 := hidR hl9;replace hn9 := hidR hn9;go_wp2_with fail
  go_end0
  rw [hD.out];exact ⟨rfl, _, _, y6.heap.size, hl9.out, hn9.out, fun q hq => by have := (hls.out q hq).1; omega, hns.out, hP9.out, hR9.out, hx9⟩
end Go.Proofs.YtnhanccjnhgjoaaGreatDoor

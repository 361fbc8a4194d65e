import Derived.Test.YtpobiffihiaakaaGreatDoorLiK
import Derived.Test.YtpobiffihiaakaaGreatDoorLcA
import Derived.Maps.AppendAt
import Derived.Deep.AppendLies
namespace Go.Proofs.YtpobiffihiaakaaGreatDoor
open Go.RowKit
set_option linter.unusedVariables false
set_option linter.unusedSimpArgs false
set_option maxRecDepth 100000
set_option maxHeartbeats 1000000
theorem info_of {P : Program} {t : TypeId} {z : Value} {a b : Nat} (h : (P.info? t).map (fun i => (i.zero, i.size, i.bytes)) = some (some z, a, b)) : ∃ i, P.info? t = some i ∧ i.zero = some z ∧ i.size = a ∧ i.bytes = b := by
  obtain ⟨i, hi, he⟩ := Option.map_eq_some_iff.1 h
  simp only [Prod.mk.injEq] at he
  exact ⟨i, hi, he.1, he.2.1, he.2.2⟩
/-- things that come in numbers. -/
def rdSev {α : Type} (rd : RS → α × RS) : Nat → RS → List α → List α × RS
  | 0, r, acc => (acc, r)
  | n + 1, r, acc => if (rd r).2.bad ≠ 0 then ([], (rd r).2) else rdSev rd n (rd r).2 (acc ++ [(rd r).1])
theorem rdSev_bad {α : Type} {rd : RS → α × RS} {n : Nat} {r : RS} {acc : List α} (h : (rd r).2.bad ≠ 0) : rdSev rd (n + 1) r acc = ([], (rd r).2) := if_pos h
theorem rdSev_ok {α : Type} {rd : RS → α × RS} {n : Nat} {r : RS} {acc : List α} (h : (rd r).2.bad = 0) : rdSev rd (n + 1) r acc = rdSev rd n (rd r).2 (acc ++ [(rd r).1]) := if_neg (by simp [h])
theorem rdSev_pos {α : Type} {rd : RS → α × RS} {m : Nat} (h : ∀ r, r.pos ≤ m → (rd r).2.pos ≤ m) : ∀ n r acc, r.pos ≤ m → (rdSev rd n r acc).2.pos ≤ m
  | 0, r, acc, hr => hr
  | n + 1, r, acc, hr => by
    unfold rdSev
    split
    · exact h r hr
    · exact rdSev_pos h n _ _ (h r hr)
theorem rdSev_len {α : Type} {rd : RS → α × RS} : ∀ n r acc, (rdSev rd n r acc).1.length ≤ acc.length + n
  | 0, r, acc => Nat.le_refl _
  | n + 1, r, acc => by
    unfold rdSev
    split
    · simp
    · have := rdSev_len (rd := rd) n (rd r).2 (acc ++ [(rd r).1])
      rw [List.length_append, List.length_singleton] at this
      omega
/-- a list of the call's own beside the reader. -/
structure Sv (R : Nat) (w0 y : World) (e : TypeId) (z : Nat) (v : Value) (n : Nat) (xs : List Value) : Prop where
  row : y.ownsRow w0.heap.size e z v n xs
  ex : Ex R w0 y
theorem own_ex {R base : Nat} {e : TypeId} {z n : Nat} {y y' : World} {v : Value} {xs : List Value} (h : y.ownsRow base e z v n xs) (hR : R < base) (hb : Ex R y y') : y'.ownsRow base e z v n xs := by
  refine ⟨h.1, ?_⟩
  rcases h.2 with hn | ⟨g, cap, cur, hv, hbb, hg, rest⟩
  · exact .inl hn
  · exact .inr ⟨g, cap, cur, hv, hbb, (hb.block g (Array.getElem?_eq_some_iff.1 hg).1 (by omega)).trans hg, rest⟩
theorem Sv.later {R : Nat} {w0 y y' : World} {e : TypeId} {z n : Nat} {v : Value} {xs : List Value} (h : Sv R w0 y e z v n xs) (hR : R < w0.heap.size) (hb : Ex R y y') : Sv R w0 y' e z v n xs := ⟨own_ex h.row hR hb, h.ex.trans hb⟩
theorem Sv.none {R : Nat} {w0 y : World} {e : TypeId} {z : Nat} (h : Ex R w0 y) : Sv R w0 y e z (.slice none 0 0) 0 [] := ⟨World.ownsRow_nil y _ e z, h⟩
theorem Ex.grown {R : Nat} {w0 y y' : World} {b : Option Nat} (h : Ex R w0 y) (hg : y.grownBy y' b) (hb : ∀ q, b = some q → w0.heap.size ≤ q) : Ex R w0 y' := by
  obtain ⟨h1, h2, h3, h4, h5⟩ := hg
  refine ⟨h1.trans h.os, h2.trans h.tape, h3.trans h.output, Nat.le_trans h.size h4, fun k hk hR => ?_⟩
  refine (h5 k (Nat.lt_of_lt_of_le hk h.size) ?_).trans (h.block k hk hR)
  intro e
  have := hb k e.symm
  omega
theorem Ex.alloc {R : Nat} {w0 y : World} (h : Ex R w0 y) (o : Obj) : Ex R w0 (y.alloc o) :=
  ⟨h.os, h.tape, h.output, by rw [World.size_alloc]; have := h.size; omega, fun k hk hR => (heap_alloc_old y o (Nat.lt_of_lt_of_le hk h.size)).trans (h.block k hk hR)⟩
theorem own_base {w : World} {base : Nat} {e : TypeId} {z n : Nat} {v : Value} {xs : List Value} (h : w.ownsRow base e z v n xs) : ∀ q, v.ownBlock = some q → base ≤ q := fun q hq => (h.lt q hq).1
theorem row_grown {y y' : World} {b : Option Nat} {R : Nat} {t : TypeId} {L : List Value} (h : RowL y R t L) (hg : y.grownBy y' b) (hb : b ≠ some R) : RowL y' R t L := by
  obtain ⟨h1, h2, h3, h4, h5⟩ := hg
  exact World.rowIs.of_block h (h5 R (World.rowIs.lt h) (fun e => hb e.symm))
theorem infCode : (Tryz.prog.info? 57).map (fun i => (i.zero, i.size, i.bytes)) = some (some (.int .u32 0), 1, 4) := by kernel_rfl
def cCode (x : Nat) : List Value := [.int .u32 (x : Int)]
theorem cCode_len (L : List Nat) : (L.flatMap cCode).length = L.length * 1 := by
  induction L with
  | nil => rfl
  | cons x L ih => rw [List.flatMap_cons, List.length_append, ih, List.length_cons, Nat.succ_mul]; simp [cCode]; omega
theorem severalCode_in (rd : RS → Nat × RS) (s : ByteArray) (ab an : Int) (R : Nat) (n : Nat) (r0 : RS) (w : World)
    (hone : ∀ r y, RowL y R 67 (rdL s r ab an) → r.pos ≤ s.size → Calls Tryz.prog 63 #[.pointer (some ⟨R, 0, none⟩)] y fun e w' => e = .returned (let x := (rd r).1; (.int .u32 (x : Int))) ∧ RowL w' R 67 (rdL s (rd r).2 ab an) ∧ Ex R y w')
    (hpos : ∀ r, r.pos ≤ s.size → (rd r).2.pos ≤ s.size) (h : RowL w R 67 (rdL s r0 ab an)) (hp : r0.pos ≤ s.size) (hn : n ≤ 16777215) :
    Calls Tryz.prog 62 #[.pointer (some ⟨R, 0, none⟩), .int .i64 (n : Int), .func (.func 63) #[.pointer (some ⟨R, 0, none⟩)] #[]] w fun e w' =>
      ∃ v, e = .returned v ∧ Sv R w w' 57 1 v (rdSev rd n r0 []).1.length ((rdSev rd n r0 []).1.flatMap cCode) ∧ RowL w' R 67 (rdL s (rdSev rd n r0 []).2 ab an) := by
  have hlt : R < w.heap.size := World.rowIs.lt h
  obtain ⟨i0, hi, hz0, hz1, hz2⟩ := info_of infCode
  replace hone : Hid _ := hone
  obtain ⟨N, hN⟩ : ∃ N : Int, N = (n : Int) := ⟨_, rfl⟩
  rw [← hN]
  go_enter Tryz.func62, Tryz.ntmps62
  go_wp2_with fail
  go_loopw [7, 10] (fun o i wr => ∃ (k : Nat) (L : List Nat) (r : RS), i = .int .i64 k ∧ k ≤ n ∧ Hid (r.pos ≤ s.size ∧ RowL wr R 67 (rdL s r ab an) ∧ Sv R w wr 57 1 o L.length (L.flatMap cCode) ∧ L.length = k ∧ rdSev rd n r0 [] = rdSev rd (n - k) r L)) (fun _ i _ => n - (intOf i).toNat)
  case atStart => exact ⟨0, [], r0, rfl, Nat.zero_le _, hp, h, Sv.none (Ex.refl R w), rfl, rfl⟩
  case round =>
    rename_i a0 a1 y
    obtain ⟨k, L, r, rfl, q1, q2⟩ := hrel
    by_cases hk : k < n
    · have hk1 : (k : Int) < N := by omega
      have hc := hone.out r _ q2.out.2.1 q2.out.1
      have hp1 := hpos r q2.out.1
      obtain ⟨x, hx⟩ : ∃ x, rd r = x := ⟨_, rfl⟩
      rw [hx] at hc hp1
      obtain ⟨x, r1⟩ := x
      dsimp only at hc hp1
      replace hc : Hid _ := hc
      go_wp2_with fail
      refine Calls.mono hc.out ?_
      rintro e y1 ⟨rfl, hr1, hx1⟩
      have hsv := q2.out.2.2.1.later hlt hx1
      have hLk := q2.out.2.2.2.1
      have heq := q2.out.2.2.2.2
      clear hc q2
      have h2 : y1.cell? ⟨R, 2, none⟩ = some (fltV r1.bad) := hr1.cell 2 rfl
      replace hr1 : Hid _ := hr1
      replace hsv : Hid _ := hsv
      replace heq : Hid _ := heq
      by_cases hb : r1.bad = 0
      · rw [hb, show fltV (0 : Int) = .nilIface from rfl] at h2
        go_wp2_with (at_builtin; refine wpList_append_own_at _ rfl (.tmp 19) (.tmp 21) 33 rfl w.heap.size 57 i0 (.int .u32 0) 1 4 Tryz.underlying33 hi hz0 hz1 hz2 rfl (by decide) u7 L.length _ rfl (hsv.out.row.alloc _) ⟨y1.heap.size, 0, none⟩ 1 1 (cCode x) rfl rfl ?c1 ?c2 ?c3 ?c4 ?c5 ?_)
        case c1 => exact World.news_of_block (heap_alloc_new _ _)
        case c2 => intro u hu; simp only [cCode, List.mem_cons, List.not_mem_nil, or_false] at hu; subst hu; rfl
        case c3 => simp only [maxLen]; omega
        case c4 => omega
        case c5 => have := hsv.out.ex.size; simp only [World.size_alloc]; omega
        intro v' w' hown hg _ hat
        have hbase := own_base hsv.out.row
        have hrel : Hid (r1.pos ≤ s.size ∧ RowL w' R 67 (rdL s r1 ab an) ∧ Sv R w w' 57 1 v' (L ++ [x]).length ((L ++ [x]).flatMap cCode) ∧ (L ++ [x]).length = k + 1 ∧ rdSev rd n r0 [] = rdSev rd (n - (k + 1)) r1 (L ++ [x])) := by
          refine ⟨hp1, row_grown (hr1.out.alloc _) hg (fun e => by have := hbase _ e; omega), ⟨?_, (hsv.out.ex.alloc _).grown hg hbase⟩, ?_, ?_⟩
          · rw [List.length_append, List.flatMap_append, hLk]; simpa using hown
          · rw [List.length_append, hLk]; rfl
          · rw [heq.out, show n - k = (n - (k + 1)) + 1 by omega, rdSev_ok (by rw [hx]; exact hb), hx]
        clear hown hg hat hi hz0 hz1 hz2 hbase heq hsv hr1 h2 hx1
        go_wp2_with fail
        go_roundw
        case rel => exact ⟨k + 1, L ++ [x], r1, by go_num, by omega, hrel.out⟩
        case measure => simp [intOf]; omega
      · have hfb : fltV r1.bad = .iface 47 (.agg #[.int .i64 r1.bad]) := if_neg hb
        rw [hfb] at h2
        clear hfb
        go_wp2_with fail
        go_ret
        have he : rdSev rd n r0 [] = ([], r1) := by
          rw [heq.out, show n - k = (n - k - 1) + 1 by omega, rdSev_bad (by rw [hx]; exact hb), hx]
        rw [he]
        exact ⟨_, rfl, Sv.none hsv.out.ex, hr1.out⟩
    · obtain rfl : k = n := by omega
      go_wp2_with fail
      go_ret
      have he : rdSev rd k r0 [] = (L, r) := by
        rw [q2.out.2.2.2.2, Nat.sub_self]; rfl
      rw [he]
      exact ⟨_, rfl, q2.out.2.2.1, q2.out.2.1⟩
theorem infConsts : (Tryz.prog.info? 59).map (fun i => (i.zero, i.size, i.bytes)) = some (some (.agg #[.int .i64 0, .int .i64 0, .string ⟨#[]⟩]), 3, 32) := by kernel_rfl
def cConsts (x : VD) : List Value := [.int .i64 x.kind, .int .i64 x.num, .string x.text]
theorem cConsts_len (L : List VD) : (L.flatMap cConsts).length = L.length * 3 := by
  induction L with
  | nil => rfl
  | cons x L ih => rw [List.flatMap_cons, List.length_append, ih, List.length_cons, Nat.succ_mul]; simp [cConsts]; omega
theorem severalConsts_in (rd : RS → VD × RS) (s : ByteArray) (ab an : Int) (R : Nat) (n : Nat) (r0 : RS) (w : World)
    (hone : ∀ r y, RowL y R 67 (rdL s r ab an) → r.pos ≤ s.size → Calls Tryz.prog 65 #[.pointer (some ⟨R, 0, none⟩)] y fun e w' => e = .returned (let x := (rd r).1; (.agg #[.int .i64 x.kind, .int .i64 x.num, .string x.text])) ∧ RowL w' R 67 (rdL s (rd r).2 ab an) ∧ Ex R y w')
    (hpos : ∀ r, r.pos ≤ s.size → (rd r).2.pos ≤ s.size) (h : RowL w R 67 (rdL s r0 ab an)) (hp : r0.pos ≤ s.size) (hn : n ≤ 16777215) :
    Calls Tryz.prog 64 #[.pointer (some ⟨R, 0, none⟩), .int .i64 (n : Int), .func (.func 65) #[.pointer (some ⟨R, 0, none⟩)] #[]] w fun e w' =>
      ∃ v, e = .returned v ∧ Sv R w w' 59 3 v (rdSev rd n r0 []).1.length ((rdSev rd n r0 []).1.flatMap cConsts) ∧ RowL w' R 67 (rdL s (rdSev rd n r0 []).2 ab an) := by
  have hlt : R < w.heap.size := World.rowIs.lt h
  obtain ⟨i0, hi, hz0, hz1, hz2⟩ := info_of infConsts
  replace hone : Hid _ := hone
  obtain ⟨N, hN⟩ : ∃ N : Int, N = (n : Int) := ⟨_, rfl⟩
  rw [← hN]
  go_enter Tryz.func64, Tryz.ntmps64
  go_wp2_with fail
  go_loopw [7, 10] (fun o i wr => ∃ (k : Nat) (L : List VD) (r : RS), i = .int .i64 k ∧ k ≤ n ∧ Hid (r.pos ≤ s.size ∧ RowL wr R 67 (rdL s r ab an) ∧ Sv R w wr 59 3 o L.length (L.flatMap cConsts) ∧ L.length = k ∧ rdSev rd n r0 [] = rdSev rd (n - k) r L)) (fun _ i _ => n - (intOf i).toNat)
  case atStart => exact ⟨0, [], r0, rfl, Nat.zero_le _, hp, h, Sv.none (Ex.refl R w), rfl, rfl⟩
  case round =>
    rename_i a0 a1 y
    obtain ⟨k, L, r, rfl, q1, q2⟩ := hrel
    by_cases hk : k < n
    · have hk1 : (k : Int) < N := by omega
      have hc := hone.out r _ q2.out.2.1 q2.out.1
      have hp1 := hpos r q2.out.1
      obtain ⟨x, hx⟩ : ∃ x, rd r = x := ⟨_, rfl⟩
      rw [hx] at hc hp1
      obtain ⟨x, r1⟩ := x
      dsimp only at hc hp1
      replace hc : Hid _ := hc
      go_wp2_with fail
      refine Calls.mono hc.out ?_
      rintro e y1 ⟨rfl, hr1, hx1⟩
      have hsv := q2.out.2.2.1.later hlt hx1
      have hLk := q2.out.2.2.2.1
      have heq := q2.out.2.2.2.2
      clear hc q2
      have h2 : ∀ o, (y1.alloc o).cell? ⟨R, 2, none⟩ = some (fltV r1.bad) := fun o => (hr1.alloc o).cell 2 rfl
      replace hr1 : Hid _ := hr1
      replace hsv : Hid _ := hsv
      replace heq : Hid _ := heq
      by_cases hb : r1.bad = 0
      · rw [hb, show fltV (0 : Int) = .nilIface from rfl] at h2
        go_wp2_with (at_builtin; refine wpList_append_own_at _ rfl (.tmp 19) (.tmp 21) 34 rfl w.heap.size 59 i0 (.agg #[.int .i64 0, .int .i64 0, .string ⟨#[]⟩]) 3 32 Tryz.underlying34 hi hz0 hz1 hz2 rfl (by decide) u7 L.length _ rfl ((hsv.out.row.alloc _).alloc _) ⟨y1.heap.size + 1, 0, none⟩ 1 1 (cConsts x) rfl rfl ?c1 ?c2 ?c3 ?c4 ?c5 ?_)
        case c1 => exact World.news_of_block (by rw [show y1.heap.size + 1 = (y1.alloc (.cells (cConsts x).toArray 59)).heap.size from (World.size_alloc _ _).symm]; exact heap_alloc_new _ _)
        case c2 => intro u hu; simp only [cConsts, List.mem_cons, List.not_mem_nil, or_false] at hu; rcases hu with rfl | rfl | rfl <;> rfl
        case c3 => simp only [maxLen]; omega
        case c4 => omega
        case c5 => have := hsv.out.ex.size; simp only [World.size_alloc]; omega
        intro v' w' hown hg _ hat
        have hbase := own_base hsv.out.row
        have hrel : Hid (r1.pos ≤ s.size ∧ RowL w' R 67 (rdL s r1 ab an) ∧ Sv R w w' 59 3 v' (L ++ [x]).length ((L ++ [x]).flatMap cConsts) ∧ (L ++ [x]).length = k + 1 ∧ rdSev rd n r0 [] = rdSev rd (n - (k + 1)) r1 (L ++ [x])) := by
          refine ⟨hp1, row_grown ((hr1.out.alloc _).alloc _) hg (fun e => by have := hbase _ e; omega), ⟨?_, ((hsv.out.ex.alloc _).alloc _).grown hg hbase⟩, ?_, ?_⟩
          · rw [List.length_append, List.flatMap_append, hLk]; simpa using hown
          · rw [List.length_append, hLk]; rfl
          · rw [heq.out, show n - k = (n - (k + 1)) + 1 by omega, rdSev_ok (by rw [hx]; exact hb), hx]
        clear hown hg hat hi hz0 hz1 hz2 hbase heq hsv hr1 h2 hx1
        go_wp2_with fail
        go_roundw
        case rel => exact ⟨k + 1, L ++ [x], r1, by go_num, by omega, hrel.out⟩
        case measure => simp [intOf]; omega
      · have hfb : fltV r1.bad = .iface 47 (.agg #[.int .i64 r1.bad]) := if_neg hb
        rw [hfb] at h2
        clear hfb
        go_wp2_with fail
        go_ret
        have he : rdSev rd n r0 [] = ([], r1) := by
          rw [heq.out, show n - k = (n - k - 1) + 1 by omega, rdSev_bad (by rw [hx]; exact hb), hx]
        rw [he]
        exact ⟨_, rfl, Sv.none (hsv.out.ex.alloc _), hr1.out.alloc _⟩
    · obtain rfl : k = n := by omega
      go_wp2_with fail
      go_ret
      have he : rdSev rd k r0 [] = (L, r) := by
        rw [q2.out.2.2.2.2, Nat.sub_self]; rfl
      rw [he]
      exact ⟨_, rfl, q2.out.2.2.1, q2.out.2.1⟩
theorem infUps : (Tryz.prog.info? 63).map (fun i => (i.zero, i.size, i.bytes)) = some (some (.agg #[.bool false, .int .i64 0]), 2, 16) := by kernel_rfl
def cUps (x : UD) : List Value := [.bool x.stack, .int .i64 x.index]
theorem cUps_len (L : List UD) : (L.flatMap cUps).length = L.length * 2 := by
  induction L with
  | nil => rfl
  | cons x L ih => rw [List.flatMap_cons, List.length_append, ih, List.length_cons, Nat.succ_mul]; simp [cUps]; omega
theorem severalUps_in (rd : RS → UD × RS) (s : ByteArray) (ab an : Int) (R : Nat) (n : Nat) (r0 : RS) (w : World)
    (hone : ∀ r y, RowL y R 67 (rdL s r ab an) → r.pos ≤ s.size → Calls Tryz.prog 67 #[.pointer (some ⟨R, 0, none⟩)] y fun e w' => e = .returned (let x := (rd r).1; (.agg #[.bool x.stack, .int .i64 x.index])) ∧ RowL w' R 67 (rdL s (rd r).2 ab an) ∧ Ex R y w')
    (hpos : ∀ r, r.pos ≤ s.size → (rd r).2.pos ≤ s.size) (h : RowL w R 67 (rdL s r0 ab an)) (hp : r0.pos ≤ s.size) (hn : n ≤ 16777215) :
    Calls Tryz.prog 66 #[.pointer (some ⟨R, 0, none⟩), .int .i64 (n : Int), .func (.func 67) #[.pointer (some ⟨R, 0, none⟩)] #[]] w fun e w' =>
      ∃ v, e = .returned v ∧ Sv R w w' 63 2 v (rdSev rd n r0 []).1.length ((rdSev rd n r0 []).1.flatMap cUps) ∧ RowL w' R 67 (rdL s (rdSev rd n r0 []).2 ab an) := by
  have hlt : R < w.heap.size := World.rowIs.lt h
  obtain ⟨i0, hi, hz0, hz1, hz2⟩ := info_of infUps
  replace hone : Hid _ := hone
  obtain ⟨N, hN⟩ : ∃ N : Int, N = (n : Int) := ⟨_, rfl⟩
  rw [← hN]
  go_enter Tryz.func66, Tryz.ntmps66
  go_wp2_with fail
  go_loopw [7, 10] (fun o i wr => ∃ (k : Nat) (L : List UD) (r : RS), i = .int .i64 k ∧ k ≤ n ∧ Hid (r.pos ≤ s.size ∧ RowL wr R 67 (rdL s r ab an) ∧ Sv R w wr 63 2 o L.length (L.flatMap cUps) ∧ L.length = k ∧ rdSev rd n r0 [] = rdSev rd (n - k) r L)) (fun _ i _ => n - (intOf i).toNat)
  case atStart => exact ⟨0, [], r0, rfl, Nat.zero_le _, hp, h, Sv.none (Ex.refl R w), rfl, rfl⟩
  case round =>
    rename_i a0 a1 y
    obtain ⟨k, L, r, rfl, q1, q2⟩ := hrel
    by_cases hk : k < n
    · have hk1 : (k : Int) < N := by omega
      have hc := hone.out r _ q2.out.2.1 q2.out.1
      have hp1 := hpos r q2.out.1
      obtain ⟨x, hx⟩ : ∃ x, rd r = x := ⟨_, rfl⟩
      rw [hx] at hc hp1
      obtain ⟨x, r1⟩ := x
      dsimp only at hc hp1
      replace hc : Hid _ := hc
      go_wp2_with fail
      refine Calls.mono hc.out ?_
      rintro e y1 ⟨rfl, hr1, hx1⟩
      have hsv := q2.out.2.2.1.later hlt hx1
      have hLk := q2.out.2.2.2.1
      have heq := q2.out.2.2.2.2
      clear hc q2
      have h2 : ∀ o, (y1.alloc o).cell? ⟨R, 2, none⟩ = some (fltV r1.bad) := fun o => (hr1.alloc o).cell 2 rfl
      replace hr1 : Hid _ := hr1
      replace hsv : Hid _ := hsv
      replace heq : Hid _ := heq
      by_cases hb : r1.bad = 0
      · rw [hb, show fltV (0 : Int) = .nilIface from rfl] at h2
        go_wp2_with (at_builtin; refine wpList_append_own_at _ rfl (.tmp 19) (.tmp 21) 35 rfl w.heap.size 63 i0 (.agg #[.bool false, .int .i64 0]) 2 16 Tryz.underlying35 hi hz0 hz1 hz2 rfl (by decide) u7 L.length _ rfl ((hsv.out.row.alloc _).alloc _) ⟨y1.heap.size + 1, 0, none⟩ 1 1 (cUps x) rfl rfl ?c1 ?c2 ?c3 ?c4 ?c5 ?_)
        case c1 => exact World.news_of_block (by rw [show y1.heap.size + 1 = (y1.alloc (.cells (cUps x).toArray 63)).heap.size from (World.size_alloc _ _).symm]; exact heap_alloc_new _ _)
        case c2 => intro u hu; simp only [cUps, List.mem_cons, List.not_mem_nil, or_false] at hu; rcases hu with rfl | rfl <;> rfl
        case c3 => simp only [maxLen]; omega
        case c4 => omega
        case c5 => have := hsv.out.ex.size; simp only [World.size_alloc]; omega
        intro v' w' hown hg _ hat
        have hbase := own_base hsv.out.row
        have hrel : Hid (r1.pos ≤ s.size ∧ RowL w' R 67 (rdL s r1 ab an) ∧ Sv R w w' 63 2 v' (L ++ [x]).length ((L ++ [x]).flatMap cUps) ∧ (L ++ [x]).length = k + 1 ∧ rdSev rd n r0 [] = rdSev rd (n - (k + 1)) r1 (L ++ [x])) := by
          refine ⟨hp1, row_grown ((hr1.out.alloc _).alloc _) hg (fun e => by have := hbase _ e; omega), ⟨?_, ((hsv.out.ex.alloc _).alloc _).grown hg hbase⟩, ?_, ?_⟩
          · rw [List.length_append, List.flatMap_append, hLk]; simpa using hown
          · rw [List.length_append, hLk]; rfl
          · rw [heq.out, show n - k = (n - (k + 1)) + 1 by omega, rdSev_ok (by rw [hx]; exact hb), hx]
        clear hown hg hat hi hz0 hz1 hz2 hbase heq hsv hr1 h2 hx1
        go_wp2_with fail
        go_roundw
        case rel => exact ⟨k + 1, L ++ [x], r1, by go_num, by omega, hrel.out⟩
        case measure => simp [intOf]; omega
      · have hfb : fltV r1.bad = .iface 47 (.agg #[.int .i64 r1.bad]) := if_neg hb
        rw [hfb] at h2
        clear hfb
        go_wp2_with fail
        go_ret
        have he : rdSev rd n r0 [] = ([], r1) := by
          rw [heq.out, show n - k = (n - k - 1) + 1 by omega, rdSev_bad (by rw [hx]; exact hb), hx]
        rw [he]
        exact ⟨_, rfl, Sv.none (hsv.out.ex.alloc _), hr1.out.alloc _⟩
    · obtain rfl : k = n := by omega
      go_wp2_with fail
      go_ret
      have he : rdSev rd k r0 [] = (L, r) := by
        rw [q2.out.2.2.2.2, Nat.sub_self]; rfl
      rw [he]
      exact ⟨_, rfl, q2.out.2.2.1, q2.out.2.1⟩
theorem infLines : (Tryz.prog.info? 3).map (fun i => (i.zero, i.size, i.bytes)) = some (some (.int .i64 0), 1, 8) := by kernel_rfl
def cLines (x : Int) : List Value := [.int .i64 x]
theorem cLines_len (L : List Int) : (L.flatMap cLines).length = L.length * 1 := by
  induction L with
  | nil => rfl
  | cons x L ih => rw [List.flatMap_cons, List.length_append, ih, List.length_cons, Nat.succ_mul]; simp [cLines]; omega
theorem severalLines_in (rd : RS → Int × RS) (s : ByteArray) (ab an : Int) (R : Nat) (n : Nat) (r0 : RS) (w : World)
    (hone : ∀ r y, RowL y R 67 (rdL s r ab an) → r.pos ≤ s.size → Calls Tryz.prog 75 #[.pointer (some ⟨R, 0, none⟩)] y fun e w' => e = .returned (let x := (rd r).1; (.int .i64 x)) ∧ RowL w' R 67 (rdL s (rd r).2 ab an) ∧ Ex R y w')
    (hpos : ∀ r, r.pos ≤ s.size → (rd r).2.pos ≤ s.size) (h : RowL w R 67 (rdL s r0 ab an)) (hp : r0.pos ≤ s.size) (hn : n ≤ 16777215) :
    Calls Tryz.prog 81 #[.pointer (some ⟨R, 0, none⟩), .int .i64 (n : Int), .func (.func 75) #[.pointer (some ⟨R, 0, none⟩)] #[]] w fun e w' =>
      ∃ v, e = .returned v ∧ Sv R w w' 3 1 v (rdSev rd n r0 []).1.length ((rdSev rd n r0 []).1.flatMap cLines) ∧ RowL w' R 67 (rdL s (rdSev rd n r0 []).2 ab an) := by
  have hlt : R < w.heap.size := World.rowIs.lt h
  obtain ⟨i0, hi, hz0, hz1, hz2⟩ := info_of infLines
  replace hone : Hid _ := hone
  obtain ⟨N, hN⟩ : ∃ N : Int, N = (n : Int) := ⟨_, rfl⟩
  rw [← hN]
  go_enter Tryz.func81, Tryz.ntmps81
  go_wp2_with fail
  go_loopw [7, 10] (fun o i wr => ∃ (k : Nat) (L : List Int) (r : RS), i = .int .i64 k ∧ k ≤ n ∧ Hid (r.pos ≤ s.size ∧ RowL wr R 67 (rdL s r ab an) ∧ Sv R w wr 3 1 o L.length (L.flatMap cLines) ∧ L.length = k ∧ rdSev rd n r0 [] = rdSev rd (n - k) r L)) (fun _ i _ => n - (intOf i).toNat)
  case atStart => exact ⟨0, [], r0, rfl, Nat.zero_le _, hp, h, Sv.none (Ex.refl R w), rfl, rfl⟩
  case round =>
    rename_i a0 a1 y
    obtain ⟨k, L, r, rfl, q1, q2⟩ := hrel
    by_cases hk : k < n
    · have hk1 : (k : Int) < N := by omega
      have hc := hone.out r _ q2.out.2.1 q2.out.1
      have hp1 := hpos r q2.out.1
      obtain ⟨x, hx⟩ : ∃ x, rd r = x := ⟨_, rfl⟩
      rw [hx] at hc hp1
      obtain ⟨x, r1⟩ := x
      dsimp only at hc hp1
      replace hc : Hid _ := hc
      go_wp2_with fail
      refine Calls.mono hc.out ?_
      rintro e y1 ⟨rfl, hr1, hx1⟩
      have hsv := q2.out.2.2.1.later hlt hx1
      have hLk := q2.out.2.2.2.1
      have heq := q2.out.2.2.2.2
      clear hc q2
      have h2 : y1.cell? ⟨R, 2, none⟩ = some (fltV r1.bad) := hr1.cell 2 rfl
      replace hr1 : Hid _ := hr1
      replace hsv : Hid _ := hsv
      replace heq : Hid _ := heq
      by_cases hb : r1.bad = 0
      · rw [hb, show fltV (0 : Int) = .nilIface from rfl] at h2
        go_wp2_with (at_builtin; refine wpList_append_own_at _ rfl (.tmp 19) (.tmp 21) 32 rfl w.heap.size 3 i0 (.int .i64 0) 1 8 Tryz.underlying32 hi hz0 hz1 hz2 rfl (by decide) u7 L.length _ rfl (hsv.out.row.alloc _) ⟨y1.heap.size, 0, none⟩ 1 1 (cLines x) rfl rfl ?c1 ?c2 ?c3 ?c4 ?c5 ?_)
        case c1 => exact World.news_of_block (heap_alloc_new _ _)
        case c2 => intro u hu; simp only [cLines, List.mem_cons, List.not_mem_nil, or_false] at hu; subst hu; rfl
        case c3 => simp only [maxLen]; omega
        case c4 => omega
        case c5 => have := hsv.out.ex.size; simp only [World.size_alloc]; omega
        intro v' w' hown hg _ hat
        have hbase := own_base hsv.out.row
        have hrel : Hid (r1.pos ≤ s.size ∧ RowL w' R 67 (rdL s r1 ab an) ∧ Sv R w w' 3 1 v' (L ++ [x]).length ((L ++ [x]).flatMap cLines) ∧ (L ++ [x]).length = k + 1 ∧ rdSev rd n r0 [] = rdSev rd (n - (k + 1)) r1 (L ++ [x])) := by
          refine ⟨hp1, row_grown (hr1.out.alloc _) hg (fun e => by have := hbase _ e; omega), ⟨?_, (hsv.out.ex.alloc _).grown hg hbase⟩, ?_, ?_⟩
          · rw [List.length_append, List.flatMap_append, hLk]; simpa using hown
          · rw [List.length_append, hLk]; rfl
          · rw [heq.out, show n - k = (n - (k + 1)) + 1 by omega, rdSev_ok (by rw [hx]; exact hb), hx]
        clear hown hg hat hi hz0 hz1 hz2 hbase heq hsv hr1 h2 hx1
        go_wp2_with fail
        go_roundw
        case rel => exact ⟨k + 1, L ++ [x], r1, by go_num, by omega, hrel.out⟩
        case measure => simp [intOf]; omega
      · have hfb : fltV r1.bad = .iface 47 (.agg #[.int .i64 r1.bad]) := if_neg hb
        rw [hfb] at h2
        clear hfb
        go_wp2_with fail
        go_ret
        have he : rdSev rd n r0 [] = ([], r1) := by
          rw [heq.out, show n - k = (n - k - 1) + 1 by omega, rdSev_bad (by rw [hx]; exact hb), hx]
        rw [he]
        exact ⟨_, rfl, Sv.none hsv.out.ex, hr1.out⟩
    · obtain rfl : k = n := by omega
      go_wp2_with fail
      go_ret
      have he : rdSev rd k r0 [] = (L, r) := by
        rw [q2.out.2.2.2.2, Nat.sub_self]; rfl
      rw [he]
      exact ⟨_, rfl, q2.out.2.2.1, q2.out.2.1⟩
theorem infNames : (Tryz.prog.info? 9).map (fun i => (i.zero, i.size, i.bytes)) = some (some (.string ⟨#[]⟩), 1, 16) := by kernel_rfl
def cNames (x : ByteArray) : List Value := [.string x]
theorem cNames_len (L : List ByteArray) : (L.flatMap cNames).length = L.length * 1 := by
  induction L with
  | nil => rfl
  | cons x L ih => rw [List.flatMap_cons, List.length_append, ih, List.length_cons, Nat.succ_mul]; simp [cNames]; omega
theorem severalNames_in (rd : RS → ByteArray × RS) (s : ByteArray) (ab an : Int) (R : Nat) (n : Nat) (r0 : RS) (w : World)
    (hone : ∀ r y, RowL y R 67 (rdL s r ab an) → r.pos ≤ s.size → Calls Tryz.prog 80 #[.pointer (some ⟨R, 0, none⟩)] y fun e w' => e = .returned (let x := (rd r).1; (.string x)) ∧ RowL w' R 67 (rdL s (rd r).2 ab an) ∧ Ex R y w')
    (hpos : ∀ r, r.pos ≤ s.size → (rd r).2.pos ≤ s.size) (h : RowL w R 67 (rdL s r0 ab an)) (hp : r0.pos ≤ s.size) (hn : n ≤ 16777215) :
    Calls Tryz.prog 83 #[.pointer (some ⟨R, 0, none⟩), .int .i64 (n : Int), .func (.func 80) #[.pointer (some ⟨R, 0, none⟩)] #[]] w fun e w' =>
      ∃ v, e = .returned v ∧ Sv R w w' 9 1 v (rdSev rd n r0 []).1.length ((rdSev rd n r0 []).1.flatMap cNames) ∧ RowL w' R 67 (rdL s (rdSev rd n r0 []).2 ab an) := by
  have hlt : R < w.heap.size := World.rowIs.lt h
  obtain ⟨i0, hi, hz0, hz1, hz2⟩ := info_of infNames
  replace hone : Hid _ := hone
  obtain ⟨N, hN⟩ : ∃ N : Int, N = (n : Int) := ⟨_, rfl⟩
  rw [← hN]
  go_enter Tryz.func83, Tryz.ntmps83
  go_wp2_with fail
  go_loopw [7, 10] (fun o i wr => ∃ (k : Nat) (L : List ByteArray) (r : RS), i = .int .i64 k ∧ k ≤ n ∧ Hid (r.pos ≤ s.size ∧ RowL wr R 67 (rdL s r ab an) ∧ Sv R w wr 9 1 o L.length (L.flatMap cNames) ∧ L.length = k ∧ rdSev rd n r0 [] = rdSev rd (n - k) r L)) (fun _ i _ => n - (intOf i).toNat)
  case atStart => exact ⟨0, [], r0, rfl, Nat.zero_le _, hp, h, Sv.none (Ex.refl R w), rfl, rfl⟩
  case round =>
    rename_i a0 a1 y
    obtain ⟨k, L, r, rfl, q1, q2⟩ := hrel
    by_cases hk : k < n
    · have hk1 : (k : Int) < N := by omega
      have hc := hone.out r _ q2.out.2.1 q2.out.1
      have hp1 := hpos r q2.out.1
      obtain ⟨x, hx⟩ : ∃ x, rd r = x := ⟨_, rfl⟩
      rw [hx] at hc hp1
      obtain ⟨x, r1⟩ := x
      dsimp only at hc hp1
      replace hc : Hid _ := hc
      go_wp2_with fail
      refine Calls.mono hc.out ?_
      rintro e y1 ⟨rfl, hr1, hx1⟩
      have hsv := q2.out.2.2.1.later hlt hx1
      have hLk := q2.out.2.2.2.1
      have heq := q2.out.2.2.2.2
      clear hc q2
      have h2 : y1.cell? ⟨R, 2, none⟩ = some (fltV r1.bad) := hr1.cell 2 rfl
      replace hr1 : Hid _ := hr1
      replace hsv : Hid _ := hsv
      replace heq : Hid _ := heq
      by_cases hb : r1.bad = 0
      · rw [hb, show fltV (0 : Int) = .nilIface from rfl] at h2
        go_wp2_with (at_builtin; refine wpList_append_own_at _ rfl (.tmp 19) (.tmp 21) 36 rfl w.heap.size 9 i0 (.string ⟨#[]⟩) 1 16 Tryz.underlying36 hi hz0 hz1 hz2 rfl (by decide) u7 L.length _ rfl (hsv.out.row.alloc _) ⟨y1.heap.size, 0, none⟩ 1 1 (cNames x) rfl rfl ?c1 ?c2 ?c3 ?c4 ?c5 ?_)
        case c1 => exact World.news_of_block (heap_alloc_new _ _)
        case c2 => intro u hu; simp only [cNames, List.mem_cons, List.not_mem_nil, or_false] at hu; subst hu; rfl
        case c3 => simp only [maxLen]; omega
        case c4 => omega
        case c5 => have := hsv.out.ex.size; simp only [World.size_alloc]; omega
        intro v' w' hown hg _ hat
        have hbase := own_base hsv.out.row
        have hrel : Hid (r1.pos ≤ s.size ∧ RowL w' R 67 (rdL s r1 ab an) ∧ Sv R w w' 9 1 v' (L ++ [x]).length ((L ++ [x]).flatMap cNames) ∧ (L ++ [x]).length = k + 1 ∧ rdSev rd n r0 [] = rdSev rd (n - (k + 1)) r1 (L ++ [x])) := by
          refine ⟨hp1, row_grown (hr1.out.alloc _) hg (fun e => by have := hbase _ e; omega), ⟨?_, (hsv.out.ex.alloc _).grown hg hbase⟩, ?_, ?_⟩
          · rw [List.length_append, List.flatMap_append, hLk]; simpa using hown
          · rw [List.length_append, hLk]; rfl
          · rw [heq.out, show n - k = (n - (k + 1)) + 1 by omega, rdSev_ok (by rw [hx]; exact hb), hx]
        clear hown hg hat hi hz0 hz1 hz2 hbase heq hsv hr1 h2 hx1
        go_wp2_with fail
        go_roundw
        case rel => exact ⟨k + 1, L ++ [x], r1, by go_num, by omega, hrel.out⟩
        case measure => simp [intOf]; omega
      · have hfb : fltV r1.bad = .iface 47 (.agg #[.int .i64 r1.bad]) := if_neg hb
        rw [hfb] at h2
        clear hfb
        go_wp2_with fail
        go_ret
        have he : rdSev rd n r0 [] = ([], r1) := by
          rw [heq.out, show n - k = (n - k - 1) + 1 by omega, rdSev_bad (by rw [hx]; exact hb), hx]
        rw [he]
        exact ⟨_, rfl, Sv.none hsv.out.ex, hr1.out⟩
    · obtain rfl : k = n := by omega
      go_wp2_with fail
      go_ret
      have he : rdSev rd k r0 [] = (L, r) := by
        rw [q2.out.2.2.2.2, Nat.sub_self]; rfl
      rw [he]
      exact ⟨_, rfl, q2.out.2.2.1, q2.out.2.1⟩
end Go.Proofs.YtpobiffihiaakaaGreatDoor

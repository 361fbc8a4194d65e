import Derived.Test.YtpobiffihiaakaaGreatDoorLtD
namespace Go.Proofs.YtpobiffihiaakaaGreatDoor
open Go.RowKit
set_option linter.unusedVariables false
set_option linter.unusedSimpArgs false
set_option maxRecDepth 100000
set_option maxHeartbeats 2000000
/-- a prototype that has been read, and where its lists lie. -/
structure PI where
  lo : Nat
  hi : Nat
  v3 : Value
  v4 : Value
  v5 : Value
  v8 : Value
  v9 : Value
  p : PR
def pcs (x : PI) : List Value := [.int .i64 x.p.params, .bool x.p.vararg, .int .i64 x.p.regs, x.v3, x.v4, x.v5, .int .i64 x.p.kids, .string x.p.name, x.v8, x.v9]
theorem pcs_len (L : List PI) : (L.flatMap pcs).length = L.length * 10 := by
  induction L with
  | nil => rfl
  | cons x L ih => rw [List.flatMap_cons, List.length_append, ih, List.length_cons, Nat.succ_mul]; simp [pcs]; omega
structure ItOk (y : World) (x : PI) : Prop where
  row : PRow x.lo y x.v3 x.v4 x.v5 x.v8 x.v9 x.p
  b3 : ∀ q, x.v3.ownBlock = some q → q < x.hi
  b4 : ∀ q, x.v4.ownBlock = some q → q < x.hi
  b5 : ∀ q, x.v5.ownBlock = some q → q < x.hi
  b8 : ∀ q, x.v8.ownBlock = some q → q < x.hi
  b9 : ∀ q, x.v9.ownBlock = some q → q < x.hi
/-- one behind the other. -/
def Chain : Nat → Nat → List PI → Prop
  | lo, hi, [] => lo ≤ hi
  | lo, hi, x :: L => lo ≤ x.lo ∧ x.lo ≤ x.hi ∧ Chain x.hi hi L
theorem Chain.le : ∀ {L : List PI} {lo hi : Nat}, Chain lo hi L → lo ≤ hi
  | [], _, _, h => h
  | x :: L, lo, hi, h => by have := h.2.2.le; have := h.1; have := h.2.1; omega
theorem Chain.append : ∀ {L M : List PI} {lo mid hi : Nat}, Chain lo mid L → Chain mid hi M → Chain lo hi (L ++ M)
  | [], [], _, _, _, h, k => Nat.le_trans h k
  | [], x :: M, lo, mid, hi, h, k => ⟨Nat.le_trans h k.1, k.2⟩
  | x :: L, M, lo, mid, hi, h, k => ⟨h.1, h.2.1, Chain.append h.2.2 k⟩
theorem Chain.up : ∀ {L : List PI} {lo hi hi' : Nat}, Chain lo hi L → hi ≤ hi' → Chain lo hi' L
  | [], _, _, _, h, k => Nat.le_trans h k
  | x :: L, lo, hi, hi', h, k => ⟨h.1, h.2.1, h.2.2.up k⟩
theorem Chain.down {L : List PI} {lo lo' hi : Nat} (h : Chain lo hi L) (k : lo' ≤ lo) : Chain lo' hi L := by
  cases L with
  | nil => exact Nat.le_trans k h
  | cons x L => exact ⟨Nat.le_trans k h.1, h.2⟩
theorem Chain.mem : ∀ {L : List PI} {lo hi : Nat} {x : PI}, Chain lo hi L → x ∈ L → lo ≤ x.lo ∧ x.hi ≤ hi
  | [], _, _, _, _, h => by cases h
  | a :: L, lo, hi, x, h, hx => by
    rcases List.mem_cons.1 hx with rfl | hx
    · exact ⟨h.1, h.2.2.le⟩
    · have := h.2.2.mem hx
      have := h.1
      have := h.2.1
      omega
/-- rows of other types lie in other blocks. -/
theorem own_ne {y : World} {b b' : Nat} {e e' : TypeId} {z z' n n' : Nat} {v v' : Value} {xs xs' : List Value} (h : y.ownsRow b e z v n xs) (h' : y.ownsRow b' e' z' v' n' xs') (he : e ≠ e') : ∀ q, v.ownBlock = some q → v'.ownBlock ≠ some q := fun q hq hq' => by
  rcases h.2 with ⟨rfl, _⟩ | ⟨g, cap, cur, rfl, _, hg, _⟩
  · cases hq
  · rcases h'.2 with ⟨rfl, _⟩ | ⟨g', cap', cur', rfl, _, hg', _⟩
    · cases hq'
    · simp only [Value.ownBlock, Option.some.injEq] at hq hq'
      subst hq hq'
      rw [hg] at hg'
      simp only [Option.some.injEq, Obj.cells.injEq] at hg'
      exact he hg'.2.1
theorem own_kept {y y' : World} {b : Nat} {e : TypeId} {z n : Nat} {v : Value} {xs : List Value} (h : y.ownsRow b e z v n xs) (hk : ∀ q, v.ownBlock = some q → y'.heap[q]? = y.heap[q]?) : y'.ownsRow b e z v n xs := by
  refine ⟨h.1, ?_⟩
  rcases h.2 with hn | ⟨g, cap, cur, rfl, hbb, hg, rest⟩
  · exact .inl hn
  · exact .inr ⟨g, cap, cur, rfl, hbb, (hk g rfl).trans hg, rest⟩
theorem PRow.keep {B : Nat} {y y' : World} {v3 v4 v5 v8 v9 : Value} {p : PR} (h : PRow B y v3 v4 v5 v8 v9 p) (hk : ∀ q, (v3.ownBlock = some q ∨ v4.ownBlock = some q ∨ v5.ownBlock = some q ∨ v8.ownBlock = some q ∨ v9.ownBlock = some q) → y'.heap[q]? = y.heap[q]?) : PRow B y' v3 v4 v5 v8 v9 p :=
  ⟨own_kept h.o3 fun q hq => hk q (.inl hq), own_kept h.o4 fun q hq => hk q (.inr (.inl hq)), own_kept h.o5 fun q hq => hk q (.inr (.inr (.inl hq))), own_kept h.o8 fun q hq => hk q (.inr (.inr (.inr (.inl hq)))), own_kept h.o9 fun q hq => hk q (.inr (.inr (.inr (.inr hq)))), h.sep⟩
theorem PRow.lt {B : Nat} {y : World} {v3 v4 v5 v8 v9 : Value} {p : PR} (h : PRow B y v3 v4 v5 v8 v9 p) {q : Nat} (hq : v3.ownBlock = some q ∨ v4.ownBlock = some q ∨ v5.ownBlock = some q ∨ v8.ownBlock = some q ∨ v9.ownBlock = some q) : B ≤ q ∧ q < y.heap.size := by
  rcases hq with hq | hq | hq | hq | hq
  · exact h.o3.lt q hq
  · exact h.o4.lt q hq
  · exact h.o5.lt q hq
  · exact h.o8.lt q hq
  · exact h.o9.lt q hq
/-- blocks of lists of prototypes, and of lists of these, are others. -/
theorem PRow.ne {B : Nat} {y : World} {v3 v4 v5 v8 v9 : Value} {p : PR} (h : PRow B y v3 v4 v5 v8 v9 p) {b : Nat} {e : TypeId} {z n : Nat} {v : Value} {xs : List Value} (hv : y.ownsRow b e z v n xs) (he : e ≠ 57 ∧ e ≠ 59 ∧ e ≠ 63 ∧ e ≠ 3 ∧ e ≠ 9)
    {q : Nat} (hq : v3.ownBlock = some q ∨ v4.ownBlock = some q ∨ v5.ownBlock = some q ∨ v8.ownBlock = some q ∨ v9.ownBlock = some q) : v.ownBlock ≠ some q := fun hv' => by
  obtain ⟨e3, e4, e5, e8, e9⟩ := he
  rcases hq with hq | hq | hq | hq | hq
  · exact own_ne hv h.o3 e3 q hv' hq
  · exact own_ne hv h.o4 e4 q hv' hq
  · exact own_ne hv h.o5 e5 q hv' hq
  · exact own_ne hv h.o8 e8 q hv' hq
  · exact own_ne hv h.o9 e9 q hv' hq
theorem ItOk.keep {y y' : World} {x : PI} (h : ItOk y x) (hk : ∀ q, (x.v3.ownBlock = some q ∨ x.v4.ownBlock = some q ∨ x.v5.ownBlock = some q ∨ x.v8.ownBlock = some q ∨ x.v9.ownBlock = some q) → y'.heap[q]? = y.heap[q]?) : ItOk y' x := { h with row := h.row.keep hk }
theorem ItOk.ex {R : Nat} {y y' : World} {x : PI} (h : ItOk y x) (hx : Ex R y y') (hR : R < x.lo) : ItOk y' x :=
  h.keep fun q hq => hx.block q (h.row.lt hq).2 (by have := (h.row.lt hq).1; omega)
theorem ItOk.grown {y y' : World} {x : PI} (h : ItOk y x) {b : Nat} {e : TypeId} {z n : Nat} {v : Value} {xs : List Value} (hv : y.ownsRow b e z v n xs) (he : e ≠ 57 ∧ e ≠ 59 ∧ e ≠ 63 ∧ e ≠ 3 ∧ e ≠ 9) (hg : y.grownBy y' v.ownBlock) : ItOk y' x :=
  h.keep fun q hq => hg.block q (h.row.lt hq).2 (fun e1 => h.row.ne hv he hq e1.symm)
/-- what a tree gives back. -/
structure TrOk (y w' : World) (v : Value) (L : List PI) (mid : Nat) : Prop where
  row : w'.ownsRow mid 38 10 v L.length (L.flatMap pcs)
  its : ∀ x ∈ L, ItOk w' x
  chain : Chain y.heap.size mid L
  mid : mid ≤ w'.heap.size
/-- trees, one behind the other, until a fault. -/
def rdFor (t : RS → Int → List PR × RS × Int) : Nat → RS → Int → List (List PR) → List (List PR) × RS × Int
  | 0, r, an, acc => (acc, r, an)
  | n + 1, r, an, acc => if (t r an).2.1.bad ≠ 0 then ([], (t r an).2) else rdFor t n (t r an).2.1 (t r an).2.2 (acc ++ [(t r an).1])
theorem rdFor_bad {t : RS → Int → List PR × RS × Int} {n : Nat} {r : RS} {an : Int} {acc : List (List PR)} (h : (t r an).2.1.bad ≠ 0) : rdFor t (n + 1) r an acc = ([], (t r an).2) := if_pos h
theorem rdFor_ok {t : RS → Int → List PR × RS × Int} {n : Nat} {r : RS} {an : Int} {acc : List (List PR)} (h : (t r an).2.1.bad = 0) : rdFor t (n + 1) r an acc = rdFor t n (t r an).2.1 (t r an).2.2 (acc ++ [(t r an).1]) := if_neg (by simp [h])
/-- trees in a list. -/
structure FoOk (R : Nat) (w y : World) (o : Value) (L : List (Value × List PI)) (mid : Nat) : Prop where
  row : y.ownsRow w.heap.size 22 1 o L.length (L.map (·.1))
  each : ∀ x ∈ L, ∃ m, w.heap.size ≤ m ∧ y.ownsRow m 38 10 x.1 x.2.length (x.2.flatMap pcs)
  its : ∀ x ∈ L, ∀ z ∈ x.2, ItOk y z
  chain : Chain w.heap.size mid (L.flatMap (·.2))
  mid : mid ≤ y.heap.size
  ex : Ex R w y
theorem infF : (Tryz.prog.info? 22).map (fun i => (i.zero, i.size, i.bytes)) = some (some (.slice none 0 0), 1, 24) := by kernel_rfl
theorem FoOk.none {R : Nat} {w y : World} (h : Ex R w y) : FoOk R w y (.slice none 0 0) [] w.heap.size := ⟨World.ownsRow_nil _ _ _ _, fun _ hx => (by cases hx), fun _ hx => (by cases hx), Nat.le_refl _, h.size, h⟩
theorem FoOk.later {R : Nat} {w y y' : World} {o : Value} {L : List (Value × List PI)} {mid : Nat} (h : FoOk R w y o L mid) (hR : R < w.heap.size) (hx : Ex R y y') : FoOk R w y' o L mid := by
  refine ⟨own_ex h.row hR hx, fun x hx' => ?_, fun x hx' z hz => (h.its x hx' z hz).ex hx ?_, h.chain, Nat.le_trans h.mid hx.size, h.ex.trans hx⟩
  · obtain ⟨m, hm, hr⟩ := h.each x hx'
    exact ⟨m, hm, own_ex hr (by omega) hx⟩
  · have := (h.chain.mem (x := z) (List.mem_flatMap.2 ⟨x, hx', hz⟩)).1
    omega
theorem FoOk.push {R : Nat} {w y0 y w' : World} {o o' v : Value} {L : List (Value × List PI)} {its : List PI} {mid m1 : Nat} {nb : Obj} (h : FoOk R w y o L mid) (k : TrOk y0 y v its m1) (hy : mid ≤ y0.heap.size)
    (hown : w'.ownsRow w.heap.size 22 1 o' (L.length + 1) (L.map (·.1) ++ [v])) (hg : (y.alloc nb).grownBy w' o.ownBlock) : FoOk R w w' o' (L ++ [(v, its)]) m1 := by
  have hE : 22 ≠ 57 ∧ 22 ≠ 59 ∧ 22 ≠ 63 ∧ 22 ≠ 3 ∧ 22 ≠ 9 := by decide
  have hal : ∀ q, q < y.heap.size → (y.alloc nb).heap[q]? = y.heap[q]? := fun q hq => heap_alloc_old y nb hq
  have hrow := h.row.alloc nb
  have hsz : mid ≤ m1 := Nat.le_trans hy k.chain.le
  have hkeep : ∀ {m : Nat} {u : Value} {n : Nat} {xs : List Value}, y.ownsRow m 38 10 u n xs → w'.ownsRow m 38 10 u n xs := fun {m u n xs} hr =>
    own_kept (hr.alloc nb) fun q hq => hg.block q ((hr.alloc nb).lt q hq).2 (fun e1 => own_ne (hr.alloc nb) hrow (by decide) q hq e1.symm)
  have hit : ∀ z, ItOk y z → ItOk w' z := fun z hz => (hz.keep (y' := y.alloc nb) fun q hq => hal q (hz.row.lt hq).2).grown hrow hE hg
  refine ⟨?_, fun x hx => ?_, fun x hx z hz => ?_, ?_, ?_, (h.ex.alloc nb).grown hg (own_base h.row)⟩
  · rw [List.length_append, List.map_append]; exact hown
  · rcases List.mem_append.1 hx with hx | hx
    · obtain ⟨m, hm, hr⟩ := h.each x hx
      exact ⟨m, hm, hkeep hr⟩
    · obtain rfl : x = (v, its) := by simpa using hx
      exact ⟨m1, Nat.le_trans h.chain.le hsz, hkeep k.row⟩
  · rcases List.mem_append.1 hx with hx | hx
    · exact hit z (h.its x hx z hz)
    · obtain rfl : x = (v, its) := by simpa using hx
      exact hit z (k.its z hz)
  · rw [List.flatMap_append]
    refine h.chain.append ?_
    simpa using k.chain.down hy
  · have := k.mid
    have := hg.size
    rw [World.size_alloc] at this
    omega
theorem severalF_in (t : RS → Int → List PR × RS × Int) (s : ByteArray) (ab : Int) (R : Nat) (n : Nat) (r0 : RS) (an0 : Int) (w : World)
    (hone : 0 < n → ∀ r an y, RowL y R 67 (rdL s r ab an) → r.pos ≤ s.size → 0 ≤ an → an ≤ 200 → Calls Tryz.prog 22 #[.pointer (some ⟨R, 0, none⟩)] y fun e w' => ∃ v its mid, e = .returned v ∧ TrOk y w' v its mid ∧ its.map (·.p) = (t r an).1 ∧ RowL w' R 67 (rdL s (t r an).2.1 ab (t r an).2.2) ∧ Ex R y w')
    (hpos : ∀ r an, r.pos ≤ s.size → 0 ≤ an → an ≤ 200 → (t r an).2.1.pos ≤ s.size ∧ 0 ≤ (t r an).2.2 ∧ (t r an).2.2 ≤ 200) (h : RowL w R 67 (rdL s r0 ab an0)) (hp : r0.pos ≤ s.size) (ha0 : 0 ≤ an0) (ha1 : an0 ≤ 200) (hn : n ≤ 200) :
    Calls Tryz.prog 48 #[.pointer (some ⟨R, 0, none⟩), .int .i64 (n : Int), .func (.func 22) #[.pointer (some ⟨R, 0, none⟩)] #[]] w fun e w' =>
      ∃ v L mid, e = .returned v ∧ FoOk R w w' v L mid ∧ L.map (fun x => x.2.map (·.p)) = (rdFor t n r0 an0 []).1 ∧ L.length ≤ n ∧ RowL w' R 67 (rdL s (rdFor t n r0 an0 []).2.1 ab (rdFor t n r0 an0 []).2.2) := by
  have hlt : R < w.heap.size := World.rowIs.lt h
  obtain ⟨i0, hi, hz0, hz1, hz2⟩ := info_of infF
  replace hone := hidR hone
  replace hpos := hidR hpos
  obtain ⟨N, hN⟩ : ∃ N : Int, N = (n : Int) := ⟨_, rfl⟩
  rw [← hN]
  replace hN := hidR hN
  go_enter Tryz.func48, Tryz.ntmps48
  go_wp2_with fail
  go_loopw [7, 10] (fun o i wr => ∃ (k : Nat) (L : List (Value × List PI)) (mid : Nat) (r : RS) (an : Int), i = .int .i64 k ∧ k ≤ n ∧ Hid (r.pos ≤ s.size ∧ (0 ≤ an ∧ an ≤ 200) ∧ RowL wr R 67 (rdL s r ab an) ∧ FoOk R w wr o L mid ∧ L.length = k ∧ rdFor t n r0 an0 [] = rdFor t (n - k) r an (L.map (fun x => x.2.map (·.p))))) (fun _ i _ => n - (intOf i).toNat)
  case atStart => exact ⟨0, [], w.heap.size, r0, an0, rfl, Nat.zero_le _, hp, ⟨ha0, ha1⟩, h, FoOk.none (Ex.refl R w), rfl, rfl⟩
  case round =>
    obtain ⟨k, L, mid, r, an, rfl, q1, q2⟩ := hrel
    by_cases hk : k < n
    · have hk1 : (k : Int) < N := by have := hN.out; omega
      have hc := hone.out (by omega) r an _ q2.out.2.2.1 q2.out.1 q2.out.2.1.1 q2.out.2.1.2
      have hp1 := hpos.out r an q2.out.1 q2.out.2.1.1 q2.out.2.1.2
      obtain ⟨x, hx⟩ : ∃ x, t r an = x := ⟨_, rfl⟩
      rw [hx] at hc hp1
      obtain ⟨ps, r1, an1⟩ := x
      dsimp only at hc hp1
      replace hc := hidR hc
      replace hp1 := hidR hp1
      go_wp2_with fail
      refine Calls.mono hc.out ?_
      rintro e y1 ⟨v, its, m1, rfl, htr, hps, hr1, hx1⟩
      have hsv := q2.out.2.2.2.1.later hlt hx1
      have hyl := q2.out.2.2.2.1.mid
      have hLk := q2.out.2.2.2.2.1
      have heq := q2.out.2.2.2.2.2
      clear hc q2
      obtain ⟨o1, c1, rfl⟩ := own_slice htr.row
      have h2 : y1.cell? ⟨R, 2, none⟩ = some (fltV r1.bad) := hr1.cell 2 rfl
      replace hr1 := hidR hr1
      replace hsv := hidR hsv
      replace heq := hidR heq
      replace htr := hidR htr
      replace hps := hidR hps
      replace hx := hidR hx
      by_cases hb : r1.bad = 0
      · rw [hb, show fltV (0 : Int) = .nilIface from rfl] at h2
        replace hb := hidR hb
        go_wp2_with (at_builtin; refine wpList_append_own_at _ rfl (.tmp 19) (.tmp 21) 99 rfl w.heap.size 22 i0 (.slice none 0 0) 1 24 Tryz.underlying99 hi hz0 hz1 hz2 rfl (by decide) u7 L.length _ rfl (hsv.out.row.alloc _) ⟨y1.heap.size, 0, none⟩ 1 1 [.slice o1 its.length c1] rfl rfl ?c1 ?c2 ?c3 ?c4 ?c5 ?_)
        case c1 => exact World.news_of_block (heap_alloc_new _ _)
        case c2 => intro u hu; simp only [List.mem_cons, List.not_mem_nil, or_false] at hu; subst hu; rfl
        case c3 => simp only [maxLen]; omega
        case c4 => omega
        case c5 => have := hsv.out.ex.size; simp only [World.size_alloc]; omega
        intro v' w' hown hg _ hat
        have hrel : Hid (r1.pos ≤ s.size ∧ (0 ≤ an1 ∧ an1 ≤ 200) ∧ RowL w' R 67 (rdL s r1 ab an1) ∧ FoOk R w w' v' (L ++ [(.slice o1 its.length c1, its)]) m1 ∧ (L ++ [(Value.slice o1 its.length c1, its)]).length = k + 1 ∧ rdFor t n r0 an0 [] = rdFor t (n - (k + 1)) r1 an1 ((L ++ [(Value.slice o1 its.length c1, its)]).map (fun x => x.2.map (·.p)))) := by
          refine ⟨hp1.out.1, hp1.out.2, row_grown (hr1.out.alloc _) hg (fun e => by have := own_base hsv.out.row _ e; omega), hsv.out.push htr.out hyl (by rw [hLk]; simpa using hown) hg, ?_, ?_⟩
          · rw [List.length_append, hLk]; rfl
          · rw [heq.out, show n - k = (n - (k + 1)) + 1 by omega, rdFor_ok (by rw [hx.out]; exact hb.out), hx.out, List.map_append]
            simp [hps.out]
        clear hown hg hat hi hz0 hz1 hz2 heq hsv hr1 h2 hx1 htr hps
        go_wp2_with fail
        go_roundw
        case rel => exact ⟨k + 1, L ++ [(Value.slice o1 its.length c1, its)], m1, r1, an1, by go_num, by omega, hrel.out⟩
        case measure => simp [intOf]; omega
      · have hfb : fltV r1.bad = .iface 47 (.agg #[.int .i64 r1.bad]) := if_neg hb
        rw [hfb] at h2
        clear hfb
        go_wp2_with fail
        go_ret
        have he : rdFor t n r0 an0 [] = ([], r1, an1) := by
          rw [heq.out, show n - k = (n - k - 1) + 1 by omega, rdFor_bad (by rw [hx.out]; exact hb), hx.out]
        rw [he]
        exact ⟨_, [], _, rfl, FoOk.none hsv.out.ex, rfl, Nat.zero_le _, hr1.out⟩
    · obtain rfl : k = n := by omega
      have hk1 : N ≤ (k : Int) := by have := hN.out; omega
      go_wp2_with fail
      go_ret
      have he : rdFor t k r0 an0 [] = (L.map (fun x => x.2.map (·.p)), r, an) := by
        rw [q2.out.2.2.2.2.2, Nat.sub_self]; rfl
      rw [he]
      exact ⟨_, L, mid, rfl, q2.out.2.2.2.1, rfl, Nat.le_of_eq q2.out.2.2.2.2.1, q2.out.2.2.1⟩
end Go.Proofs.YtpobiffihiaakaaGreatDoor

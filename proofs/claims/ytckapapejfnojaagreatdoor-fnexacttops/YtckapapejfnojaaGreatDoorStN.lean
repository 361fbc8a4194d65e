import Derived.Test.YtckapapejfnojaaGreatDoorStM
namespace Go.Proofs.YtckapapejfnojaaGreatDoor
open Go.RowKit
set_option linter.unusedVariables false
set_option linter.unusedSimpArgs false

/-- a chunk of its own from lo on. -/
def Mine (w : World) (v : Value) (s : Sl PD) (lo hi : Nat) : Prop := ∃ B0 rng a b, (0 < s.n → B0 < hi) ∧ lo ≤ B0 ∧ hi ≤ w.heap.size ∧ lo ≤ rng 0 ∧ COwn w v s.n s.f lo hi B0 rng a b
theorem Mine.keep {w w' : World} {v : Value} {s : Sl PD} {lo hi : Nat} (h : Mine w v s lo hi) (hsz : w.heap.size ≤ w'.heap.size) (hk : ∀ c, lo ≤ c → c < hi → w'.heap[c]? = w.heap[c]?) : Mine w' v s lo hi := by
  obtain ⟨B0, rng, a, b, h1, h2, h3, h4, h5⟩ := h
  exact ⟨B0, rng, a, b, h1, h2, by omega, h4, h5.keep h1 hk⟩
theorem Mine.call {w w' : World} {v : Value} {s : Sl PD} {lo hi : Nat} (h : Mine w v s lo hi) (hb : Below w.heap.size w w') : Mine w' v s lo hi :=
  h.keep hb.size fun c _ h2 => hb.block c (by obtain ⟨_, _, _, _, _, _, h3, _⟩ := h; omega)
theorem Mine.is {w : World} {v : Value} {s : Sl PD} {lo hi : Nat} (h : Mine w v s lo hi) (ht : ∀ i, i < s.n → TextP (s.f i)) : IsProtos (· < w.heap.size) w v s := by
  obtain ⟨B0, rng, a, b, h1, h2, h3, h4, h5⟩ := h
  exact (h5.protos h1 ht).mono fun c hc => by omega
theorem Mine.slice {w : World} {v : Value} {s : Sl PD} {lo hi : Nat} (h : Mine w v s lo hi) : ∃ ao cap, v = .slice ao s.n cap := by
  obtain ⟨B0, rng, a, b, h1, h2, h3, h4, h5⟩ := h
  obtain ⟨ao, cap, rfl, _⟩ := h5.cells
  exact ⟨ao, cap, rfl⟩
theorem to_post (s : Sl PD) (v : Value) (w : World) (hv : IsProtos (· < w.heap.size) w v s) (hs : SmallC s) : Calls Tryz.prog 13 #[.agg #[v]] w fun e w' => (∃ ao cap lo hi, e = .returned (.agg #[.slice ao s.n cap]) ∧ w.heap.size ≤ lo ∧ hi ≤ w'.heap.size ∧ Hid (Mine w' (.slice ao s.n cap) s lo hi)) ∧ Below w.heap.size w w' :=
  (toChunk_own s v w hv hs).mono fun e w' ⟨⟨v', lo, B0, rng, a, b, he, h1, h2⟩, hb⟩ => by
    obtain ⟨ao, cap, rfl, _⟩ := id h2.cells
    exact ⟨⟨ao, cap, lo, w'.heap.size, he, h1, Nat.le_refl _, B0, rng, a, b, h2.cells.lt, h2.B0lo, Nat.le_refl _, h2.B0out.1, h2⟩, hb⟩
/-- the chunk with its marks. -/
def markS (s : Sl PD) : Sl PD := ⟨s.n, fun i => mkP (kAt 1 s.f i) (s.f i)⟩
/-- what was there lies as it lay but between lo and hi. -/
structure Btw (lo hi : Nat) (w w' : World) : Prop where
  os : w'.os = w.os
  tape : w'.tape = w.tape
  output : w'.output = w.output
  size : w.heap.size ≤ w'.heap.size
  block : ∀ c, c < w.heap.size → c < lo ∨ hi ≤ c → w'.heap[c]? = w.heap[c]?
theorem mark_post (s : Sl PD) (v : Value) (w : World) (lo hi : Nat) (hm : Mine w v s lo hi) (hs : SmallC s) :
    Calls Tryz.prog 9 #[.agg #[v], .int .i64 1] w fun e w' => e = .returned (.int .i64 (kAt 1 s.f s.n)) ∧ Hid (Mine w' v (markS s) lo hi) ∧ Btw lo hi w w' := by
  obtain ⟨B0, rng, a, b, h1, h2, h3, h4, h5⟩ := hm
  by_cases hn : 0 < s.n
  · refine (markChunk_in s.n v s.f w lo hi B0 rng a b h5 h3 hs (kAt_bound hs)).mono ?_
    rintro e w' ⟨rfl, c1, c2⟩
    have := h1 hn
    exact ⟨rfl, ⟨B0, rng, a, b, h1, h2, Nat.le_trans h3 c2.size, h4, c1⟩, c2.os, c2.tape, c2.output, c2.size, fun c hc hr => c2.block c hc (by omega) (by omega)⟩
  · have hn0 : s.n = 0 := by omega
    have hC : COwn w v s.n s.f w.heap.size w.heap.size w.heap.size (fun _ => w.heap.size) a b := by
      refine ⟨?_, Nat.le_refl _, ⟨Nat.le_refl _, fun i hi => by omega⟩, fun _ => Nat.le_refl _, Nat.le_refl _, fun i hi => by omega⟩
      obtain ⟨ao, cap, rfl, q1, _⟩ := h5.cells
      exact ⟨ao, cap, rfl, q1, fun h => by omega⟩
    refine (markChunk_in s.n v s.f w _ _ _ _ a b hC (Nat.le_refl _) hs (kAt_bound hs)).mono ?_
    rintro e w' ⟨rfl, c1, c2⟩
    refine ⟨rfl, ⟨B0, rng, a, b, h1, h2, Nat.le_trans h3 c2.size, h4, ⟨?_, h5.B0lo, h5.B0out, h5.mono, h5.hi', fun i hi => absurd (show i < s.n from hi) (by omega)⟩⟩, c2.os, c2.tape, c2.output, c2.size, fun c hc hr => c2.block c hc (by omega) (.inl hc)⟩
    obtain ⟨ao, cap, rfl, q1, _⟩ := h5.cells
    exact ⟨ao, cap, rfl, q1, fun h => absurd (show 0 < s.n from h) hn⟩
theorem Mine.btw {w w' : World} {v : Value} {s : Sl PD} {lo hi lo' hi' : Nat} (h : Mine w v s lo hi) (hb : Btw lo' hi' w w') (hd : hi ≤ lo' ∨ hi' ≤ lo) : Mine w' v s lo hi :=
  h.keep hb.size fun c h1 h2 => hb.block c (by obtain ⟨_, _, _, _, _, _, h3, _⟩ := h; omega) (by omega)
theorem Btw.below {lo hi B : Nat} {w w' : World} (h : Btw lo hi w w') (h1 : B ≤ lo) (h2 : B ≤ w.heap.size) : Below B w w' := ⟨h.os, h.tape, h.output, h.size, fun c hc => h.block c (by omega) (.inl (by omega))⟩
theorem RowL.btw {lo hi : Nat} {w w' : World} {b : Nat} {t : TypeId} {L : List Value} (h : RowL w b t L) (hb : Btw lo hi w w') (hd : b < lo ∨ hi ≤ b) : RowL w' b t L := World.rowIs.of_block h (hb.block _ h.lt hd)
end Go.Proofs.YtckapapejfnojaaGreatDoor

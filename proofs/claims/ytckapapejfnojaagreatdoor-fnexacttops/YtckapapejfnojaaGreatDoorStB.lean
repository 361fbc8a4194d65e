import Derived.Test.YtckapapejfnojaaGreatDoorStA
namespace Go.Proofs.YtckapapejfnojaaGreatDoor
open Go.RowKit
set_option linter.unusedVariables false
set_option linter.unusedSimpArgs false

/-- what was there lies as it lay, but for block B, and for it only where the list in it is not empty. -/
structure OnlyN (n B : Nat) (w w' : World) : Prop where
  os : w'.os = w.os
  tape : w'.tape = w.tape
  output : w'.output = w.output
  size : w.heap.size ≤ w'.heap.size
  block : ∀ k, k < w.heap.size → (0 < n → k ≠ B) → w'.heap[k]? = w.heap[k]?
theorem wrapN {F z n : Nat} {v : Value} {k r : Int} {w : World} {C : Nat → Nat → Value} {C0 : Nat → Nat → Value} {B : Nat}
    (H : ∀ B C0, OwnArr w v z n C0 B → Calls Tryz.prog F #[v, .int .i64 k] w fun e w' => e = .returned (.int .i64 r) ∧ OwnArr w' v z n C B ∧ Only B w w') (hv : OwnArr w v z n C0 B) :
    Calls Tryz.prog F #[v, .int .i64 k] w fun e w' => e = .returned (.int .i64 r) ∧ OwnArr w' v z n C B ∧ OnlyN n B w w' := by
  by_cases h : n = 0
  · have hv' : OwnArr w v z n C0 w.heap.size := by
      obtain ⟨ao, cap, rfl, hn, _⟩ := hv
      exact ⟨ao, cap, rfl, hn, fun h' => by omega⟩
    refine (H _ _ hv').mono fun e w' ⟨he, ho, hon⟩ => ⟨he, ?_, hon.os, hon.tape, hon.output, hon.size, fun k hk _ => hon.block k hk (by omega)⟩
    obtain ⟨ao, cap, rfl, hn, _⟩ := ho
    exact ⟨ao, cap, rfl, hn, fun h' => by omega⟩
  · exact (H _ _ hv).mono fun e w' ⟨he, ho, hon⟩ => ⟨he, ho, hon.os, hon.tape, hon.output, hon.size, fun k hk hne => hon.block k hk (hne (by omega))⟩

/-- the lists of one prototype, each in a block of its own between lo and hi. -/
structure OwnProto (w : World) (lo hi : Nat) (a3 a4 a5 a8 a9 : Value) (B3 B4 B5 B8 B9 : Nat) (p : PD) : Prop where
  o3 : OwnArr w a3 1 p.code.n (iC .u32 p.code.f) B3
  o4 : OwnArr w a4 3 p.consts.n (vC p.consts.f) B4
  o5 : OwnArr w a5 2 p.ups.n (uC p.ups.f) B5
  o8 : OwnArr w a8 1 p.lines.n (iC .i64 p.lines.f) B8
  o9 : OwnArr w a9 1 p.upNames.n (sC p.upNames.f) B9
  r3 : 0 < p.code.n → lo ≤ B3 ∧ B3 < hi
  r4 : 0 < p.consts.n → lo ≤ B4 ∧ B4 < hi
  r5 : 0 < p.ups.n → lo ≤ B5 ∧ B5 < hi
  r8 : 0 < p.lines.n → lo ≤ B8 ∧ B8 < hi
  r9 : 0 < p.upNames.n → lo ≤ B9 ∧ B9 < hi
  n34 : 0 < p.code.n → 0 < p.consts.n → B3 ≠ B4
  n35 : 0 < p.code.n → 0 < p.ups.n → B3 ≠ B5
  n38 : 0 < p.code.n → 0 < p.lines.n → B3 ≠ B8
  n39 : 0 < p.code.n → 0 < p.upNames.n → B3 ≠ B9
  n45 : 0 < p.consts.n → 0 < p.ups.n → B4 ≠ B5
  n48 : 0 < p.consts.n → 0 < p.lines.n → B4 ≠ B8
  n49 : 0 < p.consts.n → 0 < p.upNames.n → B4 ≠ B9
  n58 : 0 < p.ups.n → 0 < p.lines.n → B5 ≠ B8
  n59 : 0 < p.ups.n → 0 < p.upNames.n → B5 ≠ B9
  n89 : 0 < p.lines.n → 0 < p.upNames.n → B8 ≠ B9
theorem OwnProto.keep {w w' : World} {lo hi : Nat} {a3 a4 a5 a8 a9 : Value} {B3 B4 B5 B8 B9 : Nat} {p : PD} (h : OwnProto w lo hi a3 a4 a5 a8 a9 B3 B4 B5 B8 B9 p) (hk : ∀ b, lo ≤ b → b < hi → b < w.heap.size → w'.heap[b]? = w.heap[b]?) : OwnProto w' lo hi a3 a4 a5 a8 a9 B3 B4 B5 B8 B9 p :=
  { h with
    o3 := h.o3.keep fun hp => hk _ (h.r3 hp).1 (h.r3 hp).2 (h.o3.lt hp)
    o4 := h.o4.keep fun hp => hk _ (h.r4 hp).1 (h.r4 hp).2 (h.o4.lt hp)
    o5 := h.o5.keep fun hp => hk _ (h.r5 hp).1 (h.r5 hp).2 (h.o5.lt hp)
    o8 := h.o8.keep fun hp => hk _ (h.r8 hp).1 (h.r8 hp).2 (h.o8.lt hp)
    o9 := h.o9.keep fun hp => hk _ (h.r9 hp).1 (h.r9 hp).2 (h.o9.lt hp) }

/-- a prototype whose every place bears a number of its own from k on. -/
def k3 (k : Int) (p : PD) : Int := k + 1 + 1 + 1 + p.code.n
def k4 (k : Int) (p : PD) : Int := k3 k p + 3 * p.consts.n
def k5 (k : Int) (p : PD) : Int := k4 k p + 2 * p.ups.n
def k8 (k : Int) (p : PD) : Int := k5 k p + 1 + 1 + p.lines.n
def kNext (k : Int) (p : PD) : Int := k8 k p + p.upNames.n
def mkP (k : Int) (p : PD) : PD :=
  { params := k, vararg := (k + 1) % 3 == 0, regs := k + 1 + 1
    code := ⟨p.code.n, fun i => (k + 1 + 1 + 1 + (i : Int)) % 4294967296⟩
    consts := ⟨p.consts.n, fun i => ⟨k3 k p + 3 * (i : Int), k3 k p + 3 * (i : Int) + 1, mt (k3 k p + 3 * (i : Int) + 1 + 1)⟩⟩
    ups := ⟨p.ups.n, fun i => ⟨(k4 k p + 2 * (i : Int)) % 3 == 0, k4 k p + 2 * (i : Int) + 1⟩⟩
    kids := k5 k p, name := mt (k5 k p + 1)
    lines := ⟨p.lines.n, fun i => k5 k p + 1 + 1 + (i : Int)⟩
    upNames := ⟨p.upNames.n, fun i => mt (k8 k p + (i : Int))⟩ }
def kAt (k : Int) (f : Nat → PD) : Nat → Int
  | 0 => k
  | i + 1 => kNext (kAt k f i) (f i)
/-- the chunk with the first m prototypes marked. -/
def mixP (k : Int) (f : Nat → PD) (m : Nat) : Nat → PD := fun i => if i < m then mkP (kAt k f i) (f i) else f i

/-- a chunk that owns its memory: between lo and hi. -/
structure COwn (w : World) (v : Value) (n : Nat) (f : Nat → PD) (lo hi B0 : Nat) (rng : Nat → Nat) (a : Nat → Nat → Value) (b : Nat → Nat → Nat) : Prop where
  cells : OwnArr w v 10 n (pC f (a 3) (a 4) (a 5) (a 8) (a 9)) B0
  B0lo : lo ≤ B0
  B0out : lo ≤ rng 0 ∧ ∀ i, i < n → B0 < rng (2 * i) ∨ rng (2 * i + 1) ≤ B0
  mono : ∀ i, rng i ≤ rng (i + 1)
  hi' : rng (2 * n) ≤ hi
  each : ∀ i, i < n → OwnProto w (rng (2 * i)) (rng (2 * i + 1)) (a 3 i) (a 4 i) (a 5 i) (a 8 i) (a 9 i) (b 3 i) (b 4 i) (b 5 i) (b 8 i) (b 9 i) (f i)
theorem apartR {B B0 l h : Nat} (h1 : B0 < l ∨ h ≤ B0) (h2 : l ≤ B ∧ B < h) : B0 ≠ B := by omega
theorem rng_le {rng : Nat → Nat} (h : ∀ i, rng i ≤ rng (i + 1)) : ∀ (i j : Nat), i ≤ j → rng i ≤ rng j := by
  intro i j hij
  induction j with
  | zero => obtain rfl : i = 0 := by omega
            exact Nat.le_refl _
  | succ j ih =>
    by_cases e : i = j + 1
    · subst e; exact Nat.le_refl _
    · exact Nat.le_trans (ih (by omega)) (h j)

/-- what was there lies as it lay, but for block B0 and those from lo on and below hi. -/
structure Fr (B0 lo hi : Nat) (w w' : World) : Prop where
  os : w'.os = w.os
  tape : w'.tape = w.tape
  output : w'.output = w.output
  size : w.heap.size ≤ w'.heap.size
  block : ∀ k, k < w.heap.size → k ≠ B0 → k < lo ∨ hi ≤ k → w'.heap[k]? = w.heap[k]?
theorem Fr.refl (B0 lo hi : Nat) (w : World) : Fr B0 lo hi w w := ⟨rfl, rfl, rfl, Nat.le_refl _, fun _ _ _ _ => rfl⟩
theorem Fr.trans {B0 lo hi : Nat} {a b c : World} (h : Fr B0 lo hi a b) (k : Fr B0 lo hi b c) : Fr B0 lo hi a c :=
  ⟨k.os.trans h.os, k.tape.trans h.tape, k.output.trans h.output, Nat.le_trans h.size k.size, fun i hi h1 h2 => (k.block i (Nat.lt_of_lt_of_le hi h.size) h1 h2).trans (h.block i hi h1 h2)⟩
theorem Fr.set {B0 lo hi : Nat} (w : World) (off : Nat) (u : Value) : Fr B0 lo hi w (w.setCell ⟨B0, off, none⟩ u) :=
  have h := (Below.refl 0 w).setCell (p := ⟨B0, off, none⟩) (Nat.zero_le _) u
  ⟨h.os, h.tape, h.output, h.size, fun k _ hne _ => Below.heap_setCell w _ u k hne⟩
theorem Fr.of_only {B0 lo hi n B : Nat} {a b : World} (h : OnlyN n B a b) (hr : 0 < n → lo ≤ B ∧ B < hi) : Fr B0 lo hi a b :=
  ⟨h.os, h.tape, h.output, h.size, fun k hk _ h2 => h.block k hk fun hp => by have := hr hp; omega⟩
theorem Fr.of_below {B0 lo hi : Nat} {a b : World} (h : Below a.heap.size a b) : Fr B0 lo hi a b := ⟨h.os, h.tape, h.output, h.size, fun k hk _ _ => h.block k hk⟩
theorem Fr.wider {B0 lo hi lo' hi' : Nat} {a b : World} (h : Fr B0 lo hi a b) (h1 : lo' ≤ lo) (h2 : hi ≤ hi') : Fr B0 lo' hi' a b :=
  ⟨h.os, h.tape, h.output, h.size, fun k hk hne hr => h.block k hk hne (by omega)⟩

set_option maxRecDepth 100000 in
set_option maxHeartbeats 4000000 in
theorem markProtoS_in (n : Nat) (v : Value) (f : Nat → PD) (k : Int) (w : World) (lo hi B0 : Nat) (rng : Nat → Nat) (a : Nat → Nat → Value) (b : Nat → Nat → Nat) (hv : COwn w v n f lo hi B0 rng a b)
    (hs : SmallC ⟨n, f⟩) (hk1 : 1 ≤ k) (hkb : ∀ i, i ≤ n → 1 ≤ kAt k f i ∧ kAt k f i ≤ 576460752303423488) :
    Calls Tryz.prog 26 #[v, .int .i64 k] w fun e w' => e = .returned (.int .i64 (kAt k f n)) ∧ COwn w' v n (fun i => mkP (kAt k f i) (f i)) lo hi B0 rng a b ∧ Fr B0 (rng 0) hi w w' := by
  have hv0 : Hid (COwn w v n f lo hi B0 rng a b) := hv
  obtain ⟨⟨ao, cap, rfl, hm, hrow⟩, hB0l, hB0h, hmono, hhi, heach⟩ := hv
  have hrow' : Hid (0 < n → ao = some ⟨B0, 0, none⟩ ∧ ∃ t m g, w.rowIs B0 t m g ∧ n * 10 ≤ m ∧ Filled g 10 n (pC f (a 3) (a 4) (a 5) (a 8) (a 9))) := hrow
  have heach' : Hid (∀ i, i < n → OwnProto w (rng (2 * i)) (rng (2 * i + 1)) (a 3 i) (a 4 i) (a 5 i) (a 8 i) (a 9 i) (b 3 i) (b 4 i) (b 5 i) (b 8 i) (b 9 i) (f i)) := heach
  have hmono' : Hid (∀ i, rng i ≤ rng (i + 1)) := hmono
  have hkb' : Hid (∀ i, i ≤ n → 1 ≤ kAt k f i ∧ kAt k f i ≤ 576460752303423488) := hkb
  have hs' : Hid (∀ i, i < n → SmallP (f i)) := hs.2
  have hn : n ≤ 1048576 := hs.1
  replace hB0h : Hid _ := hB0h
  replace hhi : Hid _ := hhi
  clear hrow heach hmono hkb hs
  go_enter Tryz.func26, Tryz.ntmps26
  go_wp2_with fail
  go_loopw [1, 5] (fun kv i wr => ∃ i' : Nat, kv = .int .i64 (kAt k f i') ∧ i = .int .i64 (i' : Int) ∧ i' ≤ n ∧ Hid (Fr B0 (rng 0) hi w wr) ∧ Hid (COwn wr (.slice ao n cap) n (mixP k f i') lo hi B0 rng a b)) (fun _ i _ => n - (intOf i).toNat)
  case atStart => exact ⟨0, rfl, rfl, by omega, Fr.refl _ _ _ _, by have h := hv0.out; rw [show mixP k f 0 = f from funext fun i => by simp [mixP]]; exact h⟩
  case round =>
    obtain ⟨i', rfl, rfl, q1, qF, qC⟩ := hrel
    by_cases hi' : i' < n
    · obtain ⟨⟨ao', cap', he, _, hr1⟩, _, _, _, _, hea⟩ := qC.out
      simp only [Value.slice.injEq, true_and] at he
      obtain ⟨rfl, rfl⟩ := he
      obtain ⟨rfl, t, m, g, hR, hmm, hFl⟩ := hr1 (by omega)
      have hO := hea i' hi'
      have hmix : mixP k f i' i' = f i' := by simp [mixP]
      rw [hmix] at hO
      have hR' : Hid (wr.rowIs B0 t m g) := hR
      have hFl' : Hid (Filled g 10 n (pC (mixP k f i') (a 3) (a 4) (a 5) (a 8) (a 9))) := hFl
      have hea' : Hid (∀ i, i < n → OwnProto wr (rng (2 * i)) (rng (2 * i + 1)) (a 3 i) (a 4 i) (a 5 i) (a 8 i) (a 9 i) (b 3 i) (b 4 i) (b 5 i) (b 8 i) (b 9 i) (mixP k f i' i)) := hea
      obtain ⟨kb1, kb2⟩ := hkb'.out i' (by omega)
      obtain ⟨kb3, kb4⟩ := hkb'.out (i' + 1) (by omega)
      have hkn : kAt k f (i' + 1) = kNext (kAt k f i') (f i') := rfl
      obtain ⟨s3, s4, s5, s8, s9⟩ := hs'.out i' hi'
      have hrl : Hid (rng 0 ≤ rng (2 * i')) := rng_le hmono'.out 0 (2 * i') (by omega)
      have hB0i : Hid (B0 < rng (2 * i') ∨ rng (2 * i' + 1) ≤ B0) := hB0h.out.2 i' hi'
      have hrh : Hid (rng (2 * i' + 1) ≤ hi) := Nat.le_trans (rng_le hmono'.out (2 * i' + 1) (2 * n) (by omega)) hhi.out
      obtain ⟨o3, o4, o5, o8, o9, r3, r4, r5, r8, r9, n34, n35, n38, n39, n45, n48, n49, n58, n59, n89⟩ := hO
      generalize hK : kAt k f i' = kk at kb1 kb2 hkn ⊢
      generalize hP : f i' = p at s3 s4 s5 s8 s9 o3 o4 o5 o8 o9 r3 r4 r5 r8 r9 n34 n35 n38 n39 n45 n48 n49 n58 n59 n89 hkn ⊢
      generalize ha3 : a 3 i' = v3 at o3 ⊢
      generalize ha4 : a 4 i' = v4 at o4 ⊢
      generalize ha5 : a 5 i' = v5 at o5 ⊢
      generalize ha8 : a 8 i' = v8 at o8 ⊢
      generalize ha9 : a 9 i' = v9 at o9 ⊢
      generalize hb3 : b 3 i' = B3 at o3 r3 n34 n35 n38 n39 ⊢
      generalize hb4 : b 4 i' = B4 at o4 r4 n34 n45 n48 n49 ⊢
      generalize hb5 : b 5 i' = B5 at o5 r5 n35 n45 n58 n59 ⊢
      generalize hb8 : b 8 i' = B8 at o8 r8 n38 n48 n58 n89 ⊢
      generalize hb9 : b 9 i' = B9 at o9 r9 n39 n49 n59 n89 ⊢
      have gv : ∀ j, j < 10 → g (i' * 10 + j) = pC (mixP k f i') (a 3) (a 4) (a 5) (a 8) (a 9) i' j := fun j hj => hFl'.out i' hi' j hj
      have gv3 : g (i' * 10 + 3) = v3 := by rw [gv 3 (by omega)]; simp [pC, ha3]
      have gv4 : g (i' * 10 + 4) = v4 := by rw [gv 4 (by omega)]; simp [pC, ha4]
      have gv5 : g (i' * 10 + 5) = v5 := by rw [gv 5 (by omega)]; simp [pC, ha5]
      have gv8 : g (i' * 10 + 8) = v8 := by rw [gv 8 (by omega)]; simp [pC, ha8]
      have gv9 : g (i' * 10 + 9) = v9 := by rw [gv 9 (by omega)]; simp [pC, ha9]
      have hG : Hid (g (i' * 10 + 3) = v3 ∧ g (i' * 10 + 4) = v4 ∧ g (i' * 10 + 5) = v5 ∧ g (i' * 10 + 8) = v8 ∧ g (i' * 10 + 9) = v9) := ⟨gv3, gv4, gv5, gv8, gv9⟩
      clear gv gv3 gv4 gv5 gv8 gv9 hFl hea hR
      have hbnd : i' * 10 + 10 ≤ m := by omega
      have z3 : k3 kk p ≤ kNext kk p := by unfold kNext k8 k5 k4; omega
      have z4 : k4 kk p ≤ kNext kk p := by unfold kNext k8 k5; omega
      have z5 : k5 kk p + 1 + 1 ≤ kNext kk p := by unfold kNext k8; omega
      have z8 : k8 kk p ≤ kNext kk p := by unfold kNext; omega
      have y3 : 1 ≤ k3 kk p := by unfold k3; omega
      have y4 : 1 ≤ k4 kk p := by unfold k4 k3; omega
      have y5 : 1 ≤ k5 kk p := by unfold k5 k4 k3; omega
      have y8 : 1 ≤ k8 kk p := by unfold k8 k5 k4 k3; omega
      rw [hkn] at kb3 kb4
      have x3 : 0 < p.code.n → B0 ≠ B3 := fun h => by exact apartR hB0i.out (r3 h)
      have x4 : 0 < p.consts.n → B0 ≠ B4 := fun h => by exact apartR hB0i.out (r4 h)
      have x5 : 0 < p.ups.n → B0 ≠ B5 := fun h => by exact apartR hB0i.out (r5 h)
      have x8 : 0 < p.lines.n → B0 ≠ B8 := fun h => by exact apartR hB0i.out (r8 h)
      have x9 : 0 < p.upNames.n → B0 ≠ B9 := fun h => by exact apartR hB0i.out (r9 h)
      have rules : Hid (((0 < p.code.n → rng (2 * i') ≤ B3 ∧ B3 < rng (2 * i' + 1)) ∧ (0 < p.consts.n → rng (2 * i') ≤ B4 ∧ B4 < rng (2 * i' + 1)) ∧ (0 < p.ups.n → rng (2 * i') ≤ B5 ∧ B5 < rng (2 * i' + 1)) ∧ (0 < p.lines.n → rng (2 * i') ≤ B8 ∧ B8 < rng (2 * i' + 1)) ∧ (0 < p.upNames.n → rng (2 * i') ≤ B9 ∧ B9 < rng (2 * i' + 1)))) := ⟨r3, r4, r5, r8, r9⟩
      have diffs : Hid ((0 < p.code.n → 0 < p.consts.n → B3 ≠ B4) ∧ (0 < p.code.n → 0 < p.ups.n → B3 ≠ B5) ∧ (0 < p.code.n → 0 < p.lines.n → B3 ≠ B8) ∧ (0 < p.code.n → 0 < p.upNames.n → B3 ≠ B9) ∧ (0 < p.consts.n → 0 < p.ups.n → B4 ≠ B5) ∧ (0 < p.consts.n → 0 < p.lines.n → B4 ≠ B8) ∧ (0 < p.consts.n → 0 < p.upNames.n → B4 ≠ B9) ∧ (0 < p.ups.n → 0 < p.lines.n → B5 ≠ B8) ∧ (0 < p.ups.n → 0 < p.upNames.n → B5 ≠ B9) ∧ (0 < p.lines.n → 0 < p.upNames.n → B8 ≠ B9)) := ⟨n34, n35, n38, n39, n45, n48, n49, n58, n59, n89⟩
      have apart0 : Hid ((0 < p.code.n → B0 ≠ B3) ∧ (0 < p.consts.n → B0 ≠ B4) ∧ (0 < p.ups.n → B0 ≠ B5) ∧ (0 < p.lines.n → B0 ≠ B8) ∧ (0 < p.upNames.n → B0 ≠ B9)) := ⟨x3, x4, x5, x8, x9⟩
      have O3 : Hid _ := o3
      have O4 : Hid _ := o4
      have O5 : Hid _ := o5
      have O8 : Hid _ := o8
      have O9 : Hid _ := o9
      clear r3 r4 r5 r8 r9 n34 n35 n38 n39 n45 n48 n49 n58 n59 n89 x3 x4 x5 x8 x9 o3 o4 o5 o8 o9
      have FR : Hid (Fr B0 (rng (2 * i')) (rng (2 * i' + 1)) wr wr) := Fr.refl _ _ _ _
      have R : Hid (wr.rowIs B0 t m g) := hR'.out
      have d0 := World.rowIs.cell R.out (show i' * 10 + 0 < m by omega)
      have e0 := World.rowIs.frozen R.out (i' * 10 + 0)
      simp only [Nat.add_zero] at d0 e0
      have d1 := World.rowIs.cell R.out (show i' * 10 + 1 < m by omega)
      have e1 := World.rowIs.frozen R.out (i' * 10 + 1)
      have d2 := World.rowIs.cell R.out (show i' * 10 + 2 < m by omega)
      have e2 := World.rowIs.frozen R.out (i' * 10 + 2)
      have c3 := World.rowIs.cell R.out (show i' * 10 + 3 < m by omega)
      rw [hG.out.1] at c3
      clear hR'
      go_wp2_with fail
      clear d0 e0 d1 e1 d2 e2 c3
      replace R : Hid _ := World.rowIs.set R.out (i' * 10) (.int .i64 kk)
      replace FR : Hid _ := Fr.trans FR.out (Fr.set wr (i' * 10) (.int .i64 kk))
      replace O3 : Hid _ := OwnArr.keep O3.out (fun hp => Below.heap_setCell wr ⟨B0, i' * 10, none⟩ (.int .i64 kk) _ (fun e => apart0.out.1 hp e.symm))
      replace O4 : Hid _ := OwnArr.keep O4.out (fun hp => Below.heap_setCell wr ⟨B0, i' * 10, none⟩ (.int .i64 kk) _ (fun e => apart0.out.2.1 hp e.symm))
      replace O5 : Hid _ := OwnArr.keep O5.out (fun hp => Below.heap_setCell wr ⟨B0, i' * 10, none⟩ (.int .i64 kk) _ (fun e => apart0.out.2.2.1 hp e.symm))
      replace O8 : Hid _ := OwnArr.keep O8.out (fun hp => Below.heap_setCell wr ⟨B0, i' * 10, none⟩ (.int .i64 kk) _ (fun e => apart0.out.2.2.2.1 hp e.symm))
      replace O9 : Hid _ := OwnArr.keep O9.out (fun hp => Below.heap_setCell wr ⟨B0, i' * 10, none⟩ (.int .i64 kk) _ (fun e => apart0.out.2.2.2.2 hp e.symm))
      replace R : Hid _ := World.rowIs.set R.out (i' * 10 + 1) (.bool ((kk + 1) % 3 == 0))
      replace FR : Hid _ := Fr.trans FR.out (Fr.set (wr.setCell ⟨B0, i' * 10, none⟩ (.int .i64 kk)) (i' * 10 + 1) (.bool ((kk + 1) % 3 == 0)))
      replace O3 : Hid _ := OwnArr.keep O3.out (fun hp => Below.heap_setCell (wr.setCell ⟨B0, i' * 10, none⟩ (.int .i64 kk)) ⟨B0, i' * 10 + 1, none⟩ (.bool ((kk + 1) % 3 == 0)) _ (fun e => apart0.out.1 hp e.symm))
      replace O4 : Hid _ := OwnArr.keep O4.out (fun hp => Below.heap_setCell (wr.setCell ⟨B0, i' * 10, none⟩ (.int .i64 kk)) ⟨B0, i' * 10 + 1, none⟩ (.bool ((kk + 1) % 3 == 0)) _ (fun e => apart0.out.2.1 hp e.symm))
      replace O5 : Hid _ := OwnArr.keep O5.out (fun hp => Below.heap_setCell (wr.setCell ⟨B0, i' * 10, none⟩ (.int .i64 kk)) ⟨B0, i' * 10 + 1, none⟩ (.bool ((kk + 1) % 3 == 0)) _ (fun e => apart0.out.2.2.1 hp e.symm))
      replace O8 : Hid _ := OwnArr.keep O8.out (fun hp => Below.heap_setCell (wr.setCell ⟨B0, i' * 10, none⟩ (.int .i64 kk)) ⟨B0, i' * 10 + 1, none⟩ (.bool ((kk + 1) % 3 == 0)) _ (fun e => apart0.out.2.2.2.1 hp e.symm))
      replace O9 : Hid _ := OwnArr.keep O9.out (fun hp => Below.heap_setCell (wr.setCell ⟨B0, i' * 10, none⟩ (.int .i64 kk)) ⟨B0, i' * 10 + 1, none⟩ (.bool ((kk + 1) % 3 == 0)) _ (fun e => apart0.out.2.2.2.2 hp e.symm))
      replace R : Hid _ := World.rowIs.set R.out (i' * 10 + 2) (.int .i64 (kk + 1 + 1))
      replace FR : Hid _ := Fr.trans FR.out (Fr.set ((wr.setCell ⟨B0, i' * 10, none⟩ (.int .i64 kk)).setCell ⟨B0, i' * 10 + 1, none⟩ (.bool ((kk + 1) % 3 == 0))) (i' * 10 + 2) (.int .i64 (kk + 1 + 1)))
      replace O3 : Hid _ := OwnArr.keep O3.out (fun hp => Below.heap_setCell ((wr.setCell ⟨B0, i' * 10, none⟩ (.int .i64 kk)).setCell ⟨B0, i' * 10 + 1, none⟩ (.bool ((kk + 1) % 3 == 0))) ⟨B0, i' * 10 + 2, none⟩ (.int .i64 (kk + 1 + 1)) _ (fun e => apart0.out.1 hp e.symm))
      replace O4 : Hid _ := OwnArr.keep O4.out (fun hp => Below.heap_setCell ((wr.setCell ⟨B0, i' * 10, none⟩ (.int .i64 kk)).setCell ⟨B0, i' * 10 + 1, none⟩ (.bool ((kk + 1) % 3 == 0))) ⟨B0, i' * 10 + 2, none⟩ (.int .i64 (kk + 1 + 1)) _ (fun e => apart0.out.2.1 hp e.symm))
      replace O5 : Hid _ := OwnArr.keep O5.out (fun hp => Below.heap_setCell ((wr.setCell ⟨B0, i' * 10, none⟩ (.int .i64 kk)).setCell ⟨B0, i' * 10 + 1, none⟩ (.bool ((kk + 1) % 3 == 0))) ⟨B0, i' * 10 + 2, none⟩ (.int .i64 (kk + 1 + 1)) _ (fun e => apart0.out.2.2.1 hp e.symm))
      replace O8 : Hid _ := OwnArr.keep O8.out (fun hp => Below.heap_setCell ((wr.setCell ⟨B0, i' * 10, none⟩ (.int .i64 kk)).setCell ⟨B0, i' * 10 + 1, none⟩ (.bool ((kk + 1) % 3 == 0))) ⟨B0, i' * 10 + 2, none⟩ (.int .i64 (kk + 1 + 1)) _ (fun e => apart0.out.2.2.2.1 hp e.symm))
      replace O9 : Hid _ := OwnArr.keep O9.out (fun hp => Below.heap_setCell ((wr.setCell ⟨B0, i' * 10, none⟩ (.int .i64 kk)).setCell ⟨B0, i' * 10 + 1, none⟩ (.bool ((kk + 1) % 3 == 0))) ⟨B0, i' * 10 + 2, none⟩ (.int .i64 (kk + 1 + 1)) _ (fun e => apart0.out.2.2.2.2 hp e.symm))
      refine (wrapN (r := k3 kk p) (fun B C0 h => (markUint32S_in p.code.n v3 C0 B (kk + 1 + 1 + 1) _ h s3 (by omega) (by omega)).mono fun e w' ⟨he, h2⟩ => ⟨by rw [he]; simp [k3], h2⟩) O3.out).mono ?_
      rintro e w1 ⟨rfl, on3, on⟩
      replace R : Hid _ := World.rowIs.of_block (w' := w1) R.out (on.block _ (World.rowIs.lt R.out) apart0.out.1)
      replace FR : Hid _ := Fr.trans FR.out (Fr.of_only on rules.out.1)
      replace O4 : Hid _ := OwnArr.keep O4.out (fun hp => on.block _ (OwnArr.lt O4.out hp) (fun hn e => diffs.out.1 hn hp e.symm))
      replace O5 : Hid _ := OwnArr.keep O5.out (fun hp => on.block _ (OwnArr.lt O5.out hp) (fun hn e => diffs.out.2.1 hn hp e.symm))
      replace O8 : Hid _ := OwnArr.keep O8.out (fun hp => on.block _ (OwnArr.lt O8.out hp) (fun hn e => diffs.out.2.2.1 hn hp e.symm))
      replace O9 : Hid _ := OwnArr.keep O9.out (fun hp => on.block _ (OwnArr.lt O9.out hp) (fun hn e => diffs.out.2.2.2.1 hn hp e.symm))
      replace O3 : Hid _ := on3
      clear on on3
      have c4 := World.rowIs.cell R.out (show i' * 10 + 4 < m by omega)
      try dsimp only at c4
      rw [if_neg (show i' * 10 + 4 ≠ i' * 10 + 2 by omega)] at c4
      rw [if_neg (show i' * 10 + 4 ≠ i' * 10 + 1 by omega)] at c4
      rw [if_neg (show i' * 10 + 4 ≠ i' * 10 by omega)] at c4
      rw [hG.out.2.1] at c4
      go_wp2_with fail
      clear c4
      refine (wrapN (r := k4 kk p) (fun B C0 h => (markValueS_in p.consts.n v4 C0 B (k3 kk p) _ h s4 (by omega) (by omega)).mono fun e w' ⟨he, h2⟩ => ⟨by rw [he]; simp [k4], h2⟩) O4.out).mono ?_
      rintro e w2 ⟨rfl, on4, on⟩
      replace R : Hid _ := World.rowIs.of_block (w' := w2) R.out (on.block _ (World.rowIs.lt R.out) apart0.out.2.1)
      replace FR : Hid _ := Fr.trans FR.out (Fr.of_only on rules.out.2.1)
      replace O3 : Hid _ := OwnArr.keep O3.out (fun hp => on.block _ (OwnArr.lt O3.out hp) (fun hn e => diffs.out.1 hp hn e))
      replace O5 : Hid _ := OwnArr.keep O5.out (fun hp => on.block _ (OwnArr.lt O5.out hp) (fun hn e => diffs.out.2.2.2.2.1 hn hp e.symm))
      replace O8 : Hid _ := OwnArr.keep O8.out (fun hp => on.block _ (OwnArr.lt O8.out hp) (fun hn e => diffs.out.2.2.2.2.2.1 hn hp e.symm))
      replace O9 : Hid _ := OwnArr.keep O9.out (fun hp => on.block _ (OwnArr.lt O9.out hp) (fun hn e => diffs.out.2.2.2.2.2.2.1 hn hp e.symm))
      replace O4 : Hid _ := on4
      clear on on4
      have c5 := World.rowIs.cell R.out (show i' * 10 + 5 < m by omega)
      try dsimp only at c5
      rw [if_neg (show i' * 10 + 5 ≠ i' * 10 + 2 by omega)] at c5
      rw [if_neg (show i' * 10 + 5 ≠ i' * 10 + 1 by omega)] at c5
      rw [if_neg (show i' * 10 + 5 ≠ i' * 10 by omega)] at c5
      rw [hG.out.2.2.1] at c5
      go_wp2_with fail
      clear c5
      refine (wrapN (r := k5 kk p) (fun B C0 h => (markUpS_in p.ups.n v5 C0 B (k4 kk p) _ h s5 (by omega) (by omega)).mono fun e w' ⟨he, h2⟩ => ⟨by rw [he]; simp [k5], h2⟩) O5.out).mono ?_
      rintro e w3 ⟨rfl, on5, on⟩
      replace R : Hid _ := World.rowIs.of_block (w' := w3) R.out (on.block _ (World.rowIs.lt R.out) apart0.out.2.2.1)
      replace FR : Hid _ := Fr.trans FR.out (Fr.of_only on rules.out.2.2.1)
      replace O3 : Hid _ := OwnArr.keep O3.out (fun hp => on.block _ (OwnArr.lt O3.out hp) (fun hn e => diffs.out.2.1 hp hn e))
      replace O4 : Hid _ := OwnArr.keep O4.out (fun hp => on.block _ (OwnArr.lt O4.out hp) (fun hn e => diffs.out.2.2.2.2.1 hp hn e))
      replace O8 : Hid _ := OwnArr.keep O8.out (fun hp => on.block _ (OwnArr.lt O8.out hp) (fun hn e => diffs.out.2.2.2.2.2.2.2.1 hn hp e.symm))
      replace O9 : Hid _ := OwnArr.keep O9.out (fun hp => on.block _ (OwnArr.lt O9.out hp) (fun hn e => diffs.out.2.2.2.2.2.2.2.2.1 hn hp e.symm))
      replace O5 : Hid _ := on5
      clear on on5
      have d6 := World.rowIs.cell R.out (show i' * 10 + 6 < m by omega)
      have e6 := World.rowIs.frozen R.out (i' * 10 + 6)
      have d7 := World.rowIs.cell R.out (show i' * 10 + 7 < m by omega)
      have e7 := World.rowIs.frozen R.out (i' * 10 + 7)
      go_wp2_with fail
      clear d6 e6 d7 e7
      replace R : Hid _ := World.rowIs.set R.out (i' * 10 + 6) (.int .i64 (k5 kk p))
      replace FR : Hid _ := Fr.trans FR.out (Fr.set w3 (i' * 10 + 6) (.int .i64 (k5 kk p)))
      replace O3 : Hid _ := OwnArr.keep O3.out (fun hp => Below.heap_setCell w3 ⟨B0, i' * 10 + 6, none⟩ (.int .i64 (k5 kk p)) _ (fun e => apart0.out.1 hp e.symm))
      replace O4 : Hid _ := OwnArr.keep O4.out (fun hp => Below.heap_setCell w3 ⟨B0, i' * 10 + 6, none⟩ (.int .i64 (k5 kk p)) _ (fun e => apart0.out.2.1 hp e.symm))
      replace O5 : Hid _ := OwnArr.keep O5.out (fun hp => Below.heap_setCell w3 ⟨B0, i' * 10 + 6, none⟩ (.int .i64 (k5 kk p)) _ (fun e => apart0.out.2.2.1 hp e.symm))
      replace O8 : Hid _ := OwnArr.keep O8.out (fun hp => Below.heap_setCell w3 ⟨B0, i' * 10 + 6, none⟩ (.int .i64 (k5 kk p)) _ (fun e => apart0.out.2.2.2.1 hp e.symm))
      replace O9 : Hid _ := OwnArr.keep O9.out (fun hp => Below.heap_setCell w3 ⟨B0, i' * 10 + 6, none⟩ (.int .i64 (k5 kk p)) _ (fun e => apart0.out.2.2.2.2 hp e.symm))
      refine (markText_in (k5 kk p + 1) _ (by omega) (by omega)).mono ?_
      rintro e w4 ⟨rfl, bt⟩
      replace R : Hid _ := World.rowIs.of_block (w' := w4) R.out (bt.block _ (World.rowIs.lt R.out))
      replace FR : Hid _ := Fr.trans FR.out (Fr.of_below bt)
      replace O3 : Hid _ := OwnArr.keep O3.out (fun hp => bt.block _ (OwnArr.lt O3.out hp))
      replace O4 : Hid _ := OwnArr.keep O4.out (fun hp => bt.block _ (OwnArr.lt O4.out hp))
      replace O5 : Hid _ := OwnArr.keep O5.out (fun hp => bt.block _ (OwnArr.lt O5.out hp))
      replace O8 : Hid _ := OwnArr.keep O8.out (fun hp => bt.block _ (OwnArr.lt O8.out hp))
      replace O9 : Hid _ := OwnArr.keep O9.out (fun hp => bt.block _ (OwnArr.lt O9.out hp))
      clear bt
      have d7 := World.rowIs.cell R.out (show i' * 10 + 7 < m by omega)
      have e7 := World.rowIs.frozen R.out (i' * 10 + 7)
      have c8 := World.rowIs.cell R.out (show i' * 10 + 8 < m by omega)
      try dsimp only at c8
      rw [if_neg (show i' * 10 + 8 ≠ i' * 10 + 6 by omega)] at c8
      rw [if_neg (show i' * 10 + 8 ≠ i' * 10 + 2 by omega)] at c8
      rw [if_neg (show i' * 10 + 8 ≠ i' * 10 + 1 by omega)] at c8
      rw [if_neg (show i' * 10 + 8 ≠ i' * 10 by omega)] at c8
      rw [hG.out.2.2.2.1] at c8
      go_wp2_with fail
      clear d7 e7 c8
      replace R : Hid _ := World.rowIs.set R.out (i' * 10 + 7) (.string (mt (k5 kk p + 1)))
      replace FR : Hid _ := Fr.trans FR.out (Fr.set w4 (i' * 10 + 7) (.string (mt (k5 kk p + 1))))
      replace O3 : Hid _ := OwnArr.keep O3.out (fun hp => Below.heap_setCell w4 ⟨B0, i' * 10 + 7, none⟩ (.string (mt (k5 kk p + 1))) _ (fun e => apart0.out.1 hp e.symm))
      replace O4 : Hid _ := OwnArr.keep O4.out (fun hp => Below.heap_setCell w4 ⟨B0, i' * 10 + 7, none⟩ (.string (mt (k5 kk p + 1))) _ (fun e => apart0.out.2.1 hp e.symm))
      replace O5 : Hid _ := OwnArr.keep O5.out (fun hp => Below.heap_setCell w4 ⟨B0, i' * 10 + 7, none⟩ (.string (mt (k5 kk p + 1))) _ (fun e => apart0.out.2.2.1 hp e.symm))
      replace O8 : Hid _ := OwnArr.keep O8.out (fun hp => Below.heap_setCell w4 ⟨B0, i' * 10 + 7, none⟩ (.string (mt (k5 kk p + 1))) _ (fun e => apart0.out.2.2.2.1 hp e.symm))
      replace O9 : Hid _ := OwnArr.keep O9.out (fun hp => Below.heap_setCell w4 ⟨B0, i' * 10 + 7, none⟩ (.string (mt (k5 kk p + 1))) _ (fun e => apart0.out.2.2.2.2 hp e.symm))
      refine (wrapN (r := k8 kk p) (fun B C0 h => (markIntS_in p.lines.n v8 C0 B (k5 kk p + 1 + 1) _ h s8 (by omega) (by omega)).mono fun e w' ⟨he, h2⟩ => ⟨by rw [he]; simp [k8], h2⟩) O8.out).mono ?_
      rintro e w5 ⟨rfl, on8, on⟩
      replace R : Hid _ := World.rowIs.of_block (w' := w5) R.out (on.block _ (World.rowIs.lt R.out) apart0.out.2.2.2.1)
      replace FR : Hid _ := Fr.trans FR.out (Fr.of_only on rules.out.2.2.2.1)
      replace O3 : Hid _ := OwnArr.keep O3.out (fun hp => on.block _ (OwnArr.lt O3.out hp) (fun hn e => diffs.out.2.2.1 hp hn e))
      replace O4 : Hid _ := OwnArr.keep O4.out (fun hp => on.block _ (OwnArr.lt O4.out hp) (fun hn e => diffs.out.2.2.2.2.2.1 hp hn e))
      replace O5 : Hid _ := OwnArr.keep O5.out (fun hp => on.block _ (OwnArr.lt O5.out hp) (fun hn e => diffs.out.2.2.2.2.2.2.2.1 hp hn e))
      replace O9 : Hid _ := OwnArr.keep O9.out (fun hp => on.block _ (OwnArr.lt O9.out hp) (fun hn e => diffs.out.2.2.2.2.2.2.2.2.2 hn hp e.symm))
      replace O8 : Hid _ := on8
      clear on on8
      have c9 := World.rowIs.cell R.out (show i' * 10 + 9 < m by omega)
      try dsimp only at c9
      rw [if_neg (show i' * 10 + 9 ≠ i' * 10 + 7 by omega)] at c9
      rw [if_neg (show i' * 10 + 9 ≠ i' * 10 + 6 by omega)] at c9
      rw [if_neg (show i' * 10 + 9 ≠ i' * 10 + 2 by omega)] at c9
      rw [if_neg (show i' * 10 + 9 ≠ i' * 10 + 1 by omega)] at c9
      rw [if_neg (show i' * 10 + 9 ≠ i' * 10 by omega)] at c9
      rw [hG.out.2.2.2.2] at c9
      go_wp2_with fail
      clear c9
      refine (wrapN (r := kNext kk p) (fun B C0 h => (markStringS_in p.upNames.n v9 C0 B (k8 kk p) _ h s9 (by omega) (by omega)).mono fun e w' ⟨he, h2⟩ => ⟨by rw [he]; simp [kNext], h2⟩) O9.out).mono ?_
      rintro e w6 ⟨rfl, on9, on⟩
      replace R : Hid _ := World.rowIs.of_block (w' := w6) R.out (on.block _ (World.rowIs.lt R.out) apart0.out.2.2.2.2)
      replace FR : Hid _ := Fr.trans FR.out (Fr.of_only on rules.out.2.2.2.2)
      replace O3 : Hid _ := OwnArr.keep O3.out (fun hp => on.block _ (OwnArr.lt O3.out hp) (fun hn e => diffs.out.2.2.2.1 hp hn e))
      replace O4 : Hid _ := OwnArr.keep O4.out (fun hp => on.block _ (OwnArr.lt O4.out hp) (fun hn e => diffs.out.2.2.2.2.2.2.1 hp hn e))
      replace O5 : Hid _ := OwnArr.keep O5.out (fun hp => on.block _ (OwnArr.lt O5.out hp) (fun hn e => diffs.out.2.2.2.2.2.2.2.2.1 hp hn e))
      replace O8 : Hid _ := OwnArr.keep O8.out (fun hp => on.block _ (OwnArr.lt O8.out hp) (fun hn e => diffs.out.2.2.2.2.2.2.2.2.2 hp hn e))
      replace O9 : Hid _ := on9
      clear on on9
      have hnew : Hid (COwn w6 (.slice (some ⟨B0, 0, none⟩) n cap) n (mixP k f (i' + 1)) lo hi B0 rng a b) := by
        have hm1 : mixP k f (i' + 1) i' = mkP kk p := by simp [mixP, hK, hP]
        have hm2 : ∀ j, j ≠ i' → mixP k f (i' + 1) j = mixP k f i' j := fun j hj => by
          unfold mixP
          by_cases h : j < i'
          · rw [if_pos (by omega), if_pos h]
          · rw [if_neg (by omega), if_neg h]
        refine ⟨⟨_, cap, rfl, hm, fun _ => ⟨rfl, t, m, _, R.out, hmm, fun c hc j hj => ?_⟩⟩, hB0l, hB0h.out, hmono'.out, hhi.out, fun j hj => ?_⟩
        · dsimp only
          by_cases hci : c = i'
          · subst hci
            have hgo := hG.out
            rcases (show j = 0 ∨ j = 1 ∨ j = 2 ∨ j = 3 ∨ j = 4 ∨ j = 5 ∨ j = 6 ∨ j = 7 ∨ j = 8 ∨ j = 9 by omega) with rfl | rfl | rfl | rfl | rfl | rfl | rfl | rfl | rfl | rfl <;> simp [pC, hm1, mkP, ha3, ha4, ha5, ha8, ha9, hgo.1, hgo.2.1, hgo.2.2.1, hgo.2.2.2.1, hgo.2.2.2.2]
          · have := hFl'.out c hc j hj
            rw [if_neg (show c * 10 + j ≠ i' * 10 + 7 by omega)]
            rw [if_neg (show c * 10 + j ≠ i' * 10 + 6 by omega)]
            rw [if_neg (show c * 10 + j ≠ i' * 10 + 2 by omega)]
            rw [if_neg (show c * 10 + j ≠ i' * 10 + 1 by omega)]
            rw [if_neg (show c * 10 + j ≠ i' * 10 by omega)]
            rw [this]
            simp only [pC, hm2 c hci]
        · by_cases hji : j = i'
          · subst hji
            rw [hm1, ha3, ha4, ha5, ha8, ha9, hb3, hb4, hb5, hb8, hb9]
            obtain ⟨r3, r4, r5, r8, r9⟩ := rules.out
            obtain ⟨n34, n35, n38, n39, n45, n48, n49, n58, n59, n89⟩ := diffs.out
            exact ⟨O3.out, O4.out, O5.out, O8.out, O9.out, r3, r4, r5, r8, r9, n34, n35, n38, n39, n45, n48, n49, n58, n59, n89⟩
          · rw [hm2 j hji]
            refine (hea'.out j hj).keep fun c h1 h2 hlt => ?_
            refine FR.out.block c hlt ?_ ?_
            · exact fun e => apartR (hB0h.out.2 j hj) ⟨h1, h2⟩ e.symm
            · by_cases hlt2 : j < i'
              · have := rng_le hmono'.out (2 * j + 1) (2 * i') (by omega)
                omega
              · have := rng_le hmono'.out (2 * i' + 1) (2 * j) (by omega)
                omega
      have hF2 : Hid (Fr B0 (rng 0) hi w w6) := qF.out.trans (FR.out.wider hrl.out hrh.out)
      clear O3 O4 O5 O8 O9 R FR hG rules diffs apart0 hFl' hea' qF qC
      go_wp2_with fail
      go_roundw
      case rel => exact ⟨i' + 1, by rw [hkn], rfl, by omega, hF2, hnew⟩
      case measure => simp [intOf]; omega
    · obtain rfl : i' = n := by omega
      have hfin : Hid (COwn wr (.slice ao i' cap) i' (fun i => mkP (kAt k f i) (f i)) lo hi B0 rng a b) := by
        obtain ⟨c1, c2, c3, c4, c5, c6⟩ := qC.out
        refine ⟨?_, c2, c3, c4, c5, fun i hi2 => ?_⟩
        · obtain ⟨ao2, cap2, he, h1, h2⟩ := c1
          refine ⟨ao2, cap2, he, h1, fun hp => ?_⟩
          obtain ⟨rfl, t, m, g, hR, hmm, hFl⟩ := h2 hp
          refine ⟨rfl, t, m, g, hR, hmm, fun c hc j hj => ?_⟩
          rw [hFl c hc j hj]
          simp [pC, mixP, hc]
        · have := c6 i hi2
          rwa [show mixP k f i' i = mkP (kAt k f i) (f i) by simp [mixP, hi2]] at this
      go_wp2_with fail
      go_ret
      exact ⟨rfl, hfin.out, qF.out⟩
end Go.Proofs.YtckapapejfnojaaGreatDoor

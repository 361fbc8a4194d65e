import Derived.Test.YtckapapejfnojaaGreatDoorGBV
import Derived.Test.YtckapapejfnojaaGreatDoorChQV
import Derived.Test.YtckapapejfnojaaGreatDoorGAV
import Derived.Deep.QuietTactic
import Derived.BigQuiet
import Derived.Deep.Cut
import Derived.Deep.RegionHeld3
import Derived.Test.YtckapapejfnojaaGreatDoorTpAV
import Derived.Test.YtckapapejfnojaaGreatDoorVfFV
namespace Go.Proofs.YtckapapejfnojaaGreatDoor
section
open Go.RowKit
set_option linter.unusedVariables false
set_option linter.unusedSimpArgs false
/-- prototype k of a list, cell by cell. -/
structure PrAt (w : World) (b o : Nat) (p : PD) (ac : Option Addr) (cc : Nat) (o4 : Option Addr) (c4 : Nat) (o5 : Option Addr) (c5 : Nat) (o8 : Option Addr) (c8 : Nat) (o9 : Option Addr) (c9 : Nat) : Prop where
  lt : b < w.heap.size
  f0 : w.cell? ⟨b, o, none⟩ = some (.int .i64 p.params)
  f1 : w.cell? ⟨b, o + 1, none⟩ = some (.bool p.vararg)
  f2 : w.cell? ⟨b, o + 2, none⟩ = some (.int .i64 p.regs)
  f3 : w.cell? ⟨b, o + 3, none⟩ = some (.slice ac p.code.n cc)
  f4 : w.cell? ⟨b, o + 4, none⟩ = some (.slice o4 p.consts.n c4)
  f5 : w.cell? ⟨b, o + 5, none⟩ = some (.slice o5 p.ups.n c5)
  f6 : w.cell? ⟨b, o + 6, none⟩ = some (.int .i64 p.kids)
  f7 : w.cell? ⟨b, o + 7, none⟩ = some (.string p.name)
  f8 : w.cell? ⟨b, o + 8, none⟩ = some (.slice o8 p.lines.n c8)
  f9 : w.cell? ⟨b, o + 9, none⟩ = some (.slice o9 p.upNames.n c9)
  code : IsInts .u32 (· < w.heap.size) w (.slice ac p.code.n cc) p.code
  ups : IsUps (· < w.heap.size) w (.slice o5 p.ups.n c5) p.ups
theorem PrAt.ptr {w : World} {b o : Nat} {p : PD} {ac o4 o5 o8 o9 : Option Addr} {cc c4 c5 c8 c9 : Nat} (h : PrAt w b o p ac cc o4 c4 o5 c5 o8 c8 o9 c9) : PtrP w b o p (.slice ac p.code.n cc) (.slice o4 p.consts.n c4) (.slice o5 p.ups.n c5) :=
  ⟨h.lt, h.f1, h.f2, h.f3, h.f4, h.f5, h.f6, h.code, ⟨_, _, rfl⟩, h.ups⟩
theorem IsArr.sl {av : Nat → Prop} {w : World} {v : Value} {z n : Nat} {C : Nat → Nat → Value} (h : IsArr av w v z n C) : ∃ ao cap, v = .slice ao n cap := by
  obtain ⟨ao, cap, rfl, _⟩ := h
  exact ⟨ao, cap, rfl⟩
theorem IsProtos.proto {w : World} {ao : Option Addr} {cap : Nat} {s : Sl PD} (h : IsProtos (· < w.heap.size) w (.slice ao s.n cap) s) (hp : 0 < s.n) : ∃ b o, ao = some ⟨b, o, none⟩ ∧ b < w.heap.size ∧ ∀ k, k < s.n → ∃ ac cc o4 c4 o5 c5 o8 c8 o9 c9, PrAt w b (o + k * 10) (s.f k) ac cc o4 c4 o5 c5 o8 c8 o9 c9 := by
  obtain ⟨a3, a4, a5, a8, a9, ⟨ao', cap', he, hn, hc⟩, ht⟩ := h
  simp only [Value.slice.injEq] at he
  obtain ⟨rfl, -, rfl⟩ := he
  obtain ⟨b, o, rfl, hb, hcc⟩ := hc hp
  refine ⟨b, o, rfl, hb, fun k hk => ?_⟩
  have hk' := ht k hk
  obtain ⟨ac, cc, e3⟩ := IsArr.sl hk'.code
  obtain ⟨o4, c4, e4⟩ := IsArr.sl hk'.consts.1
  obtain ⟨o5, c5, e5⟩ := IsArr.sl hk'.ups
  obtain ⟨o8, c8, e8⟩ := IsArr.sl hk'.lines
  obtain ⟨o9, c9, e9⟩ := IsArr.sl hk'.upNames.1
  have q3 := hcc k hk 3 (by omega)
  have q4 := hcc k hk 4 (by omega)
  have q5 := hcc k hk 5 (by omega)
  have q8 := hcc k hk 8 (by omega)
  have q9 := hcc k hk 9 (by omega)
  have i3 := hk'.code
  have i5 := hk'.ups
  simp only [pC] at q3 q4 q5 q8 q9
  rw [e3] at q3 i3
  rw [e4] at q4
  rw [e5] at q5 i5
  rw [e8] at q8
  rw [e9] at q9
  exact ⟨ac, cc, o4, c4, o5, c5, o8, c8, o9, c9, hb, hcc k hk 0 (by omega), hcc k hk 1 (by omega), hcc k hk 2 (by omega), q3, q4, q5, hcc k hk 6 (by omega), hcc k hk 7 (by omega), q8, q9, i3, i5⟩
/-- the words are words. -/
def CodeB (s : Sl PD) : Prop := ∀ i, i < s.n → ∀ j, j < (s.f i).code.n → 0 ≤ (s.f i).code.f j ∧ (s.f i).code.f j ≤ 4294967295
theorem PrAt.later {w y : World} {b o : Nat} {p : PD} {ac o4 o5 o8 o9 : Option Addr} {cc c4 c5 c8 c9 : Nat} (h : PrAt w b o p ac cc o4 c4 o5 c5 o8 c8 o9 c9) (hb : Below w.heap.size w y) : PrAt y b o p ac cc o4 c4 o5 c5 o8 c8 o9 c9 :=
  ⟨Nat.lt_of_lt_of_le h.lt hb.size, (hb.cell (p := ⟨b, o, none⟩) h.lt).trans h.f0, (hb.cell (p := ⟨b, o + 1, none⟩) h.lt).trans h.f1, (hb.cell (p := ⟨b, o + 2, none⟩) h.lt).trans h.f2, (hb.cell (p := ⟨b, o + 3, none⟩) h.lt).trans h.f3, (hb.cell (p := ⟨b, o + 4, none⟩) h.lt).trans h.f4, (hb.cell (p := ⟨b, o + 5, none⟩) h.lt).trans h.f5, (hb.cell (p := ⟨b, o + 6, none⟩) h.lt).trans h.f6, (hb.cell (p := ⟨b, o + 7, none⟩) h.lt).trans h.f7, (hb.cell (p := ⟨b, o + 8, none⟩) h.lt).trans h.f8, (hb.cell (p := ⟨b, o + 9, none⟩) h.lt).trans h.f9, IsArr.later h.code hb, IsArr.later h.ups hb⟩
theorem Fo.heights {K : Nat → Int} {n k i e h : Nat} (t : Fo K n k i e h) : ∀ j, i ≤ j → j < e → ∃ e' h', Fo K n 1 j e' h' ∧ h' ≤ h := by
  induction t with
  | nil => intro j h1 h2; omega
  | @cons k i m e h1 h2 hi hk t1 t2 ih1 ih2 =>
    intro j hj he
    by_cases hji : j = i
    · subst hji; exact ⟨m, h1 + 1, Fo.mk1 hi hk t1, by omega⟩
    · by_cases hjm : j < m
      · obtain ⟨e', h', u, hu⟩ := ih1 j (by omega) hjm
        exact ⟨e', h', u, by omega⟩
      · obtain ⟨e', h', u, hu⟩ := ih2 j (by omega) he
        exact ⟨e', h', u, by omega⟩
/-- the trees from a child on. -/
theorem kids_from {K : Nat → Int} {n k m e g : Nat} (t : Fo K n m (k + 1) e g) : ∀ j, j ≤ m → ∃ g', Fo K n (m - j) (kidAt (EE K n) k j) e g' := by
  intro j
  induction j with
  | zero => intro _; exact ⟨g, t⟩
  | succ j ih =>
    intro hj
    obtain ⟨g', t'⟩ := ih (by omega)
    have e1 : m - j = 1 + (m - (j + 1)) := by omega
    rw [e1] at t'
    obtain ⟨x, h1, h2, ta, tb, -⟩ := Fo.split 1 (m - (j + 1)) t'
    refine ⟨h2, ?_⟩
    show Fo K n (m - (j + 1)) (EE K n (kidAt (EE K n) k j)) e h2
    rw [EE_eq ta]
    exact tb
/-- a prototype of a well-formed chunk and its children. -/
theorem kids_of {s : Sl PD} (hw : Wf s) {k : Nat} (hk : k < s.n) : 0 ≤ (s.f k).kids ∧ k < EE (kidsOf s) s.n k ∧ EE (kidsOf s) s.n k ≤ s.n ∧ kidAt (EE (kidsOf s) s.n) k (s.f k).kids.toNat = EE (kidsOf s) s.n k ∧ (∃ h, Fo (kidsOf s) s.n 1 k (EE (kidsOf s) s.n k) h ∧ h ≤ 64) ∧ ∀ j : Nat, j < (s.f k).kids.toNat → kidAt (EE (kidsOf s) s.n) k j < EE (kidsOf s) s.n k ∧ k < kidAt (EE (kidsOf s) s.n) k j := by
  obtain ⟨g, t, hg⟩ := hw.tree
  obtain ⟨e, h, u, hu⟩ := t.heights k (by omega) hk
  have he := EE_eq u
  obtain ⟨g1, -, -, hK, v⟩ := u.one
  have hK' : kidsOf s k = (s.f k).kids := rfl
  rw [hK'] at hK v
  have lu := u.le
  refine ⟨hK, by omega, by have := lu.2 (by omega); omega, ?_, ⟨h, by rw [he]; exact u, by omega⟩, fun j hj => ?_⟩
  · obtain ⟨g', t'⟩ := kids_from v (s.f k).kids.toNat (Nat.le_refl _)
    rw [Nat.sub_self] at t'
    rw [he]
    cases t' with
    | nil => rfl
  · obtain ⟨g', t'⟩ := kids_from v j (by omega)
    have l1 := t'.le
    have hlow : ∀ j, j < (s.f k).kids.toNat → k < kidAt (EE (kidsOf s) s.n) k j := by
      intro j
      induction j with
      | zero => intro _; exact Nat.lt_succ_self k
      | succ j ih =>
        intro hj
        have := ih (by omega)
        obtain ⟨g2, t2⟩ := kids_from v j (by omega)
        have e1 : (s.f k).kids.toNat - j = 1 + ((s.f k).kids.toNat - (j + 1)) := by omega
        rw [e1] at t2
        obtain ⟨x, h1, h2, ta, tb, -⟩ := Fo.split 1 _ t2
        have l2 := ta.le
        show k < EE (kidsOf s) s.n (kidAt (EE (kidsOf s) s.n) k j)
        rw [EE_eq ta]
        omega
    exact ⟨by omega, hlow j hj⟩
theorem kids_le {s : Sl PD} (hw : Wf s) {k : Nat} (hk : k < s.n) : (s.f k).kids ≤ 200 := by
  obtain ⟨g, t, hg⟩ := hw.tree
  obtain ⟨e, h, u, hu⟩ := t.heights k (by omega) hk
  obtain ⟨g1, -, -, hK, v⟩ := u.one
  have hK' : kidsOf s k = (s.f k).kids := rfl
  rw [hK'] at hK v
  have l1 := v.le
  have l2 := u.le.2 (by omega)
  have := hw.high
  omega
end
section
open Go.RowKit Go.Shelf
set_option linter.unusedVariables false
set_option linter.unusedSimpArgs false
set_option maxRecDepth 100000
set_option maxHeartbeats 1000000
theorem ups_of_cells {w : World} {o5 : Option Addr} {c5 : Nat} {u : Sl UD} (h : IsUps (· < w.heap.size) w (.slice o5 u.n c5) u) (h0 : 0 < u.n) : ∃ b o, o5 = some ⟨b, o, none⟩ ∧ b < w.heap.size ∧ ∀ i, i < u.n → w.cell? ⟨b, o + i * 2, none⟩ = some (.bool (u.f i).stack) ∧ w.cell? ⟨b, o + i * 2 + 1, none⟩ = some (.int .i64 (u.f i).index) := by
  obtain ⟨_, _, e, _, h⟩ := h
  obtain ⟨b, o, e', hb, hc⟩ := h h0
  simp only [Value.slice.injEq] at e
  obtain ⟨rfl, -, -⟩ := e
  exact ⟨b, o, e', hb, fun i hi => ⟨by simpa [uC] using hc i hi 0 (by omega), by simpa [uC] using hc i hi 1 (by omega)⟩⟩
set_option maxHeartbeats 4000000 in
theorem l4UpsThere_in (p : PD) (ac : Option Addr) (cc : Nat) (o4 : Option Addr) (c4 : Nat) (o5 : Option Addr) (c5 : Nat) (o8 : Option Addr) (c8 : Nat) (o9 : Option Addr) (c9 : Nat) (q : PD) (ac' : Option Addr) (cc' : Nat) (o4' : Option Addr) (c4' : Nat) (o5' : Option Addr) (c5' : Nat) (o8' : Option Addr) (c8' : Nat) (o9' : Option Addr) (c9' : Nat) (w : World) (hu : IsUps (· < w.heap.size) w (.slice o5 p.ups.n c5) p.ups) (hun : p.ups.n ≤ 1048576) (hvn : q.ups.n ≤ 1048576) :
    Calls Tryz.prog 107 #[prV p ac cc o4 c4 o5 c5 o8 c8 o9 c9, prV q ac' cc' o4' c4' o5' c5' o8' c8' o9' c9'] w fun e w' => Says e (UpsOk p q) ∧ Below w.heap.size w w' := by
  have hcs : Hid (∀ y, Below w.heap.size w y → 0 < p.ups.n → ∃ b o, o5 = some ⟨b, o, none⟩ ∧ b < w.heap.size ∧ ∀ i, i < p.ups.n → y.cell? ⟨b, o + i * 2, none⟩ = some (.bool (p.ups.f i).stack) ∧ y.cell? ⟨b, o + i * 2 + 1, none⟩ = some (.int .i64 (p.ups.f i).index)) := fun y hy h0 => by
    obtain ⟨b, o, e, hb, hc⟩ := ups_of_cells hu h0
    exact ⟨b, o, e, hb, fun i hi => ⟨(hy.cell (p := ⟨b, o + i * 2, none⟩) hb).trans (hc i hi).1, (hy.cell (p := ⟨b, o + i * 2 + 1, none⟩) hb).trans (hc i hi).2⟩⟩
  clear hu
  go_enter Tryz.func107, Tryz.ntmps107
  go_wp2_with fail
  have P0 := (RowL.new w [.int .i64 p.params, .bool p.vararg, .int .i64 p.regs, .slice ac p.code.n cc, .slice o4 p.consts.n c4, .slice o5 p.ups.n c5, .int .i64 p.kids, .string p.name, .slice o8 p.lines.n c8, .slice o9 p.upNames.n c9] 52).alloc (.cells #[.int .i64 q.params, .bool q.vararg, .int .i64 q.regs, .slice ac' q.code.n cc', .slice o4' q.consts.n c4', .slice o5' q.ups.n c5', .int .i64 q.kids, .string q.name, .slice o8' q.lines.n c8', .slice o9' q.upNames.n c9'] 52)
  have Q0 := RowL.new (w.alloc (.cells #[.int .i64 p.params, .bool p.vararg, .int .i64 p.regs, .slice ac p.code.n cc, .slice o4 p.consts.n c4, .slice o5 p.ups.n c5, .int .i64 p.kids, .string p.name, .slice o8 p.lines.n c8, .slice o9 p.upNames.n c9] 52)) [.int .i64 q.params, .bool q.vararg, .int .i64 q.regs, .slice ac' q.code.n cc', .slice o4' q.consts.n c4', .slice o5' q.ups.n c5', .int .i64 q.kids, .string q.name, .slice o8' q.lines.n c8', .slice o9' q.upNames.n c9'] 52
  rw [World.size_alloc] at Q0
  have bw : Below w.heap.size w ((w.alloc (.cells #[.int .i64 p.params, .bool p.vararg, .int .i64 p.regs, .slice ac p.code.n cc, .slice o4 p.consts.n c4, .slice o5 p.ups.n c5, .int .i64 p.kids, .string p.name, .slice o8 p.lines.n c8, .slice o9 p.upNames.n c9] 52)).alloc (.cells #[.int .i64 q.params, .bool q.vararg, .int .i64 q.regs, .slice ac' q.code.n cc', .slice o4' q.consts.n c4', .slice o5' q.ups.n c5', .int .i64 q.kids, .string q.name, .slice o8' q.lines.n c8', .slice o9' q.upNames.n c9'] 52)) := ((Below.refl _ _).alloc (Nat.le_refl _) _).alloc (by rw [World.size_alloc]; omega) _
  generalize (w.alloc (.cells #[.int .i64 p.params, .bool p.vararg, .int .i64 p.regs, .slice ac p.code.n cc, .slice o4 p.consts.n c4, .slice o5 p.ups.n c5, .int .i64 p.kids, .string p.name, .slice o8 p.lines.n c8, .slice o9 p.upNames.n c9] 52)).alloc (.cells #[.int .i64 q.params, .bool q.vararg, .int .i64 q.regs, .slice ac' q.code.n cc', .slice o4' q.consts.n c4', .slice o5' q.ups.n c5', .int .i64 q.kids, .string q.name, .slice o8' q.lines.n c8', .slice o9' q.upNames.n c9'] 52) = w2 at P0 Q0 bw ⊢
  have p5 := P0.cell 5 rfl
  have q5 := Q0.cell 5 rfl
  have q2 := Q0.cell 2 rfl
  clear P0 Q0
  go_loop [5, 6] (fun kv tv => ∃ k : Nat, kv = .int .i64 (k : Int) ∧ k ≤ p.ups.n ∧ Hid (∀ i, i < k → (p.ups.f i).index < (if (p.ups.f i).stack then q.regs else (q.ups.n : Int)))) (fun kv _ => p.ups.n - (intOf kv).toNat)
  case atStart => exact ⟨0, rfl, by omega, fun i h => absurd h (by omega)⟩
  case round =>
    obtain ⟨k, rfl, hk, hT⟩ := hrel
    by_cases hlt : k < p.ups.n
    · have hkI : (k : Int) < (p.ups.n : Int) := by omega
      obtain ⟨b, o, rfl, hb, hc⟩ := hcs.out w2 bw (by omega)
      obtain ⟨u0, u1⟩ := hc k hlt
      obtain ⟨st, hst⟩ : ∃ st, (p.ups.f k).stack = st := ⟨_, rfl⟩
      obtain ⟨ix, hix⟩ : ∃ ix, (p.ups.f k).index = ix := ⟨_, rfl⟩
      rw [hst] at u0
      rw [hix] at u1
      by_cases hok : ix < (if st then q.regs else (q.ups.n : Int))
      · have T1 : Hid (∀ i, i < k + 1 → (p.ups.f i).index < (if (p.ups.f i).stack then q.regs else (q.ups.n : Int))) := fun i hi => by
          by_cases e : i = k
          · subst e; rw [hst, hix]; exact hok
          · exact hT.out i (by omega)
        replace hst : Hid _ := hst
        replace hix : Hid _ := hix
        clear hT hc hcs
        cases st with
        | true =>
          have hok2 : ix < q.regs := hok
          clear hok
          go_wp2_with fail
          go_round
          case rel => exact ⟨k + 1, by go_num, by omega, T1.out⟩
          case measure => simp [intOf]; omega
        | false =>
          have hok2 : ix < (q.ups.n : Int) := hok
          clear hok
          go_wp2_with fail
          go_round
          case rel => exact ⟨k + 1, by go_num, by omega, T1.out⟩
          case measure => simp [intOf]; omega
      · have hno : Hid (¬ UpsOk p q) := fun h => hok (by have := h k hlt; rw [hst, hix] at this; exact this)
        replace hst : Hid _ := hst
        replace hix : Hid _ := hix
        clear hT hc hcs
        cases st with
        | true =>
          have hok2 : ¬ (ix < q.regs) := hok
          clear hok
          go_wp2_with fail
          go_ret
          exact ⟨says_no hno.out, bw⟩
        | false =>
          have hok2 : ¬ (ix < (q.ups.n : Int)) := hok
          clear hok
          go_wp2_with fail
          go_ret
          exact ⟨says_no hno.out, bw⟩
    · obtain rfl : k = p.ups.n := by omega
      have hkI : ¬ ((p.ups.n : Int) < (p.ups.n : Int)) := by omega
      have hyes : Hid (UpsOk p q) := hT.out
      clear hT hcs
      go_wp2_with fail
      go_ret
      exact ⟨says_yes hyes.out, bw⟩
set_option maxHeartbeats 4000000 in
theorem l2Child_in (s : Sl PD) (ao : Option Addr) (cap : Nat) (k j : Nat) (w : World) (hw : Wf s) (hn : s.n ≤ 200) (hk : k < s.n) (hj : j ≤ (s.f k).kids.toNat)
    (hc : ∃ b o, ao = some ⟨b, o, none⟩ ∧ b < w.heap.size ∧ ∀ i, i < s.n → w.cell? ⟨b, o + i * 10 + 6, none⟩ = some (.int .i64 (kidsOf s i))) :
    Calls Tryz.prog 108 #[.agg #[.slice ao s.n cap], .int .i64 (k : Int), .int .i64 (j : Int)] w fun e w' => e = .returned (.int .i64 (kidAt (EE (kidsOf s) s.n) k j : Int)) ∧ Below w.heap.size w w' := by
  have hcy : Hid (∀ y, Below w.heap.size w y → 0 < s.n → ∃ b o, ao = some ⟨b, o, none⟩ ∧ ∀ i, i < s.n → y.cell? ⟨b, o + i * 10 + 6, none⟩ = some (.int .i64 (kidsOf s i))) := fun y hy _ => by
    obtain ⟨b, o, e, hb, h⟩ := hc
    exact ⟨b, o, e, fun i hi => (hy.cell (p := ⟨b, o + i * 10 + 6, none⟩) hb).trans (h i hi)⟩
  have hko : Hid _ := kids_of hw hk
  have hj2 : j ≤ 200 := by have := kids_le hw hk; omega
  have hwf : Hid (Wf s) := hw
  clear hc hw
  go_enter Tryz.func108, Tryz.ntmps108
  go_wp2_with fail
  have R0 := RowL.new w [.slice ao s.n cap] 24
  have bw : Below w.heap.size w (w.alloc (.cells #[.slice ao s.n cap] 24)) := (Below.refl _ _).alloc (Nat.le_refl _) _
  generalize w.alloc (.cells #[.slice ao s.n cap] 24) = w0 at R0 bw ⊢
  have r0 := R0.cell 0 rfl
  clear R0
  go_loopw [7, 8] (fun av iv wr => ∃ i : Nat, iv = .int .i64 (i : Int) ∧ av = .int .i64 (kidAt (EE (kidsOf s) s.n) k i : Int) ∧ i ≤ j ∧ wr = w0) (fun _ iv _ => j - (intOf iv).toNat)
  case atStart => exact ⟨0, rfl, by simp [kidAt], by omega, rfl⟩
  case round =>
    obtain ⟨i, rfl, rfl, hi, rfl⟩ := hrel
    by_cases hlt : i < j
    · have hlI : (i : Int) < (j : Int) := by omega
      have hx := hko.out.2.2.2.2.2 i (by omega)
      have hE2 := hko.out.2.2.1
      obtain ⟨x, hx9⟩ : ∃ x, kidAt (EE (kidsOf s) s.n) k i = x := ⟨_, rfl⟩
      rw [hx9] at hx ⊢
      have hxn : x < s.n := by omega
      have hox := kids_of hwf.out hxn
      have hEnd := l2End_in ao s.n cap (kidsOf s) wr (by omega) (hcy.out wr bw) s.n x 0 (by omega) (by omega) (by omega)
      go_wp2_with fail
      refine hEnd.mono ?_
      rintro e w1 ⟨⟨r, rfl, hr⟩, rfl⟩
      have hrr : r = (kidAt (EE (kidsOf s) s.n) k (i + 1) : Int) := by
        show r = (EE (kidsOf s) s.n (kidAt (EE (kidsOf s) s.n) k i) : Int)
        rw [hx9]
        obtain ⟨h, hF, hh⟩ := hox.2.2.2.2.1
        rcases hr with ⟨e2, h2, t2, hh2, rfl⟩ | ⟨rfl, hno⟩
        · rw [EE_eq t2]
        · have := hno _ _ hF
          omega
      subst hrr
      clear hr hEnd hox
      go_wp2_with fail
      go_roundw
      case rel => exact ⟨i + 1, by go_num, rfl, by omega, trivial⟩
      case measure => simp [intOf]; omega
    · obtain rfl : i = j := by omega
      have hlI : ¬ ((i : Int) < (i : Int)) := by omega
      go_wp2_with fail
      go_ret
      exact ⟨rfl, bw⟩
end
section
open Go.RowKit Go.Shelf
set_option linter.unusedVariables false
set_option linter.unusedSimpArgs false
set_option maxRecDepth 100000
set_option maxHeartbeats 1000000
/-- what was there is there as it was. -/
def OldS (v y : World) : Prop := ∀ b o, b < v.heap.size → y.cell? ⟨b, o, none⟩ = v.cell? ⟨b, o, none⟩
theorem OldS.of {v y : World} (h : Below v.heap.size v y) : OldS v y := fun b o hb => h.cell (p := ⟨b, o, none⟩) hb
/-- what was in lists is small enough. -/
theorem SmallP.of {p : PD} (h : ProtoOk p) : p.ups.n ≤ 1048576 ∧ p.consts.n ≤ 1048576 ∧ p.code.n ≤ 2000 ∧ 0 < p.code.n := ⟨by have := h.ups; omega, by have := h.consts; omega, h.code2, by have := h.code1; omega⟩
theorem kidsAgain {s : Sl PD} {ao : Option Addr} {w y : World} (h : ∃ b o, ao = some ⟨b, o, none⟩ ∧ b < w.heap.size ∧ ∀ i, i < s.n → w.cell? ⟨b, o + i * 10 + 6, none⟩ = some (.int .i64 (kidsOf s i))) (hb : Below w.heap.size w y) : ∃ b o, ao = some ⟨b, o, none⟩ ∧ b < y.heap.size ∧ ∀ i, i < s.n → y.cell? ⟨b, o + i * 10 + 6, none⟩ = some (.int .i64 (kidsOf s i)) := by
  obtain ⟨b, o, e, h1, h2⟩ := h
  exact ⟨b, o, e, Nat.lt_of_lt_of_le h1 hb.size, fun i hi => (hb.cell (p := ⟨b, o + i * 10 + 6, none⟩) h1).trans (h2 i hi)⟩
set_option maxHeartbeats 8000000 in
theorem l4Desc_in (s : Sl PD) (ao : Option Addr) (cap : Nat) (k : Nat) (w : World) (hv : IsProtos (· < w.heap.size) w (.slice ao s.n cap) s) (hw : Wf s) (hk : k < s.n) :
    Calls Tryz.prog 37 #[.agg #[.slice ao s.n cap], .int .i64 (k : Int)] w fun e w' => Says e (Desc (EE (kidsOf s) s.n) s k) ∧ Below w.heap.size w w' := by
  have hn := hw.high
  obtain ⟨b, o, rfl, hbb, hpr⟩ := hv.proto (by omega)
  have hkids : Hid (∃ b' o', some (⟨b, o, none⟩ : Addr) = some ⟨b', o', none⟩ ∧ b' < w.heap.size ∧ ∀ i, i < s.n → w.cell? ⟨b', o' + i * 10 + 6, none⟩ = some (.int .i64 (kidsOf s i))) := ⟨b, o, rfl, hbb, fun i hi => by obtain ⟨_, _, _, _, _, _, _, _, _, _, h⟩ := hpr i hi; exact h.f6⟩
  replace hpr : Hid (∀ k, k < s.n → ∃ ac cc o4 c4 o5 c5 o8 c8 o9 c9, PrAt w b (o + k * 10) (s.f k) ac cc o4 c4 o5 c5 o8 c8 o9 c9) := hpr
  have hko := kids_of hw hk
  have hk0 := hko.1
  have hkm := kids_le hw hk
  replace hko : Hid _ := hko
  replace hw : Hid (Wf s) := hw
  obtain ⟨ac, cc, o4, c4, o5, c5, o8, c8, o9, c9, hp⟩ := hpr.out k hk
  have hkI : (k : Int) < (s.n : Int) := by omega
  clear hv
  go_enter Tryz.func37, Tryz.ntmps37
  go_wp2_with fail
  have R0 := RowL.new w [.slice (some ⟨b, o, none⟩) s.n cap] 24
  have bw : Below w.heap.size w (w.alloc (.cells #[.slice (some ⟨b, o, none⟩) s.n cap] 24)) := (Below.refl _ _).alloc (Nat.le_refl _) _
  generalize w.alloc (.cells #[.slice (some ⟨b, o, none⟩) s.n cap] 24) = w0 at R0 bw ⊢
  have s0 : Hid (RowL w0 w.heap.size 24 [.slice (some ⟨b, o, none⟩) s.n cap] ∧ Below w.heap.size w w0 ∧ ∀ i, i < 0 → UpsOk (s.f (kidAt (EE (kidsOf s) s.n) k i)) (s.f k)) := ⟨R0, bw, fun i h => absurd h (by omega)⟩
  clear R0 bw
  go_loopw [5] (fun jv wr => ∃ j : Nat, jv = .int .i64 (j : Int) ∧ j ≤ (s.f k).kids.toNat ∧ Hid (RowL wr w.heap.size 24 [.slice (some ⟨b, o, none⟩) s.n cap] ∧ Below w.heap.size w wr ∧ ∀ i, i < j → UpsOk (s.f (kidAt (EE (kidsOf s) s.n) k i)) (s.f k))) (fun jv _ => (s.f k).kids.toNat - (intOf jv).toNat)
  case atStart => exact ⟨0, rfl, by omega, s0.out⟩
  case round =>
    obtain ⟨j, rfl, hj, hT⟩ := hrel
    obtain ⟨wA, hwA⟩ : ∃ x, x = wr := ⟨_, rfl⟩
    subst hwA
    clear s0
    obtain ⟨hR, hB, hU⟩ := hT.out
    have hl0 := hR.lt
    have r0 := hR.cell 0 rfl
    have hpA := hp.later hB
    have q6 := hpA.f6
    have hbA := hpA.lt
    by_cases hlt : (j : Int) < (s.f k).kids
    · obtain ⟨x, hx9⟩ : ∃ x, kidAt (EE (kidsOf s) s.n) k j = x := ⟨_, rfl⟩
      have hxx := hko.out.2.2.2.2.2 j (by omega)
      have hE2 := hko.out.2.2.1
      rw [hx9] at hxx
      have hxn : x < s.n := by omega
      have hxI : (x : Int) < (s.n : Int) := by omega
      obtain ⟨ac', cc', o4', c4', o5', c5', o8', c8', o9', c9', hq⟩ := hpr.out x hxn
      have hqA := hq.later hB
      have q0 := hpA.f0
      have q1 := hpA.f1
      have q2 := hpA.f2
      have q3 := hpA.f3
      have q4 := hpA.f4
      have q5 := hpA.f5
      have q7 := hpA.f7
      have q8 := hpA.f8
      have q9 := hpA.f9
      have x0 := hqA.f0
      have x1 := hqA.f1
      have x2 := hqA.f2
      have x3 := hqA.f3
      have x4 := hqA.f4
      have x5 := hqA.f5
      have x6 := hqA.f6
      have x7 := hqA.f7
      have x8 := hqA.f8
      have x9 := hqA.f9
      have hups : Hid (IsUps (· < wA.heap.size) wA (.slice o5' (s.f x).ups.n c5') (s.f x).ups) := hqA.ups
      replace hpA : Hid _ := hpA
      replace hqA : Hid _ := hqA
      replace hx9 : Hid (kidAt (EE (kidsOf s) s.n) k j = x) := hx9
      go_wp2_with fail
      have hd : OldS wA wA.drew := OldS.of (Below.refl _ _).drew
      refine wp_region_held_drew (S := OldS wA) (by kernel_rfl) hd (fun hH => ?_)
      refine take_dst 0 16 (.pointer (some ⟨w.heap.size, 0, none⟩)) rfl (by kernel_rfl) (by kernel_rfl) (by kernel_rfl) (fun _ _ _ h => h) (Or.inl ⟨by rfl, by intro wv hSv; unfold OldS at hSv; go_simp⟩) hd rfl ?_
      try simp only [tk0, tk1, tk2, tk3, tk4]
      refine take_dst 1 17 (.slice (some ⟨b, o, none⟩) s.n cap) rfl (by kernel_rfl) (by kernel_rfl) (by kernel_rfl) (fun _ _ _ h => h) (Or.inl ⟨by rfl, by intro wv hSv; unfold OldS at hSv; go_simp⟩) hd rfl ?_
      try simp only [tk0, tk1, tk2, tk3, tk4]
      refine take_dst 2 18 (.agg #[.slice (some ⟨b, o, none⟩) s.n cap]) rfl (by kernel_rfl) (by kernel_rfl) (by kernel_rfl) (fun _ _ _ h => h) (Or.inl ⟨by rfl, by intro wv hSv; unfold OldS at hSv; go_simp⟩) hd rfl ?_
      try simp only [tk0, tk1, tk2, tk3, tk4]
      refine take_dst 3 19 (.int .i64 (k : Int)) rfl (by kernel_rfl) (by kernel_rfl) (by kernel_rfl) (fun _ _ _ h => h) (Or.inl ⟨by rfl, by intro wv hSv; unfold OldS at hSv; go_simp⟩) hd rfl ?_
      try simp only [tk0, tk1, tk2, tk3, tk4]
      refine take_dst 4 20 (.int .i64 (j : Int)) rfl (by kernel_rfl) (by kernel_rfl) (by kernel_rfl) (fun _ _ _ h => h) (Or.inl ⟨by rfl, by intro wv hSv; unfold OldS at hSv; go_simp⟩) hd rfl ?_
      try simp only [tk0, tk1, tk2, tk3, tk4]
      refine take_dst 8 24 (.pointer (some ⟨w.heap.size, 0, none⟩)) rfl (by kernel_rfl) (by kernel_rfl) (by kernel_rfl) (fun _ _ _ h => h) (Or.inl ⟨by rfl, by intro wv hSv; unfold OldS at hSv; go_simp⟩) hd rfl ?_
      try simp only [tk0, tk1, tk2, tk3, tk4]
      refine take_dst 9 25 (.slice (some ⟨b, o, none⟩) s.n cap) rfl (by kernel_rfl) (by kernel_rfl) (by kernel_rfl) (fun _ _ _ h => h) (Or.inl ⟨by rfl, by intro wv hSv; unfold OldS at hSv; go_simp⟩) hd rfl ?_
      try simp only [tk0, tk1, tk2, tk3, tk4]
      refine take_dst 10 26 (.int .i64 (k : Int)) rfl (by kernel_rfl) (by kernel_rfl) (by kernel_rfl) (fun _ _ _ h => h) (Or.inl ⟨by rfl, by intro wv hSv; unfold OldS at hSv; go_simp⟩) hd rfl ?_
      try simp only [tk0, tk1, tk2, tk3, tk4]
      refine take_dst 11 27 (.pointer (some ⟨b, o + k * 10, none⟩)) rfl (by kernel_rfl) (by kernel_rfl) (by kernel_rfl) (fun _ _ _ h => h) (Or.inl ⟨by rfl, by intro wv hSv; unfold OldS at hSv; go_simp⟩) hd rfl ?_
      try simp only [tk0, tk1, tk2, tk3, tk4]
      refine take_dst 12 28 (.agg #[.int .i64 (s.f k).params, .bool (s.f k).vararg, .int .i64 (s.f k).regs, .slice ac (s.f k).code.n cc, .slice o4 (s.f k).consts.n c4, .slice o5 (s.f k).ups.n c5, .int .i64 (s.f k).kids, .string (s.f k).name, .slice o8 (s.f k).lines.n c8, .slice o9 (s.f k).upNames.n c9]) rfl (by kernel_rfl) (by kernel_rfl) (by kernel_rfl) (fun _ _ _ h => h) (Or.inl ⟨by rfl, by intro wv hSv; unfold OldS at hSv; go_simp⟩) hd rfl ?_
      try simp only [tk0, tk1, tk2, tk3, tk4]
      refine wpAnyH_ready (rs := [5]) (by kernel_rfl) (by simp) ?_
      refine AllReadyH.cons rfl (fun KK hKK => ?_) AllReadyH.nil
      go_simp
      refine (l2Child_in s _ cap k j _ hw.out hn hk hj ((kidsAgain hkids.out (hB.trans ((Below.refl _ _).drew.mono hB.size))))).mono ?_
      rintro e y1 ⟨rfl, b1⟩
      rw [hx9.out]
      replace b1 : Below wA.heap.size wA y1 := ⟨b1.os, b1.tape, b1.output, b1.size, b1.block⟩
      have h1 : OldS wA y1 := OldS.of b1
      go_wp2_with fail
      refine hKK.out _ _ h1 (fun _ => ?_)
      clear hKK KK
      try simp only [tk0, tk1, tk2, tk3, tk4]
      refine take_dst 6 22 (.pointer (some ⟨b, o + x * 10, none⟩)) rfl (by kernel_rfl) (by kernel_rfl) (by kernel_rfl) (fun _ _ _ h => h) (Or.inl ⟨by rfl, by intro wv hSv; unfold OldS at hSv; go_simp⟩) h1 rfl ?_
      try simp only [tk0, tk1, tk2, tk3, tk4]
      refine take_dst 7 23 (.agg #[.int .i64 (s.f x).params, .bool (s.f x).vararg, .int .i64 (s.f x).regs, .slice ac' (s.f x).code.n cc', .slice o4' (s.f x).consts.n c4', .slice o5' (s.f x).ups.n c5', .int .i64 (s.f x).kids, .string (s.f x).name, .slice o8' (s.f x).lines.n c8', .slice o9' (s.f x).upNames.n c9']) rfl (by kernel_rfl) (by kernel_rfl) (by kernel_rfl) (fun _ _ _ h => h) (Or.inl ⟨by rfl, by intro wv hSv; unfold OldS at hSv; go_simp⟩) h1 rfl ?_
      try simp only [tk0, tk1, tk2, tk3, tk4]
      refine wpAnyH_ready (rs := [13]) (by kernel_rfl) (by simp) ?_
      refine AllReadyH.cons rfl (fun KK hKK => ?_) AllReadyH.nil
      go_simp
      refine (l4UpsThere_in (s.f x) ac' cc' o4' c4' o5' c5' o8' c8' o9' c9' (s.f k) ac cc o4 c4 o5 c5 o8 c8 o9 c9 _ (IsArr.later hups.out b1) (SmallP.of (hw.out.each x hxn)).1 (SmallP.of (hw.out.each k hk)).1).mono ?_
      rintro e y2 ⟨⟨r, rfl, hr⟩, b2⟩
      have b3 := b1.trans (b2.mono b1.size)
      have h2 : OldS wA y2 := OldS.of b3
      go_wp2_with fail
      refine hKK.out _ _ h2 (fun _ => ?_)
      clear hKK KK
      try simp only [tk0, tk1, tk2, tk3, tk4]
      refine take_dst 14 30 (.bool (!r)) rfl (by kernel_rfl) (by kernel_rfl) (by kernel_rfl) (fun _ _ _ h => h) (Or.inl ⟨by rfl, by intro wv hSv; unfold OldS at hSv; go_simp⟩) h2 rfl ?_
      try simp only [tk0, tk1, tk2, tk3, tk4]
      refine wpAnyH_done (by kernel_rfl) ?_ _
      have bF : Below w.heap.size w y2 := hB.trans (b3.mono hB.size)
      have RF : RowL y2 w.heap.size 24 [.slice (some ⟨b, o, none⟩) s.n cap] := hR.call b3
      obtain rfl | rfl : r = false ∨ r = true := by cases r <;> simp
      · have hno : Hid (¬ Desc (EE (kidsOf s) s.n) s k) := fun h => by have h7 := h.kids j hlt; rw [hx9.out] at h7; simpa using hr.2 h7
        clear hr hU hT hR hB r0 q0 q1 q2 q3 q4 q5 q6 q7 q8 q9 x0 x1 x2 x3 x4 x5 x6 x7 x8 x9 b1 b2 b3 h1 h2 hd hH
        go_wp2_with fail
        go_ret
        exact ⟨says_no hno.out, bF⟩
      · have T1 : Hid (RowL y2 w.heap.size 24 [.slice (some ⟨b, o, none⟩) s.n cap] ∧ Below w.heap.size w y2 ∧ ∀ i, i < j + 1 → UpsOk (s.f (kidAt (EE (kidsOf s) s.n) k i)) (s.f k)) := ⟨RF, bF, fun i hi => by by_cases e : i = j; (subst e; rw [hx9.out]; exact hr.1 rfl); exact hU i (by omega)⟩
        clear hr hU hT hR hB r0 q0 q1 q2 q3 q4 q5 q6 q7 q8 q9 x0 x1 x2 x3 x4 x5 x6 x7 x8 x9 b1 b2 b3 h1 h2 hd hH RF bF
        go_wp2_with fail
        go_roundw
        case rel => exact ⟨j + 1, by go_num, by omega, T1.out⟩
        case measure => simp [intOf]; omega
    · have hjk : j = (s.f k).kids.toNat := by omega
      have hall : Hid (∀ i : Nat, (i : Int) < (s.f k).kids → UpsOk (s.f (kidAt (EE (kidsOf s) s.n) k i)) (s.f k)) := fun i hi => hU i (by omega)
      obtain ⟨ac0, cc0, o40, c40, o50, c50, o80, c80, o90, c90, hz⟩ := hpr.out 0 (by omega)
      have z5 := (hz.later hB).f5
      rw [Nat.zero_mul, Nat.add_zero] at z5
      have hun : (s.f 0).ups.n ≤ 1048576 := (SmallP.of (hw.out.each 0 (by omega))).1
      clear hT hU
      by_cases hk9 : 0 < k
      · have hk9I : (0 : Int) < (k : Int) := by omega
        have hyes : Hid (Desc (EE (kidsOf s) s.n) s k) := ⟨fun h => by omega, hall.out⟩
        clear z5 hz
        go_wp2_with fail
        go_ret
        exact ⟨says_yes hyes.out, hB⟩
      · obtain rfl : k = 0 := by omega
        by_cases hu9 : (s.f 0).ups.n = 0
        · have hyes : Hid (Desc (EE (kidsOf s) s.n) s 0) := ⟨fun _ => hu9, hall.out⟩
          have q9 : (((s.f 0).ups.n : Int) == 0) = true := by simp [hu9]
          replace hu9 : Hid _ := hu9
          clear hz
          go_wp2_with fail
          go_ret
          exact ⟨says_yes hyes.out, hB⟩
        · have hno : Hid (¬ Desc (EE (kidsOf s) s.n) s 0) := fun h => hu9 (h.root rfl)
          have q9 : (((s.f 0).ups.n : Int) == 0) = false := by simp [hu9]
          clear hz
          go_wp2_with fail
          go_ret
          exact ⟨says_no hno.out, hB⟩
end
end Go.Proofs.YtckapapejfnojaaGreatDoor

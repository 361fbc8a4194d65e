import Derived.Test.YtckapapejfnojaaGreatDoorVmIV
import Derived.Test.YtckapapejfnojaaGreatDoorGFV
import Derived.Test.YtckapapejfnojaaGreatDoorTxBV
import Derived.Test.YtckapapejfnojaaGreatDoorGAV
namespace Go.Proofs.YtckapapejfnojaaGreatDoor
section
open Go.RowKit Go.Shelf
set_option linter.unusedVariables false
set_option linter.unusedSimpArgs false
set_option maxRecDepth 100000
set_option maxHeartbeats 2000000
/-- all that is known at a place. -/
structure Ctx (w : World) (pb po B uo q : Nat) (z : Int) (n : Nat) (a b c s : Int) (p : PD) (a3 a4 a5 : Value) : Prop where
  hP : PtrP w pb po p a3 a4 a5
  hU : UsO w B uo
  hB : B < w.heap.size
  hS : Spans w
  hp : Prt z n a b c s
  hz : p.code.f q = z
  hq : q < p.code.n
  n2 : p.code.n ≤ 2000
  cb : ∀ i, i < p.code.n → 0 ≤ p.code.f i ∧ p.code.f i ≤ 4294967295
  n63 : n ≤ 63
  a1 : 0 ≤ a
  a2 : a ≤ 255
  b1 : 0 ≤ b
  b2 : b ≤ 511
  c1 : 0 ≤ c
  c2 : c ≤ 511
  s1 : -1000000 ≤ s
  s2 : s ≤ 1000000
  co : p.consts.n ≤ 1048576
  k0 : 0 ≤ p.kids
  k1 : p.kids ≤ 200
  r0 : 0 ≤ p.regs
theorem Ctx.later {w w' : World} {pb po B uo q : Nat} {z : Int} {n : Nat} {a b c s : Int} {p : PD} {a3 a4 a5 : Value} (h : Ctx w pb po B uo q z n a b c s p a3 a4 a5) (hb : Below w.heap.size w w') : Ctx w' pb po B uo q z n a b c s p a3 a4 a5 :=
  { h with hP := h.hP.later hb, hU := h.hU.later h.hB hb, hB := Nat.lt_of_lt_of_le h.hB hb.size, hS := h.hS.below hb }
section
variable {w : World} {pb po B uo q : Nat} {z : Int} {n : Nat} {a b c s : Int} {p : PD} {a3 a4 a5 : Value} (C : Ctx w pb po B uo q z n a b c s p a3 a4 a5)
include C
theorem lc_in : Calls Tryz.prog 93 #[plN pb po B uo (q : Int) n a b c s] w fun e w' => Says e (∃ t : Nat, tgt q z - 1 = (t : Int) ∧ t < p.code.n ∧ opW (p.code.f t) = 28 ∧ aW (p.code.f t) = aW z ∧ tgt t (p.code.f t) = (q : Int) + 1) ∧ Below w.heap.size w w' := by
  have hq := C.hq
  have hn2 := C.n2
  have hs := C.hp.s
  have ha := C.hp.a
  by_cases hx : 0 ≤ (q : Int) + s ∧ (q : Int) + s < (p.code.n : Int)
  · obtain ⟨t, ht⟩ : ∃ t : Nat, (q : Int) + s = (t : Int) := ⟨((q : Int) + s).toNat, by omega⟩
    have htn : t < p.code.n := by omega
    have hcb := C.cb t htn
    obtain ⟨z9, hz9⟩ : ∃ z9, p.code.f t = z9 := ⟨_, rfl⟩
    have key : ∀ P : Prop, (P ↔ (opW z9 = 28 ∧ aW z9 = a ∧ (q : Int) + 1 + s + sW z9 = (q : Int) + 1)) → (P ↔ ∃ t : Nat, tgt q z - 1 = (t : Int) ∧ t < p.code.n ∧ opW (p.code.f t) = 28 ∧ aW (p.code.f t) = aW z ∧ tgt t (p.code.f t) = (q : Int) + 1) := fun P hP => hP.trans (by
      unfold tgt
      constructor
      · rintro ⟨x1, x2, x3⟩
        exact ⟨t, by omega, htn, by rw [hz9]; exact x1, by rw [hz9, ha]; exact x2, by rw [hz9]; omega⟩
      · rintro ⟨t', x0, x1, x2, x3, x4⟩
        have : t' = t := by omega
        subst this
        rw [hz9] at x2 x3 x4
        exact ⟨x2, by rw [x3, ha], by omega⟩)
    by_cases q1 : opW z9 = 28
    · by_cases q2 : aW z9 = a
      · by_cases q3 : (q : Int) + 1 + s + sW z9 = (q : Int) + 1
        · refine (lc_y w pb po B uo q n a b c s p a3 a4 a5 C.hP z C.hp hn2 (by omega) C.hS (by omega) (by omega) C.s1 C.s2 t (show Hid _ from ht) htn z9 (show Hid _ from hz9) (by omega) (by omega) (by simp [q1]) (by simp [q2]) (by simp; omega)).mono fun e w' ⟨he, hb⟩ => ⟨⟨true, he, key _ ?_⟩, hb⟩
          simp [q1, q2]; omega
        · refine (lc_t w pb po B uo q n a b c s p a3 a4 a5 C.hP z C.hp hn2 (by omega) C.hS (by omega) (by omega) C.s1 C.s2 t (show Hid _ from ht) htn z9 (show Hid _ from hz9) (by omega) (by omega) (by simp [q1]) (by simp [q2]) (by simp; omega)).mono fun e w' ⟨he, hb⟩ => ⟨⟨false, he, key _ ?_⟩, hb⟩
          simp; intros; omega
      · refine (lc_a w pb po B uo q n a b c s p a3 a4 a5 C.hP z C.hp hn2 (by omega) C.hS (by omega) (by omega) C.s1 C.s2 t (show Hid _ from ht) htn z9 (show Hid _ from hz9) (by omega) (by omega) (by simp [q1]) (by simp [q2])).mono fun e w' ⟨he, hb⟩ => ⟨⟨false, he, key _ ?_⟩, hb⟩
        simp [q2]
    · refine (lc_op w pb po B uo q n a b c s p a3 a4 a5 C.hP z C.hp hn2 (by omega) C.hS (by omega) (by omega) C.s1 C.s2 t (show Hid _ from ht) htn z9 (show Hid _ from hz9) (by omega) (by omega) (by simp [q1])).mono fun e w' ⟨he, hb⟩ => ⟨⟨false, he, key _ ?_⟩, hb⟩
      simp [q1]
  · refine (lc_no w pb po B uo q n a b c s p a3 a4 a5 C.hP z C.hp hn2 (by omega) C.hS (by omega) (by omega) C.s1 C.s2 hx).mono fun e w' ⟨he, hb⟩ => ⟨⟨false, he, ?_⟩, hb⟩
    simp only [Bool.false_eq_true, false_iff]
    rintro ⟨t, x0, x1, -⟩
    unfold tgt at x0
    exact hx (by omega)
theorem chk1 : Calls Tryz.prog 109 #[plN pb po B uo (q : Int) n a b c s] w fun e w' => Says e (opW z ≤ 33) ∧ Below w.heap.size w w' :=
  (known_in w pb po B uo q n a b c s C.n63).mono fun e w' ⟨h, hb⟩ => ⟨says_iff h (by rw [C.hp.n]; omega), hb⟩
theorem chk2 (hn : n ≤ 33) : Calls Tryz.prog 110 #[plN pb po B uo (q : Int) n a b c s] w fun e w' => Says e (FieldOk (opW z) (aW z) (bW z) (cW z) p.vararg) ∧ Below w.heap.size w w' := by
  rw [C.hp.n, C.hp.a, C.hp.b, C.hp.c]
  exact fieldsFit_in w pb po B uo q n a b c s p a3 a4 a5 C.hP C.hU C.hB hn
theorem chk3 (hn : n ≤ 33) : Calls Tryz.prog 111 #[plN pb po B uo (q : Int) n a b c s] w fun e w' => Says e (topR (opW z) (aW z) (bW z) (cW z) ≤ p.regs) ∧ Below w.heap.size w w' := by
  rw [C.hp.n, C.hp.a, C.hp.b, C.hp.c]
  have a1 := C.a1
  have b1 := C.b1
  have c1 := C.c1
  by_cases k0 : n = 18
  · subst k0
    refine (regs_nil w pb po B uo q 18 a b c s p a3 a4 a5 C.hP C.hU C.hB (by omega) us5n).mono fun e w' ⟨h, hb⟩ => ⟨says_iff h ?_, hb⟩
    unfold topR
    simp
    exact C.r0
  have h5 := us5 n (by omega) k0
  unfold rF at h5
  by_cases k1 : n = 19 ∨ n = 20
  · rw [if_pos (by omega)] at h5
    refine (regs_regsBC w pb po B uo q n a b c s p a3 a4 a5 C.hP C.hU C.hB hn h5 C.a1 C.a2 C.b1 C.b2 C.c1 C.c2 C.s1 C.s2).mono fun e w' ⟨h, hb⟩ => ⟨says_iff h ?_, hb⟩
    unfold topR
    rw [if_neg (by omega), if_pos (by omega)]
  by_cases k2 : n = 2
  · rw [if_neg (by omega), if_pos (by omega)] at h5
    refine (regs_regsUpToB w pb po B uo q n a b c s p a3 a4 a5 C.hP C.hU C.hB hn h5 C.a1 C.a2 C.b1 C.b2 C.c1 C.c2 C.s1 C.s2).mono fun e w' ⟨h, hb⟩ => ⟨says_iff h ?_, hb⟩
    unfold topR
    rw [if_neg (by omega), if_neg (by omega), if_pos (by omega)]
  by_cases k3 : n = 27 ∨ n = 28
  · rw [if_neg (by omega), if_neg (by omega), if_pos (by omega)] at h5
    refine (regs_regsOfLoop w pb po B uo q n a b c s p a3 a4 a5 C.hP C.hU C.hB hn h5 C.a1 C.a2 C.b1 C.b2 C.c1 C.c2 C.s1 C.s2).mono fun e w' ⟨h, hb⟩ => ⟨says_iff h ?_, hb⟩
    unfold topR
    rw [if_neg (by omega), if_neg (by omega), if_neg (by omega), if_pos (by omega)]
  by_cases k4 : n = 0 ∨ n = 15 ∨ n = 16 ∨ n = 17 ∨ n = 29 ∨ n = 32
  · rw [if_neg (by omega), if_neg (by omega), if_neg (by omega), if_pos (by omega)] at h5
    refine (regs_regsAB w pb po B uo q n a b c s p a3 a4 a5 C.hP C.hU C.hB hn h5 C.a1 C.a2 C.b1 C.b2 C.c1 C.c2 C.s1 C.s2).mono fun e w' ⟨h, hb⟩ => ⟨says_iff h ?_, hb⟩
    unfold topR
    rw [if_neg (by omega), if_neg (by omega), if_neg (by omega), if_neg (by omega), if_pos (by omega)]
  by_cases k5 : 7 ≤ n ∧ n ≤ 14
  · rw [if_neg (by omega), if_neg (by omega), if_neg (by omega), if_neg (by omega), if_pos (by omega)] at h5
    refine (regs_regsABC w pb po B uo q n a b c s p a3 a4 a5 C.hP C.hU C.hB hn h5 C.a1 C.a2 C.b1 C.b2 C.c1 C.c2 C.s1 C.s2).mono fun e w' ⟨h, hb⟩ => ⟨says_iff h ?_, hb⟩
    unfold topR
    rw [if_neg (by omega), if_neg (by omega), if_neg (by omega), if_neg (by omega), if_neg (by omega), if_pos (by omega)]
  by_cases k6 : n = 22 ∨ n = 30
  · rw [if_neg (by omega), if_neg (by omega), if_neg (by omega), if_neg (by omega), if_neg (by omega), if_pos (by omega)] at h5
    refine (regs_regsOfCall w pb po B uo q n a b c s p a3 a4 a5 C.hP C.hU C.hB hn h5 C.a1 C.a2 C.b1 C.b2 C.c1 C.c2 C.s1 C.s2).mono fun e w' ⟨h, hb⟩ => ⟨says_iff h ?_, hb⟩
    unfold topR
    rw [if_neg (by omega), if_neg (by omega), if_neg (by omega), if_neg (by omega), if_neg (by omega), if_neg (by omega), if_pos (by omega)]
  by_cases k7 : n = 31
  · rw [if_neg (by omega), if_neg (by omega), if_neg (by omega), if_neg (by omega), if_neg (by omega), if_neg (by omega), if_pos (by omega)] at h5
    refine (regs_regsOfYield w pb po B uo q n a b c s p a3 a4 a5 C.hP C.hU C.hB hn h5 C.a1 C.a2 C.b1 C.b2 C.c1 C.c2 C.s1 C.s2).mono fun e w' ⟨h, hb⟩ => ⟨says_iff h ?_, hb⟩
    unfold topR
    rw [if_neg (by omega), if_neg (by omega), if_neg (by omega), if_neg (by omega), if_neg (by omega), if_neg (by omega), if_neg (by omega), if_pos (by omega)]
  by_cases k8 : n = 23 ∨ n = 24
  · rw [if_neg (by omega), if_neg (by omega), if_neg (by omega), if_neg (by omega), if_neg (by omega), if_neg (by omega), if_neg (by omega), if_pos (by omega)] at h5
    refine (regs_regsOfRow w pb po B uo q n a b c s p a3 a4 a5 C.hP C.hU C.hB hn h5 C.a1 C.a2 C.b1 C.b2 C.c1 C.c2 C.s1 C.s2).mono fun e w' ⟨h, hb⟩ => ⟨says_iff h ?_, hb⟩
    unfold topR
    rw [if_neg (by omega), if_neg (by omega), if_neg (by omega), if_neg (by omega), if_neg (by omega), if_neg (by omega), if_neg (by omega), if_neg (by omega), if_pos (by omega)]
  rw [if_neg (by omega), if_neg (by omega), if_neg (by omega), if_neg (by omega), if_neg (by omega), if_neg (by omega), if_neg (by omega), if_neg (by omega)] at h5
  refine (regs_regsA w pb po B uo q n a b c s p a3 a4 a5 C.hP C.hU C.hB hn h5 C.a1 C.a2 C.b1 C.b2 C.c1 C.c2 C.s1 C.s2).mono fun e w' ⟨h, hb⟩ => ⟨says_iff h ?_, hb⟩
  unfold topR
  rw [if_neg (by omega), if_neg (by omega), if_neg (by omega), if_neg (by omega), if_neg (by omega), if_neg (by omega), if_neg (by omega), if_neg (by omega), if_neg (by omega)]
theorem chk4 (hn : n ≤ 33) : Calls Tryz.prog 112 #[plN pb po B uo (q : Int) n a b c s] w fun e w' => Says e (ConstOk p z) ∧ Below w.heap.size w w' := by
  have hpn := C.hp.n
  by_cases k : n = 1
  · refine (const_y w pb po B uo q n a b c s p a3 a4 a5 C.hP C.hU C.hB hn k C.co).mono fun e w' ⟨h, hb⟩ => ⟨says_iff h ?_, hb⟩
    unfold ConstOk
    rw [hpn, C.hp.s]
    exact ⟨fun h _ => h, fun h => h (by omega)⟩
  · refine (const_n w pb po B uo q n a b c s p a3 a4 a5 C.hP C.hU C.hB hn k).mono fun e w' ⟨h, hb⟩ => ⟨says_iff h ?_, hb⟩
    unfold ConstOk
    rw [hpn]
    exact ⟨fun _ h => by omega, fun _ => trivial⟩
theorem chk5 (hn : n ≤ 33) : Calls Tryz.prog 113 #[plN pb po B uo (q : Int) n a b c s] w fun e w' => Says e (UpOk p z) ∧ Below w.heap.size w w' := by
  have hpn := C.hp.n
  by_cases k : n = 4 ∨ n = 5
  · refine (up_y w pb po B uo q n a b c s p a3 a4 a5 C.hP C.hU C.hB hn k).mono fun e w' ⟨h, hb⟩ => ⟨says_iff h ?_, hb⟩
    unfold UpOk
    rw [hpn, C.hp.b]
    exact ⟨fun h _ => h, fun h => h (by omega)⟩
  · refine (up_n w pb po B uo q n a b c s p a3 a4 a5 C.hP C.hU C.hB hn k).mono fun e w' ⟨h, hb⟩ => ⟨says_iff h ?_, hb⟩
    unfold UpOk
    rw [hpn]
    exact ⟨fun _ h => by omega, fun _ => trivial⟩
theorem chk6 (hn : n ≤ 33) : Calls Tryz.prog 114 #[plN pb po B uo (q : Int) n a b c s] w fun e w' => Says e (KidOk p z) ∧ Below w.heap.size w w' := by
  have hpn := C.hp.n
  by_cases k : n = 25
  · refine (kid_y w pb po B uo q n a b c s p a3 a4 a5 C.hP C.hU C.hB hn k C.k0 C.k1).mono fun e w' ⟨h, hb⟩ => ⟨says_iff h ?_, hb⟩
    unfold KidOk
    rw [hpn, C.hp.s]
    exact ⟨fun h _ => h, fun h => h (by omega)⟩
  · refine (kid_n w pb po B uo q n a b c s p a3 a4 a5 C.hP C.hU C.hB hn k).mono fun e w' ⟨h, hb⟩ => ⟨says_iff h ?_, hb⟩
    unfold KidOk
    rw [hpn]
    exact ⟨fun _ h => by omega, fun _ => trivial⟩
theorem chk7 (hn : n ≤ 33) : Calls Tryz.prog 115 #[plN pb po B uo (q : Int) n a b c s] w fun e w' => Says e (JumpOk p q z) ∧ Below w.heap.size w w' := by
  have hpn := C.hp.n
  by_cases k : n = 18 ∨ n = 27 ∨ n = 28
  · refine (tgt_y w pb po B uo q n a b c s p a3 a4 a5 C.hP C.hU C.hB hn k z C.hp (by omega) (by have := C.hq; have := C.n2; omega) C.s1 C.s2 C.n2 (by have := C.hq; omega)).mono fun e w' ⟨h, hb⟩ => ⟨says_iff h ?_, hb⟩
    unfold JumpOk tgt
    rw [hpn, C.hp.s]
    exact ⟨fun h _ => h, fun h => h (by omega)⟩
  · refine (tgt_n w pb po B uo q n a b c s p a3 a4 a5 C.hP C.hU C.hB hn k).mono fun e w' ⟨h, hb⟩ => ⟨says_iff h ?_, hb⟩
    unfold JumpOk
    rw [hpn]
    exact ⟨fun _ h => by omega, fun _ => trivial⟩
theorem chk8 (hn : n ≤ 33) : Calls Tryz.prog 116 #[plN pb po B uo (q : Int) n a b c s] w fun e w' => Says e (PairOk p q z) ∧ Below w.heap.size w w' := by
  have hpn := C.hp.n
  have hq := C.hq
  by_cases k : n = 19 ∨ n = 20 ∨ n = 21
  · refine (part_jumpBehind w pb po B uo q n a b c s p a3 a4 a5 C.hP C.hU C.hB hn (opAt p ((q : Int) + 1) 18) (us9a n (by omega) k) (show Hid _ from fun y hy => jumpBehind_in y pb po B uo q n a b c s p a3 a4 a5 (C.hP.later hy) z C.hp C.n2 (by omega) (C.hS.below hy) q rfl hq C.cb)).mono fun e w' ⟨h, hb⟩ => ⟨says_iff h ⟨fun h => ⟨fun _ => h, fun h' => by omega⟩, fun h => h.jump (by omega)⟩, hb⟩
  by_cases k2 : n = 27
  · subst k2
    exact (part_loopCloses w pb po B uo q 27 a b c s p a3 a4 a5 C.hP C.hU C.hB hn _ us9b (show Hid _ from fun y hy => lc_in (C.later hy))).mono fun e w' ⟨h, hb⟩ => ⟨says_iff h ⟨fun h => ⟨fun h' => by omega, fun _ => h⟩, fun h => h.loop (by omega)⟩, hb⟩
  · exact (part_nil w pb po B uo q n a b c s p a3 a4 a5 C.hP C.hU C.hB hn (us9n n (by omega) k k2)).mono fun e w' ⟨h, hb⟩ => ⟨says_iff h ⟨fun _ => ⟨fun h' => by omega, fun h' => by omega⟩, fun _ => trivial⟩, hb⟩
theorem chk9 (hj : JumpOk p q z) : Calls Tryz.prog 117 #[plN pb po B uo (q : Int) n a b c s] w fun e w' => Says e (EndOk p q z) ∧ Below w.heap.size w w' := by
  have hq := C.hq
  have hn2 := C.n2
  have hz := C.cb q hq
  rw [C.hz] at hz
  exact (stays_in w pb po B uo q n a b c s p a3 a4 a5 C.hP C.hU C.hB z C.hp (by omega) (by omega) hn2 (by omega) hz.1 hz.2).mono fun e w' ⟨h, hb⟩ => ⟨says_iff h (end_iff9 hj hq), hb⟩
end
end
section
open Go.RowKit Go.Shelf
set_option linter.unusedVariables false
set_option linter.unusedSimpArgs false
set_option maxRecDepth 100000
set_option maxHeartbeats 2000000
attribute [local go_sem] Oper.semAt_some
theorem hu_t (w : World) (bx pb po : Nat) (p : PD) (a3 a4 a5 : Value) (hP : PtrP w pb po p a3 a4 a5) (hbx : bx < w.heap.size) (hc : w.cell? ⟨bx, 0, none⟩ = some (.pointer (some ⟨pb, po, none⟩))) (ix : Int) :
    Calls Tryz.prog 186 #[.agg #[.bool true, .int .i64 ix], .pointer (some ⟨bx, 0, none⟩)] w fun e w' => Says e (ix < p.regs) ∧ Below w.heap.size w w' := by
  go_enter Tryz.func186, Tryz.ntmps186
  go_wp2_with fail
  have R0 := RowL.new w [.bool true, .int .i64 ix] 108
  have bw : Below w.heap.size w (w.alloc (.cells #[.bool true, .int .i64 ix] 108)) := (Below.refl _ _).alloc (Nat.le_refl _) _
  generalize w.alloc (.cells #[.bool true, .int .i64 ix] 108) = w0 at R0 bw ⊢
  have r0 := R0.cell 0 rfl
  have r1 := R0.cell 1 rfl
  have hl := R0.lt
  clear R0
  have hP0 := hP.later bw
  have p2 := hP0.c2
  have p5 := hP0.c5
  have hpb := hP0.lt
  have hb0 : bx < w0.heap.size := Nat.lt_of_lt_of_le hbx bw.size
  replace hc := (bw.cell (p := ⟨bx, 0, none⟩) hbx).trans hc
  replace hP0 : Hid _ := hP0
  replace hP : Hid _ := hP
  go_wp2_with fail
  have hd : OldS w0 w0.drew := OldS.of (Below.refl _ _).drew
  refine wp_region_held_drew (S := OldS w0) (by kernel_rfl) hd (fun hH => ?_)
  refine take_dst 0 6 (.pointer (some ⟨w.heap.size, 1, none⟩)) rfl (by kernel_rfl) (by kernel_rfl) (by kernel_rfl) (fun _ _ _ h => h) (Or.inl ⟨by rfl, by intro wv hSv; unfold OldS at hSv; go_simp⟩) hd rfl ?_
  try simp only [tk0, tk1, tk2, tk3, tk4]
  refine take_dst 1 7 (.int .i64 ix) rfl (by kernel_rfl) (by kernel_rfl) (by kernel_rfl) (fun _ _ _ h => h) (Or.inl ⟨by rfl, by intro wv hSv; unfold OldS at hSv; go_simp⟩) hd rfl ?_
  try simp only [tk0, tk1, tk2, tk3, tk4]
  refine take_dst 2 8 (.pointer (some ⟨pb, po, none⟩)) rfl (by kernel_rfl) (by kernel_rfl) (by kernel_rfl) (fun _ _ _ h => h) (Or.inl ⟨by rfl, by intro wv hSv; unfold OldS at hSv; go_simp⟩) hd rfl ?_
  try simp only [tk0, tk1, tk2, tk3, tk4]
  refine take_dst 3 9 (.pointer (some ⟨pb, po, none⟩)) rfl (by kernel_rfl) (by kernel_rfl) (by kernel_rfl) (fun _ _ _ h => h) (Or.inl ⟨by rfl, by intro wv hSv; unfold OldS at hSv; go_simp⟩) hd rfl ?_
  try simp only [tk0, tk1, tk2, tk3, tk4]
  refine take_dst 4 10 (.pointer (some ⟨pb, po + 2, none⟩)) rfl (by kernel_rfl) (by kernel_rfl) (by kernel_rfl) (fun _ _ _ h => h) (Or.inl ⟨by rfl, by intro wv hSv; unfold OldS at hSv; go_simp⟩) hd rfl ?_
  try simp only [tk0, tk1, tk2, tk3, tk4]
  refine take_dst 5 11 (.int .i64 p.regs) rfl (by kernel_rfl) (by kernel_rfl) (by kernel_rfl) (fun _ _ _ h => h) (Or.inl ⟨by rfl, by intro wv hSv; unfold OldS at hSv; go_simp⟩) hd rfl ?_
  try simp only [tk0, tk1, tk2, tk3, tk4]
  refine take_dst 6 12 (.bool (decide (ix < p.regs))) rfl (by kernel_rfl) (by kernel_rfl) (by kernel_rfl) (fun _ _ _ h => h) (Or.inl ⟨by rfl, by intro wv hSv; unfold OldS at hSv; go_simp⟩) hd rfl ?_
  try simp only [tk0, tk1, tk2, tk3, tk4]
  refine take_dst 7 3 (.bool (decide (ix < p.regs))) rfl (by kernel_rfl) (by kernel_rfl) (by kernel_rfl) (fun _ _ _ h => h) (Or.inl ⟨by rfl, by intro wv hSv; unfold OldS at hSv; go_simp⟩) hd rfl ?_
  try simp only [tk0, tk1, tk2, tk3, tk4]
  refine wpAnyH_done (by kernel_rfl) ?_ _
  clear hH hd r0 r1 p2 p5 hc
  go_wp2_with fail
  go_ret
  exact ⟨⟨_, rfl, decide_eq_true_iff⟩, bw.drew⟩
theorem hu_f (w : World) (bx pb po : Nat) (p : PD) (a3 a4 a5 : Value) (hP : PtrP w pb po p a3 a4 a5) (hbx : bx < w.heap.size) (hc : w.cell? ⟨bx, 0, none⟩ = some (.pointer (some ⟨pb, po, none⟩))) (ix : Int) :
    Calls Tryz.prog 186 #[.agg #[.bool false, .int .i64 ix], .pointer (some ⟨bx, 0, none⟩)] w fun e w' => Says e (ix < (p.ups.n : Int)) ∧ Below w.heap.size w w' := by
  obtain ⟨ao, cp, rfl⟩ : ∃ ao cp, a5 = .slice ao p.ups.n cp := by obtain ⟨ao, cp, e, -⟩ := hP.ups; exact ⟨ao, cp, e⟩
  go_enter Tryz.func186, Tryz.ntmps186
  go_wp2_with fail
  have R0 := RowL.new w [.bool false, .int .i64 ix] 108
  have bw : Below w.heap.size w (w.alloc (.cells #[.bool false, .int .i64 ix] 108)) := (Below.refl _ _).alloc (Nat.le_refl _) _
  generalize w.alloc (.cells #[.bool false, .int .i64 ix] 108) = w0 at R0 bw ⊢
  have r0 := R0.cell 0 rfl
  have r1 := R0.cell 1 rfl
  have hl := R0.lt
  clear R0
  have hP0 := hP.later bw
  have p2 := hP0.c2
  have p5 := hP0.c5
  have hpb := hP0.lt
  have hb0 : bx < w0.heap.size := Nat.lt_of_lt_of_le hbx bw.size
  replace hc := (bw.cell (p := ⟨bx, 0, none⟩) hbx).trans hc
  replace hP0 : Hid _ := hP0
  replace hP : Hid _ := hP
  go_wp2_with fail
  have hd : OldS w0 w0.drew := OldS.of (Below.refl _ _).drew
  refine wp_region_held_drew (S := OldS w0) (by kernel_rfl) hd (fun hH => ?_)
  refine take_dst 0 13 (.pointer (some ⟨w.heap.size, 1, none⟩)) rfl (by kernel_rfl) (by kernel_rfl) (by kernel_rfl) (fun _ _ _ h => h) (Or.inl ⟨by rfl, by intro wv hSv; unfold OldS at hSv; go_simp⟩) hd rfl ?_
  try simp only [tk0, tk1, tk2, tk3, tk4]
  refine take_dst 1 14 (.int .i64 ix) rfl (by kernel_rfl) (by kernel_rfl) (by kernel_rfl) (fun _ _ _ h => h) (Or.inl ⟨by rfl, by intro wv hSv; unfold OldS at hSv; go_simp⟩) hd rfl ?_
  try simp only [tk0, tk1, tk2, tk3, tk4]
  refine take_dst 2 15 (.pointer (some ⟨pb, po, none⟩)) rfl (by kernel_rfl) (by kernel_rfl) (by kernel_rfl) (fun _ _ _ h => h) (Or.inl ⟨by rfl, by intro wv hSv; unfold OldS at hSv; go_simp⟩) hd rfl ?_
  try simp only [tk0, tk1, tk2, tk3, tk4]
  refine take_dst 3 16 (.pointer (some ⟨pb, po, none⟩)) rfl (by kernel_rfl) (by kernel_rfl) (by kernel_rfl) (fun _ _ _ h => h) (Or.inl ⟨by rfl, by intro wv hSv; unfold OldS at hSv; go_simp⟩) hd rfl ?_
  try simp only [tk0, tk1, tk2, tk3, tk4]
  refine take_dst 4 17 (.pointer (some ⟨pb, po + 5, none⟩)) rfl (by kernel_rfl) (by kernel_rfl) (by kernel_rfl) (fun _ _ _ h => h) (Or.inl ⟨by rfl, by intro wv hSv; unfold OldS at hSv; go_simp⟩) hd rfl ?_
  try simp only [tk0, tk1, tk2, tk3, tk4]
  refine take_dst 5 18 (.slice ao p.ups.n cp) rfl (by kernel_rfl) (by kernel_rfl) (by kernel_rfl) (fun _ _ _ h => h) (Or.inl ⟨by rfl, by intro wv hSv; unfold OldS at hSv; go_simp⟩) hd rfl ?_
  try simp only [tk0, tk1, tk2, tk3, tk4]
  refine take_dst 6 19 (.int .i64 (p.ups.n : Int)) rfl (by kernel_rfl) (by kernel_rfl) (by kernel_rfl) (fun _ _ _ h => h) (Or.inl ⟨by rfl, by intro wv hSv; unfold OldS at hSv; go_simp⟩) hd rfl ?_
  try simp only [tk0, tk1, tk2, tk3, tk4]
  refine take_dst 7 20 (.bool (decide (ix < (p.ups.n : Int)))) rfl (by kernel_rfl) (by kernel_rfl) (by kernel_rfl) (fun _ _ _ h => h) (Or.inl ⟨by rfl, by intro wv hSv; unfold OldS at hSv; go_simp⟩) hd rfl ?_
  try simp only [tk0, tk1, tk2, tk3, tk4]
  refine take_dst 8 3 (.bool (decide (ix < (p.ups.n : Int)))) rfl (by kernel_rfl) (by kernel_rfl) (by kernel_rfl) (fun _ _ _ h => h) (Or.inl ⟨by rfl, by intro wv hSv; unfold OldS at hSv; go_simp⟩) hd rfl ?_
  try simp only [tk0, tk1, tk2, tk3, tk4]
  refine wpAnyH_done (by kernel_rfl) ?_ _
  clear hH hd r0 r1 p2 p5 hc
  go_wp2_with fail
  go_ret
  exact ⟨⟨_, rfl, decide_eq_true_iff⟩, bw.drew⟩
theorem hu_in (w : World) (bx pb po : Nat) (p : PD) (a3 a4 a5 : Value) (hP : PtrP w pb po p a3 a4 a5) (hbx : bx < w.heap.size) (hc : w.cell? ⟨bx, 0, none⟩ = some (.pointer (some ⟨pb, po, none⟩))) (st : Bool) (ix : Int) :
    Calls Tryz.prog 186 #[.agg #[.bool st, .int .i64 ix], .pointer (some ⟨bx, 0, none⟩)] w fun e w' => Says e (ix < (if st then p.regs else (p.ups.n : Int))) ∧ Below w.heap.size w w' := by
  cases st with
  | true => exact (hu_t w bx pb po p a3 a4 a5 hP hbx hc ix).mono fun e w' ⟨h, hb⟩ => ⟨says_iff h (by simp), hb⟩
  | false => exact (hu_f w bx pb po p a3 a4 a5 hP hbx hc ix).mono fun e w' ⟨h, hb⟩ => ⟨says_iff h (by simp), hb⟩
set_option maxHeartbeats 4000000 in
theorem everyUpV_in (w : World) (bx pb po : Nat) (p : PD) (a3 a4 a5 : Value) (hP : PtrP w pb po p a3 a4 a5) (hbx : bx < w.heap.size) (hc : w.cell? ⟨bx, 0, none⟩ = some (.pointer (some ⟨pb, po, none⟩))) (k9 : PD) (o5 : Option Addr) (c5 : Nat) (hI : IsUps (· < w.heap.size) w (.slice o5 k9.ups.n c5) k9.ups) (hL : k9.ups.n ≤ 1048576) :
    Calls Tryz.prog 152 #[.slice o5 k9.ups.n c5, .func (.func 186) #[] #[.pointer (some ⟨bx, 0, none⟩)]] w fun e w' => Says e (UpsOk k9 p) ∧ Below w.heap.size w w' := by
  have hP9 : Hid (PtrP w pb po p a3 a4 a5) := hP
  have hI9 : Hid (IsUps (· < w.heap.size) w (.slice o5 k9.ups.n c5) k9.ups) := hI
  have hc9 : Hid (w.cell? ⟨bx, 0, none⟩ = some (.pointer (some ⟨pb, po, none⟩))) := hc
  clear hP hI hc
  go_enter Tryz.func152, Tryz.ntmps152
  go_wp2_with fail
  go_loopw [6, 9] (fun _ kv wr => ∃ k : Nat, kv = .int .i64 (k : Int) ∧ k ≤ k9.ups.n ∧ Hid (Below w.heap.size w wr ∧ ∀ i, i < k → (k9.ups.f i).index < (if (k9.ups.f i).stack then p.regs else (p.ups.n : Int)))) (fun _ kv _ => k9.ups.n - (intOf kv).toNat)
  case atStart => exact ⟨0, rfl, by omega, Below.refl _ _, fun j h => absurd h (by omega)⟩
  case round =>
    obtain ⟨k, rfl, hk, hT⟩ := hrel
    obtain ⟨wA, hwA⟩ : ∃ x, x = wr := ⟨_, rfl⟩
    subst hwA
    obtain ⟨hB, hz⟩ := hT.out
    by_cases hkL : k < k9.ups.n
    · have hkI : (k : Int) < (k9.ups.n : Int) := by omega
      obtain ⟨st, hst⟩ : ∃ st, (k9.ups.f k).stack = st := ⟨_, rfl⟩
      obtain ⟨ix, hix⟩ : ∃ ix, (k9.ups.f k).index = ix := ⟨_, rfl⟩
      obtain ⟨bl, ol, rfl, hbl, hcl, hcl1⟩ : ∃ bl ol, o5 = some ⟨bl, ol, none⟩ ∧ bl < wA.heap.size ∧ wA.cell? ⟨bl, ol + k * 2, none⟩ = some (.bool st) ∧ wA.cell? ⟨bl, ol + k * 2 + 1, none⟩ = some (.int .i64 ix) := by
        obtain ⟨b, o, e, hb, hc⟩ := ups_of_cells (IsArr.later hI9.out hB) (by omega)
        exact ⟨b, o, e, hb, by rw [← hst]; exact (hc k hkL).1, by rw [← hix]; exact (hc k hkL).2⟩
      have hic : Hid (∀ y, Below wA.heap.size wA y → Calls Tryz.prog 186 #[.agg #[.bool st, .int .i64 ix], .pointer (some ⟨bx, 0, none⟩)] y fun e w' => Says e (ix < (if st then p.regs else (p.ups.n : Int))) ∧ Below y.heap.size y w') := fun y hy => by
        have hy2 := hB.trans (hy.mono hB.size)
        exact hu_in y bx pb po p a3 a4 a5 (hP9.out.later hy2) (Nat.lt_of_lt_of_le hbx hy2.size) ((hy2.cell (p := ⟨bx, 0, none⟩) hbx).trans hc9.out) st ix
      go_wp2_with fail
      refine (hic.out _ ?_).mono ?_
      · exact (Below.refl _ _).alloc (Nat.le_refl _) _
      rintro e y ⟨⟨r, rfl, hr⟩, b9⟩
      have bF : Below w.heap.size w y := (hB.alloc hB.size _).trans (b9.mono (hB.alloc hB.size _).size)
      clear b9 hic
      cases r with
      | true =>
        have T1 : Hid (Below w.heap.size w y ∧ ∀ i, i < k + 1 → (k9.ups.f i).index < (if (k9.ups.f i).stack then p.regs else (p.ups.n : Int))) := ⟨bF, fun j hj => by by_cases e : j = k; (subst e; rw [hst, hix]; exact hr.1 rfl); exact hz j (by omega)⟩
        replace hst : Hid _ := hst
        replace hix : Hid _ := hix
        clear hr hz hT hB bF
        go_wp2_with fail
        go_roundw
        case rel => exact ⟨k + 1, by go_num, by omega, T1.out⟩
        case measure => simp [intOf]; omega
      | false =>
        have hno : Hid (¬ UpsOk k9 p) := fun h => by have h9 := h k hkL; rw [hst, hix] at h9; simpa using hr.2 h9
        replace hst : Hid _ := hst
        replace hix : Hid _ := hix
        clear hr hz hT hB
        go_wp2_with fail
        go_ret
        exact ⟨says_no hno.out, bF⟩
    · have hkI : ¬ ((k : Int) < (k9.ups.n : Int)) := by omega
      have hyes : Hid (UpsOk k9 p) := fun j hx => hz j (by omega)
      clear hz hT
      go_wp2_with fail
      go_ret
      exact ⟨says_yes hyes.out, hB⟩
theorem hasUpsFor_in (w : World) (pb po : Nat) (p : PD) (a3 a4 a5 : Value) (hP : PtrP w pb po p a3 a4 a5) (kb ko : Nat) (k9 : PD) (b3 b4 b5 : Value) (hK : PtrP w kb ko k9 b3 b4 b5) (hL : k9.ups.n ≤ 1048576) :
    Calls Tryz.prog 165 #[.pointer (some ⟨pb, po, none⟩), .pointer (some ⟨kb, ko, none⟩)] w fun e w' => Says e (UpsOk k9 p) ∧ Below w.heap.size w w' := by
  obtain ⟨o5, c5, rfl⟩ : ∃ o5 c5, b5 = .slice o5 k9.ups.n c5 := by obtain ⟨ao, cp, e, -⟩ := hK.ups; exact ⟨ao, cp, e⟩
  have k5 := hK.c5
  have hkb := hK.lt
  have hP9 : Hid (PtrP w pb po p a3 a4 a5) := hP
  have hK9 : Hid (PtrP w kb ko k9 b3 b4 (.slice o5 k9.ups.n c5)) := hK
  clear hP hK
  go_enter Tryz.func165, Tryz.ntmps165
  go_wp2_with fail
  have R0 := RowL.new w [.pointer (some ⟨pb, po, none⟩)] 83
  have bw : Below w.heap.size w (w.alloc (.cells #[.pointer (some ⟨pb, po, none⟩)] 83)) := (Below.refl _ _).alloc (Nat.le_refl _) _
  generalize w.alloc (.cells #[.pointer (some ⟨pb, po, none⟩)] 83) = w0 at R0 bw ⊢
  refine (everyUpV_in w0 w.heap.size pb po p a3 a4 a5 (hP9.out.later bw) R0.lt (R0.cell 0 rfl) k9 o5 c5 (hK9.out.later bw).ups hL).mono ?_
  rintro e y ⟨⟨r, rfl, hr⟩, b9⟩
  have bF := bw.trans (b9.mono bw.size)
  replace hr : Hid _ := hr
  clear b9 R0
  go_wp2_with fail
  go_ret
  exact ⟨⟨_, rfl, hr.out⟩, bF⟩
end
section
open Go.RowKit Go.Shelf
set_option linter.unusedVariables false
set_option linter.unusedSimpArgs false
set_option maxRecDepth 100000
set_option maxHeartbeats 2000000
attribute [local go_sem] Oper.semAt_some
/-- what a verifier holds of a chunk. -/
structure Ver (w : World) (VB : Nat) (s : Sl PD) (b o cap be oe ce : Nat) : Prop where
  lt : VB < w.heap.size
  c0 : w.cell? ⟨VB, 0, none⟩ = some (.slice (some ⟨b, o, none⟩) s.n cap)
  c1 : w.cell? ⟨VB, 1, none⟩ = some (.slice (some ⟨be, oe, none⟩) s.n ce)
  pr : ∀ k, k < s.n → ∃ ac cc o4 c4 o5 c5 o8 c8 o9 c9, PrAt w b (o + k * 10) (s.f k) ac cc o4 c4 o5 c5 o8 c8 o9 c9
  bl : be < w.heap.size
  en : ∀ i, i < s.n → w.cell? ⟨be, oe + i, none⟩ = some (.int .i64 (EE (kidsOf s) s.n i : Int))
theorem Ver.later {w w' : World} {VB : Nat} {s : Sl PD} {b o cap be oe ce : Nat} (h : Ver w VB s b o cap be oe ce) (hb : Below w.heap.size w w') : Ver w' VB s b o cap be oe ce :=
  ⟨Nat.lt_of_lt_of_le h.lt hb.size, (hb.cell (p := ⟨VB, 0, none⟩) h.lt).trans h.c0, (hb.cell (p := ⟨VB, 1, none⟩) h.lt).trans h.c1, fun k hk => by obtain ⟨_, _, _, _, _, _, _, _, _, _, h⟩ := h.pr k hk; exact ⟨_, _, _, _, _, _, _, _, _, _, h.later hb⟩, Nat.lt_of_lt_of_le h.bl hb.size, fun i hi => (hb.cell (p := ⟨be, oe + i, none⟩) h.bl).trans (h.en i hi)⟩
set_option maxHeartbeats 8000000 in
theorem ut_root (w : World) (VB : Nat) (s : Sl PD) (b o cap be oe ce : Nat) (hV : Ver w VB s b o cap be oe ce) (hw : Wf s) (hk : 0 < s.n) (hu : 0 < (s.f 0).ups.n) :
    Calls Tryz.prog 118 #[.pointer (some ⟨VB, 0, none⟩), .int .i64 0] w fun e w' => Says e (Desc (EE (kidsOf s) s.n) s 0) ∧ Below w.heap.size w w' := by
  have hno : Hid (¬ Desc (EE (kidsOf s) s.n) s 0) := fun h => by have := h.root rfl; omega
  obtain ⟨ac, cc, o4, c4, o5, c5, o8, c8, o9, c9, hp⟩ := hV.pr 0 hk
  have p5 := hp.f5
  rw [Nat.zero_mul, Nat.add_zero] at p5
  have v0 := hV.c0
  have hl := hV.lt
  have hlb := hp.lt
  have hkI : (0 : Int) < (s.n : Int) := by omega
  have hsm := (SmallP.of (hw.each 0 hk)).1
  have huI : (0 : Int) < ((s.f 0).ups.n : Int) := by omega
  have hn := hw.high
  replace hp : Hid _ := hp
  replace hV : Hid _ := hV
  replace hw : Hid _ := hw
  go_enter Tryz.func118, Tryz.ntmps118
  go_wp2_with fail
  go_ret
  exact ⟨says_no hno.out, by go_grown⟩
set_option maxHeartbeats 8000000 in
theorem ut_rest (w : World) (VB : Nat) (s : Sl PD) (b o cap be oe ce : Nat) (hV : Ver w VB s b o cap be oe ce) (hw : Wf s) (k : Nat) (hk : k < s.n) (q : Bool) (hq : ((k : Int) == 0) = q) (hu : Hid (k = 0 → (s.f 0).ups.n = 0)) (hz : Hid (q = true → (s.f k).ups.n = 0)) :
    Calls Tryz.prog 118 #[.pointer (some ⟨VB, 0, none⟩), .int .i64 (k : Int)] w fun e w' => Says e (Desc (EE (kidsOf s) s.n) s k) ∧ Below w.heap.size w w' := by
  obtain ⟨ac, cc, o4, c4, o5, c5, o8, c8, o9, c9, hp⟩ := hV.pr k hk
  have p5 := hp.f5
  have v0 := hV.c0
  have hl := hV.lt
  have hlb := hp.lt
  have hkI : (k : Int) < (s.n : Int) := by omega
  have hsm := (SmallP.of (hw.each k hk)).1
  have hn := hw.high
  have hko := kids_of hw hk
  replace hko : Hid _ := hko
  replace hp : Hid (PrAt w b (o + k * 10) (s.f k) ac cc o4 c4 o5 c5 o8 c8 o9 c9) := hp
  replace hV : Hid (Ver w VB s b o cap be oe ce) := hV
  replace hw : Hid (Wf s) := hw
  have hwk : IntKind.i64.wrap ((k : Int) + 1) = (k : Int) + 1 := by simp [IntKind.wrap, IntKind.bits, IntKind.signed]; omega
  have s0 : Hid (Below w.heap.size w w ∧ ∀ i, i < 0 → UpsOk (s.f (kidAt (EE (kidsOf s) s.n) k i)) (s.f k)) := ⟨Below.refl _ _, fun i h => absurd h (by omega)⟩
  go_enter Tryz.func118, Tryz.ntmps118
  cases q with
  | true =>
    have h0 := hz.out rfl
    rw [h0] at p5 hsm
    replace h0 : Hid _ := h0
    go_wp2_with fail
    go_loopw [6] (fun kv wr => ∃ j : Nat, kv = .int .i64 ((kidAt (EE (kidsOf s) s.n) k j : Nat) : Int) ∧ j ≤ (s.f k).kids.toNat ∧ Hid (Below w.heap.size w wr ∧ ∀ i, i < j → UpsOk (s.f (kidAt (EE (kidsOf s) s.n) k i)) (s.f k))) (fun kv _ => s.n + 1 - (intOf kv).toNat)
    case atStart => exact ⟨0, by show _ = Value.int .i64 ((k + 1 : Nat) : Int); rw [Int.natCast_add]; rfl, by omega, s0.out⟩
    case round =>
      obtain ⟨j, rfl, hj, hT⟩ := hrel
      obtain ⟨wA, hwA⟩ : ∃ x, x = wr := ⟨_, rfl⟩
      subst hwA
      clear s0
      obtain ⟨hB, hU⟩ := hT.out
      have hVA := hV.out.later hB
      have w0 := hVA.c0
      have w1 := hVA.c1
      have hlA := hVA.lt
      have hbe := hVA.bl
      have en := hVA.en k hk
      obtain ⟨x, hx9⟩ : ∃ x, kidAt (EE (kidsOf s) s.n) k j = x := ⟨_, rfl⟩
      rw [hx9]
      obtain ⟨ek, hek⟩ : ∃ ek, EE (kidsOf s) s.n k = ek := ⟨_, rfl⟩
      rw [hek] at en
      have hE2 := hko.out.2.2.1
      have hE3 := hko.out.2.2.2.1
      rw [hek] at hE2 hE3
      by_cases hlt : j < (s.f k).kids.toNat
      · have hxx := hko.out.2.2.2.2.2 j hlt
        rw [hx9, hek] at hxx
        have hxn : x < s.n := by omega
        have hxI : (x : Int) < (s.n : Int) := by omega
        have hxe : (x : Int) < (ek : Int) := by omega
        have hkx := kids_of hw.out hxn
        have enx := hVA.en x hxn
        obtain ⟨ex, hex⟩ : ∃ ex, EE (kidsOf s) s.n x = ex := ⟨_, rfl⟩
        rw [hex] at enx
        have hx1 := hkx.2.1
        have hx2 := hkx.2.2.1
        rw [hex] at hx1 hx2
        obtain ⟨ac', cc', o4', c4', o5', c5', o8', c8', o9', c9', hq9⟩ := hVA.pr x hxn
        have hhu : Hid (Calls Tryz.prog 165 #[.pointer (some ⟨b, o + k * 10, none⟩), .pointer (some ⟨b, o + x * 10, none⟩)] wA fun e w' => Says e (UpsOk (s.f x) (s.f k)) ∧ Below wA.heap.size wA w') := hasUpsFor_in wA b (o + k * 10) (s.f k) _ _ _ (hp.out.later hB).ptr b (o + x * 10) (s.f x) _ _ _ hq9.ptr (SmallP.of (hw.out.each x hxn)).1
        replace hx9 : Hid (kidAt (EE (kidsOf s) s.n) k j = x) := hx9
        replace hek : Hid (EE (kidsOf s) s.n k = ek) := hek
        replace hex : Hid (EE (kidsOf s) s.n x = ex) := hex
        replace hVA : Hid (Ver wA VB s b o cap be oe ce) := hVA
        clear hq9 hkx hE3
        go_wp2_with fail
        refine hhu.out.mono ?_
        rintro e y ⟨⟨r, rfl, hr⟩, b9⟩
        have bF := hB.trans (b9.mono hB.size)
        have y1 := (b9.cell (p := ⟨VB, 1, none⟩) hlA).trans w1
        have hly := Nat.lt_of_lt_of_le hlA b9.size
        have hbey := Nat.lt_of_lt_of_le hbe b9.size
        have eny := (b9.cell (p := ⟨be, oe + x, none⟩) hbe).trans enx
        clear b9 hhu w0 w1 en enx
        cases r with
        | true =>
          have T1 : Hid (Below w.heap.size w y ∧ ∀ i, i < j + 1 → UpsOk (s.f (kidAt (EE (kidsOf s) s.n) k i)) (s.f k)) := ⟨bF, fun i hi => by by_cases e : i = j; (subst e; rw [hx9.out]; exact hr.1 rfl); exact hU i (by omega)⟩
          have hnx : Hid (kidAt (EE (kidsOf s) s.n) k (j + 1) = ex) := by show EE (kidsOf s) s.n (kidAt (EE (kidsOf s) s.n) k j) = ex; rw [hx9.out, hex.out]
          clear hr hU hT hB bF
          go_wp2_with fail
          go_roundw
          case rel => exact ⟨j + 1, by rw [hnx.out], by omega, T1.out⟩
          case measure => simp [intOf]; omega
        | false =>
          have hno : Hid (¬ Desc (EE (kidsOf s) s.n) s k) := fun h => by have h7 := h.kids j (by omega); rw [hx9.out] at h7; simpa using hr.2 h7
          clear hr hU hT hB
          go_wp2_with fail
          go_ret
          exact ⟨says_no hno.out, bF⟩
      · have hjk : j = (s.f k).kids.toNat := by omega
        have hyes : Hid (Desc (EE (kidsOf s) s.n) s k) := ⟨fun h => by subst h; exact hu.out rfl, fun i hi => hU i (by omega)⟩
        have hxe : ¬ ((x : Int) < (ek : Int)) := by rw [← hjk, hx9] at hE3; omega
        replace hx9 : Hid _ := hx9
        replace hek : Hid _ := hek
        replace hjk : Hid _ := hjk
        clear hT hU hE3
        go_wp2_with fail
        go_ret
        exact ⟨says_yes hyes.out, hB⟩
  | false =>
    go_wp2_with fail
    go_loopw [6] (fun kv wr => ∃ j : Nat, kv = .int .i64 ((kidAt (EE (kidsOf s) s.n) k j : Nat) : Int) ∧ j ≤ (s.f k).kids.toNat ∧ Hid (Below w.heap.size w wr ∧ ∀ i, i < j → UpsOk (s.f (kidAt (EE (kidsOf s) s.n) k i)) (s.f k))) (fun kv _ => s.n + 1 - (intOf kv).toNat)
    case atStart => exact ⟨0, by show _ = Value.int .i64 ((k + 1 : Nat) : Int); rw [Int.natCast_add]; rfl, by omega, s0.out⟩
    case round =>
      obtain ⟨j, rfl, hj, hT⟩ := hrel
      obtain ⟨wA, hwA⟩ : ∃ x, x = wr := ⟨_, rfl⟩
      subst hwA
      clear s0
      obtain ⟨hB, hU⟩ := hT.out
      have hVA := hV.out.later hB
      have w0 := hVA.c0
      have w1 := hVA.c1
      have hlA := hVA.lt
      have hbe := hVA.bl
      have en := hVA.en k hk
      obtain ⟨x, hx9⟩ : ∃ x, kidAt (EE (kidsOf s) s.n) k j = x := ⟨_, rfl⟩
      rw [hx9]
      obtain ⟨ek, hek⟩ : ∃ ek, EE (kidsOf s) s.n k = ek := ⟨_, rfl⟩
      rw [hek] at en
      have hE2 := hko.out.2.2.1
      have hE3 := hko.out.2.2.2.1
      rw [hek] at hE2 hE3
      by_cases hlt : j < (s.f k).kids.toNat
      · have hxx := hko.out.2.2.2.2.2 j hlt
        rw [hx9, hek] at hxx
        have hxn : x < s.n := by omega
        have hxI : (x : Int) < (s.n : Int) := by omega
        have hxe : (x : Int) < (ek : Int) := by omega
        have hkx := kids_of hw.out hxn
        have enx := hVA.en x hxn
        obtain ⟨ex, hex⟩ : ∃ ex, EE (kidsOf s) s.n x = ex := ⟨_, rfl⟩
        rw [hex] at enx
        have hx1 := hkx.2.1
        have hx2 := hkx.2.2.1
        rw [hex] at hx1 hx2
        obtain ⟨ac', cc', o4', c4', o5', c5', o8', c8', o9', c9', hq9⟩ := hVA.pr x hxn
        have hhu : Hid (Calls Tryz.prog 165 #[.pointer (some ⟨b, o + k * 10, none⟩), .pointer (some ⟨b, o + x * 10, none⟩)] wA fun e w' => Says e (UpsOk (s.f x) (s.f k)) ∧ Below wA.heap.size wA w') := hasUpsFor_in wA b (o + k * 10) (s.f k) _ _ _ (hp.out.later hB).ptr b (o + x * 10) (s.f x) _ _ _ hq9.ptr (SmallP.of (hw.out.each x hxn)).1
        replace hx9 : Hid (kidAt (EE (kidsOf s) s.n) k j = x) := hx9
        replace hek : Hid (EE (kidsOf s) s.n k = ek) := hek
        replace hex : Hid (EE (kidsOf s) s.n x = ex) := hex
        replace hVA : Hid (Ver wA VB s b o cap be oe ce) := hVA
        clear hq9 hkx hE3
        go_wp2_with fail
        refine hhu.out.mono ?_
        rintro e y ⟨⟨r, rfl, hr⟩, b9⟩
        have bF := hB.trans (b9.mono hB.size)
        have y1 := (b9.cell (p := ⟨VB, 1, none⟩) hlA).trans w1
        have hly := Nat.lt_of_lt_of_le hlA b9.size
        have hbey := Nat.lt_of_lt_of_le hbe b9.size
        have eny := (b9.cell (p := ⟨be, oe + x, none⟩) hbe).trans enx
        clear b9 hhu w0 w1 en enx
        cases r with
        | true =>
          have T1 : Hid (Below w.heap.size w y ∧ ∀ i, i < j + 1 → UpsOk (s.f (kidAt (EE (kidsOf s) s.n) k i)) (s.f k)) := ⟨bF, fun i hi => by by_cases e : i = j; (subst e; rw [hx9.out]; exact hr.1 rfl); exact hU i (by omega)⟩
          have hnx : Hid (kidAt (EE (kidsOf s) s.n) k (j + 1) = ex) := by show EE (kidsOf s) s.n (kidAt (EE (kidsOf s) s.n) k j) = ex; rw [hx9.out, hex.out]
          clear hr hU hT hB bF
          go_wp2_with fail
          go_roundw
          case rel => exact ⟨j + 1, by rw [hnx.out], by omega, T1.out⟩
          case measure => simp [intOf]; omega
        | false =>
          have hno : Hid (¬ Desc (EE (kidsOf s) s.n) s k) := fun h => by have h7 := h.kids j (by omega); rw [hx9.out] at h7; simpa using hr.2 h7
          clear hr hU hT hB
          go_wp2_with fail
          go_ret
          exact ⟨says_no hno.out, bF⟩
      · have hjk : j = (s.f k).kids.toNat := by omega
        have hyes : Hid (Desc (EE (kidsOf s) s.n) s k) := ⟨fun h => by subst h; exact hu.out rfl, fun i hi => hU i (by omega)⟩
        have hxe : ¬ ((x : Int) < (ek : Int)) := by rw [← hjk, hx9] at hE3; omega
        replace hx9 : Hid _ := hx9
        replace hek : Hid _ := hek
        replace hjk : Hid _ := hjk
        clear hT hU hE3
        go_wp2_with fail
        go_ret
        exact ⟨says_yes hyes.out, hB⟩
theorem upsThere_in (w : World) (VB : Nat) (s : Sl PD) (b o cap be oe ce : Nat) (hV : Ver w VB s b o cap be oe ce) (hw : Wf s) (k : Nat) (hk : k < s.n) :
    Calls Tryz.prog 118 #[.pointer (some ⟨VB, 0, none⟩), .int .i64 (k : Int)] w fun e w' => Says e (Desc (EE (kidsOf s) s.n) s k) ∧ Below w.heap.size w w' := by
  by_cases h0 : k = 0
  · subst h0
    by_cases hu : 0 < (s.f 0).ups.n
    · exact ut_root w VB s b o cap be oe ce hV hw hk hu
    · exact ut_rest w VB s b o cap be oe ce hV hw 0 hk true (by simp) (show Hid _ from fun _ => by omega) (show Hid _ from fun _ => by omega)
  · exact ut_rest w VB s b o cap be oe ce hV hw k hk false (by simp; omega) (show Hid _ from fun h => absurd h h0) (show Hid _ from fun h => by simp at h)
end
section
open Go.RowKit Go.Shelf
set_option linter.unusedVariables false
set_option linter.unusedSimpArgs false
set_option maxRecDepth 100000
set_option maxHeartbeats 2000000
/-- the nine checks, as they lie in memory. -/
def ckL : List Value := [.int .i64 1, .func (.func 109) #[] #[], .int .i64 2, .func (.func 110) #[] #[], .int .i64 3, .func (.func 111) #[] #[], .int .i64 4, .func (.func 112) #[] #[], .int .i64 5, .func (.func 113) #[] #[], .int .i64 6, .func (.func 114) #[] #[], .int .i64 7, .func (.func 115) #[] #[], .int .i64 8, .func (.func 116) #[] #[], .int .i64 9, .func (.func 117) #[] #[]]
theorem allChecks_in (w : World) : Calls Tryz.prog 42 #[] w fun e w' => e = .returned (.slice (some ⟨w.heap.size, 0, none⟩) 9 9) ∧ RowL w' w.heap.size 162 ckL ∧ Below w.heap.size w w' := by
  go_enter Tryz.func42, Tryz.ntmps42
  go_wp2_with fail
  go_ret
  exact ⟨rfl, RowL.new w ckL 162, by go_grown⟩
/-- a report that is so. -/
def SaysR (e : Ending) (R : Int → Int → Int → Prop) : Prop := ∃ c pr pc, e = .returned (.agg #[.int .i64 c, .int .i64 pr, .int .i64 pc]) ∧ R c pr pc
theorem prt_self {z : Int} (hz : 0 ≤ z) : Prt z (opW z).toNat (aW z) (bW z) (cW z) (sW z) := by
  have h : 0 ≤ opW z := by unfold opW; omega
  exact ⟨by omega, rfl, rfl, rfl, rfl⟩
theorem topOk_iff {p : PD} {t : Nat} {x : Int} (h : TopAt p.code t x) : TopOk p t ↔ (x = -2 ∨ ((takesW (p.code.f t) → fromW (p.code.f t) ≤ x) ∧ (¬ takesW (p.code.f t) → x = -1))) :=
  ⟨fun g => g x h, fun g v hv => by rw [hv.det h]; exact g⟩
set_option maxHeartbeats 8000000 in
theorem second_in (w : World) (VB : Nat) (s : Sl PD) (b o cap be oe ce : Nat) (hV : Ver w VB s b o cap be oe ce) (hw : Wf s) (hU : UsO w VB 2) (hS : Spans w) (hC : CodeB s) (k : Nat) (hk : k < s.n) :
    Calls Tryz.prog 44 #[.pointer (some ⟨VB, 0, none⟩), .int .i64 (k : Int)] w fun e w' => SaysR e (Rep2 s k) ∧ Below w.heap.size w w' := by
  obtain ⟨ac, cc, o4, c4, o5, c5, o8, c8, o9, c9, hp⟩ := hV.pr k hk
  have v0 := hV.c0
  have hl := hV.lt
  have hkI : (k : Int) < (s.n : Int) := by omega
  obtain ⟨-, -, hn2, hn0⟩ := SmallP.of (hw.each k hk)
  have hcb : Hid (∀ i, i < (s.f k).code.n → 0 ≤ (s.f k).code.f i ∧ (s.f k).code.f i ≤ 4294967295) := hC k hk
  have hn := hw.high
  obtain ⟨p, hpd⟩ : ∃ p, s.f k = p := ⟨_, rfl⟩
  rw [hpd] at hp hn2 hn0 hcb
  replace hpd : Hid (s.f k = p) := hpd
  have hpp : Hid (PtrP w b (o + k * 10) p (.slice ac p.code.n cc) (.slice o4 p.consts.n c4) (.slice o5 p.ups.n c5)) := hp.ptr
  replace hV : Hid (Ver w VB s b o cap be oe ce) := hV
  replace hw : Hid (Wf s) := hw
  replace hU : Hid (UsO w VB 2) := hU
  replace hS : Hid (Spans w) := hS
  clear hC hp
  go_enter Tryz.func44, Tryz.ntmps44
  go_wp2_with fail
  have R0 := RowL.new w [.int .i64 0, .int .i64 0, .int .i64 0] 41
  have bw : Below w.heap.size w (w.alloc (.cells #[.int .i64 0, .int .i64 0, .int .i64 0] 41)) := (Below.refl _ _).alloc (Nat.le_refl _) _
  generalize w.alloc (.cells #[.int .i64 0, .int .i64 0, .int .i64 0] 41) = w0 at R0 bw ⊢
  refine (topsOf_in w0 b (o + k * 10) VB 2 p _ _ _ (hpp.out.later bw) (hS.out.below bw) (hU.out.later hl bw) (Nat.lt_of_lt_of_le hl bw.size) hcb.out hn2 hn0).mono ?_
  rintro e y ⟨rfl, b9, f, hf, hT⟩
  replace R0 := R0.call b9
  replace bw := bw.trans (b9.mono bw.size)
  clear b9
  replace hT : Hid (∀ t, t < p.code.n → TopAt p.code t (f t)) := hT
  generalize w0.heap.size = TB at hf ⊢
  have s0 : Hid (RowL y w.heap.size 41 [.int .i64 0, .int .i64 0, .int .i64 0] ∧ y.rowIs TB 3 p.code.n (fun i => .int .i64 (f i)) ∧ Below w.heap.size w y ∧ ∀ j, j < 0 → TopF p j 0) := ⟨R0, hf, bw, fun i h => absurd h (by omega)⟩
  clear R0 hf bw v0
  go_wp2_with fail
  go_loopw [6, 7, 20] (fun _ _ kv wr => ∃ q : Nat, kv = .int .i64 (q : Int) ∧ q ≤ p.code.n ∧ Hid (RowL wr w.heap.size 41 [.int .i64 0, .int .i64 0, .int .i64 0] ∧ wr.rowIs TB 3 p.code.n (fun i => .int .i64 (f i)) ∧ Below w.heap.size w wr ∧ ∀ j, j < q → TopF p j 0)) (fun _ _ kv _ => p.code.n - (intOf kv).toNat)
  case atStart => exact ⟨0, rfl, by omega, s0.out⟩
  case round =>
    obtain ⟨q, rfl, hq, hT9⟩ := hrel
    obtain ⟨wA, hwA⟩ : ∃ x, x = wr := ⟨_, rfl⟩
    subst hwA
    clear s0
    obtain ⟨hR, hf, hB, hG⟩ := hT9.out
    by_cases hlt : q < p.code.n
    · have hqI : (q : Int) < (p.code.n : Int) := by omega
      have hf0 := World.rowIs.cell hf hlt
      have hTB := World.rowIs.lt hf
      obtain ⟨x, hx⟩ : ∃ x, f q = x := ⟨_, rfl⟩
      have hta := hT.out q hlt
      rw [hx] at hta
      replace hf0 : wA.cell? ⟨TB, q, none⟩ = some (.int .i64 x) := by rw [← hx]; exact hf0
      have hI := topOk_iff hta
      obtain ⟨z, hz⟩ : ∃ z, p.code.f q = z := ⟨_, rfl⟩
      have hcz := hcb.out q hlt
      rw [hz] at hI hcz
      have hpl := placeAt_in wA b (o + k * 10) VB 2 p _ _ _ q z (hpp.out.later hB) (hS.out.below hB) hlt hn2 hz hcz.1 hcz.2
      have ho64 : (opW z).toNat < 64 := by have h : opW z < 64 := (by unfold opW; omega); omega
      have htf : Hid (∀ y, Below wA.heap.size wA y → Calls Tryz.prog 119 #[plV b (o + k * 10) VB 2 q z, .int .i64 x] y fun e w' => Says e (TopOk p q) ∧ Below y.heap.size y w') := fun y hy => by
        have hy2 := hB.trans (hy.mono hB.size)
        have h := topFits_in y b (o + k * 10) VB 2 q _ _ _ _ _ (hU.out.later hl hy2) (Nat.lt_of_lt_of_le hl hy2.size) ho64 (by unfold aW; omega) (by unfold aW; omega) z (prt_self hcz.1) x
        rw [← plV_eq (prt_self hcz.1)] at h
        exact h.mono fun e w' ⟨h, hb⟩ => ⟨says_iff h hI.symm, hb⟩
      replace hx : Hid (f q = x) := hx
      replace hz : Hid (p.code.f q = z) := hz
      replace hI : Hid _ := hI
      have hlA := hR.lt
      have hlV := Nat.lt_of_lt_of_le hl hB.size
      clear hta
      go_wp2_with fail
      refine hpl.mono ?_
      rintro e y1 ⟨rfl, b1⟩
      go_wp2_with fail
      refine (htf.out y1 b1).mono ?_
      rintro e y2 ⟨⟨r, rfl, hr⟩, b2⟩
      have b3 := b1.trans (b2.mono b1.size)
      have RF := hR.call b3
      have fF : y2.rowIs TB 3 p.code.n (fun i => .int .i64 (f i)) := World.rowIs.of_block hf (b3.block _ hTB)
      have bF := hB.trans (b3.mono hB.size)
      clear hpl htf b1 b2 b3 hf0
      cases r with
      | true =>
        have T1 : Hid (RowL y2 w.heap.size 41 [.int .i64 0, .int .i64 0, .int .i64 0] ∧ y2.rowIs TB 3 p.code.n (fun i => .int .i64 (f i)) ∧ Below w.heap.size w y2 ∧ ∀ j, j < q + 1 → TopF p j 0) := ⟨RF, fF, bF, fun i hi => by by_cases e : i = q; (subst e; exact .inl ⟨hr.1 rfl, rfl⟩); exact hG i (by omega)⟩
        clear hr hG hT9 hR hf hB RF fF bF
        go_wp2_with fail
        go_roundw
        case rel => exact ⟨q + 1, by go_num, by omega, T1.out⟩
        case measure => simp [intOf]; omega
      | false =>
        have hno : Hid (Rep2 s k 10 k q) := ⟨q, 10, .inl ⟨by rw [hpd.out]; exact hlt, by decide, by rw [hpd.out]; exact .inr ⟨fun h => by simpa using hr.2 h, rfl⟩, fun j hj => by rw [hpd.out]; exact hG j hj⟩, .inl ⟨by decide, rfl, rfl, rfl⟩⟩
        have e0 := RF.cell 0 rfl
        have e1 := RF.cell 1 rfl
        have e2 := RF.cell 2 rfl
        have ef := RF.frozen
        have hq2 := RF.lt
        have L := (((RF.set 0 (.int .i64 10)).set 1 (.int .i64 (k : Int))).set 2 (.int .i64 (q : Int)))
        have bf := (Below.setCell (Below.setCell (Below.setCell bF (p := ⟨w.heap.size, 0, none⟩) (Nat.le_refl _) (.int .i64 10)) (p := ⟨w.heap.size, 1, none⟩) (Nat.le_refl _) (.int .i64 (k : Int))) (p := ⟨w.heap.size, 2, none⟩) (Nat.le_refl _) (.int .i64 (q : Int)))
        have l0 := L.cell 0 rfl
        have l1 := L.cell 1 rfl
        have l2 := L.cell 2 rfl
        replace L : Hid _ := L
        replace RF : Hid _ := RF
        clear hr hG hT9 hR hf hB fF
        go_wp2_with fail
        refine bodyPost_ret (v := .agg #[.int .i64 10, .int .i64 (k : Int), .int .i64 (q : Int)]) ?_ rfl ⟨⟨_, _, _, rfl, hno.out⟩, bf⟩
        simp [results, Tryz.results44, go_sem, l0, l1, l2]
    · have hqI : ¬ ((q : Int) < (p.code.n : Int)) := by omega
      have hyes : Hid (Rep2 s k 0 0 0) := ⟨p.code.n, 0, .inr ⟨by rw [hpd.out], rfl, fun j hj => by rw [hpd.out] at hj ⊢; exact hG j (by omega)⟩, .inr ⟨rfl, rfl, rfl, rfl⟩⟩
      have e0 := hR.cell 0 rfl
      have e1 := hR.cell 1 rfl
      have e2 := hR.cell 2 rfl
      have ef := hR.frozen
      have hq2 := hR.lt
      have L := (((hR.set 0 (.int .i64 0)).set 1 (.int .i64 0)).set 2 (.int .i64 0))
      have bf := (Below.setCell (Below.setCell (Below.setCell hB (p := ⟨w.heap.size, 0, none⟩) (Nat.le_refl _) (.int .i64 0)) (p := ⟨w.heap.size, 1, none⟩) (Nat.le_refl _) (.int .i64 0)) (p := ⟨w.heap.size, 2, none⟩) (Nat.le_refl _) (.int .i64 0))
      have l0 := L.cell 0 rfl
      have l1 := L.cell 1 rfl
      have l2 := L.cell 2 rfl
      replace L : Hid _ := L
      clear hT9 hG hf
      go_wp2_with fail
      refine bodyPost_ret (v := .agg #[.int .i64 0, .int .i64 0, .int .i64 0]) ?_ rfl ⟨⟨_, _, _, rfl, hyes.out⟩, bf⟩
      simp [results, Tryz.results44, go_sem, l0, l1, l2]
end
end Go.Proofs.YtckapapejfnojaaGreatDoor

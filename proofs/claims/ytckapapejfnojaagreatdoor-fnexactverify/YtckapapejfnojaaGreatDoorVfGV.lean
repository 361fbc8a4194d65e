import Derived.Deep.QuietTactic
import Derived.BigQuiet
import Derived.Deep.Cut
import Derived.Deep.RegionHeld3
import Derived.Test.YtckapapejfnojaaGreatDoorGAV
import Derived.Test.YtckapapejfnojaaGreatDoorTpAV
import Derived.Test.YtckapapejfnojaaGreatDoorVfFV
import Derived.Test.YtckapapejfnojaaGreatDoorVfDV
namespace Go.Proofs.YtckapapejfnojaaGreatDoor
open Go.RowKit
set_option linter.unusedVariables false
set_option linter.unusedSimpArgs false
set_option maxRecDepth 100000
set_option maxHeartbeats 1000000
theorem endOk_iff {p : PD} {pc : Nat} {z : Int} (hj : JumpOk p pc z) (hpc : pc < p.code.n) : EndOk p pc z ↔ ∀ (j : Nat) (x : Int), (folW (pc : Int) z)[j]? = some x → ¬ ((pc : Int) < x ∧ x ≤ (pc : Int) + 2 ∧ (p.code.n : Int) ≤ x) := by
  unfold JumpOk tgt at hj
  constructor
  · intro h j x hx
    have h1 := h.one
    have h2 := h.two
    have hm := List.mem_of_getElem? hx
    unfold folW at hm
    split at hm
    · simp at hm
    · split at hm
      · simp at hm; have := hj (by omega); omega
      · split at hm
        · simp at hm; have := hj (by omega); have := h1 (by omega) (by omega) (by omega); omega
        · split at hm
          · simp at hm; have := h2 (by omega); omega
          · simp at hm; have := h1 (by omega) (by omega) (by omega); omega
  · intro h
    have key : ∀ x, x ∈ folW (pc : Int) z → ¬ ((pc : Int) < x ∧ x ≤ (pc : Int) + 2 ∧ (p.code.n : Int) ≤ x) := fun x hx => by
      obtain ⟨j, hj, rfl⟩ := List.getElem_of_mem hx
      exact h j _ (List.getElem?_eq_getElem hj)
    refine ⟨fun a1 a2 a3 => ?_, fun a1 => ?_⟩
    · have hm : (pc : Int) + 1 ∈ folW (pc : Int) z := by
        unfold folW
        rw [if_neg (by omega), if_neg (by omega)]
        split
        · simp
        · split <;> simp
      have := key _ hm
      omega
    · have hm : (pc : Int) + 2 ∈ folW (pc : Int) z := by
        unfold folW
        rw [if_neg (by omega), if_neg (by omega), if_neg (by omega), if_pos (by omega)]
        simp
      have := key _ hm
      omega
theorem hasJ : ∀ n, n < 34 → (n = 18 ∨ n = 27 ∨ n = 28 → hasC (useS n) 106 = true) ∧ (¬ (n = 18 ∨ n = 27 ∨ n = 28) → hasC (useS n) 106 = false) := by decide
theorem folO_len9 (pc op s : Int) : (folO pc op s).length ≤ 2 := by
  unfold folO
  repeat' split
  all_goals simp
/-- a number and the others are as the word has them. -/
structure Prt (z : Int) (n : Nat) (a b c s : Int) : Prop where
  n : opW z = (n : Int)
  a : aW z = a
  b : bW z = b
  c : cW z = c
  s : sW z = s
theorem Thing.to {p : PD} {z : Int} {n : Nat} {a b c s t : Int} (hp : Prt z n a b c s) (h : Thing n b s p t) : (t ≠ 0 ∧ ∀ rest, Chain ((4, ConstOk p z) :: (5, UpOk p z) :: (6, KidOk p z) :: rest) t) ∨ (t = 0 ∧ ConstOk p z ∧ UpOk p z ∧ KidOk p z) := by
  have e1 : (n = 1 → 0 ≤ s ∧ s < (p.consts.n : Int)) ↔ ConstOk p z := by
    unfold ConstOk; rw [hp.n, hp.s]; constructor <;> intro h h' <;> exact h (by omega)
  have e2 : (n = 4 ∨ n = 5 → b < (p.ups.n : Int)) ↔ UpOk p z := by
    unfold UpOk; rw [hp.n, hp.b]; constructor <;> intro h h' <;> exact h (by omega)
  have e3 : (n = 25 → 0 ≤ s ∧ s < p.kids) ↔ KidOk p z := by
    unfold KidOk; rw [hp.n, hp.s]; constructor <;> intro h h' <;> exact h (by omega)
  rcases h with ⟨h1, rfl⟩ | ⟨h1, ⟨h2, rfl⟩ | ⟨h2, ⟨h3, rfl⟩ | ⟨h3, h4⟩⟩⟩
  · exact .inl ⟨by omega, fun _ => .inl ⟨fun h => h1 (e1.2 h), rfl⟩⟩
  · exact .inl ⟨by omega, fun _ => .inr ⟨e1.1 h1, .inl ⟨fun h => h2 (e2.2 h), rfl⟩⟩⟩
  · exact .inl ⟨by omega, fun _ => .inr ⟨e1.1 h1, .inr ⟨e2.1 h2, .inl ⟨fun h => h3 (e3.2 h), rfl⟩⟩⟩⟩
  · exact .inr ⟨h4, e1.1 h1, e2.1 h2, e3.1 h3⟩
theorem pairN_iff {p : PD} {pc : Nat} {z : Int} {n : Nat} {a b c s : Int} (hp : Prt z n a b c s) : PairN p pc n a s ↔ PairOk p pc z := by
  constructor
  · intro h
    refine ⟨fun h' => h.jump (by rw [hp.n] at h'; omega), fun h' => ?_⟩
    obtain ⟨t, h1, h2, h3, h4, h5⟩ := h.loop (by rw [hp.n] at h'; omega)
    exact ⟨t, by unfold tgt; rw [hp.s]; omega, h2, h3, by rw [hp.a]; exact h4, h5⟩
  · intro h
    refine ⟨fun h' => h.jump (by rw [hp.n]; omega), fun h' => ?_⟩
    obtain ⟨t, h1, h2, h3, h4, h5⟩ := h.loop (by rw [hp.n]; omega)
    unfold tgt at h1
    rw [hp.s] at h1
    exact ⟨t, by omega, h2, h3, by rw [hp.a] at h4; exact h4, h5⟩
set_option maxHeartbeats 8000000 in
theorem l4Fault_in (p : PD) (ac : Option Addr) (cc : Nat) (o4 : Option Addr) (c4 : Nat) (o5 : Option Addr) (c5 : Nat) (o8 : Option Addr) (c8 : Nat) (o9 : Option Addr) (c9 : Nat) (pc : Nat) (w : World) (hcode : IsInts .u32 (· < w.heap.size) w (.slice ac p.code.n cc) p.code) (hcb : ∀ i, i < p.code.n → 0 ≤ p.code.f i ∧ p.code.f i ≤ 4294967295) (hn0 : 0 < p.code.n) (hn2 : p.code.n ≤ 2000) (hpc : pc < p.code.n) (hco : p.consts.n ≤ 1048576) (hup : p.ups.n ≤ 1048576) :
    Calls Tryz.prog 36 #[prV p ac cc o4 c4 o5 c5 o8 c8 o9 c9, .int .i64 (pc : Int)] w fun e w' => (∃ c, e = .returned (.int .i64 c) ∧ Flt p pc c) ∧ Below w.heap.size w w' := by
  obtain ⟨bc, oc, rfl, hbc, hcw⟩ := words_of hcode hn0
  obtain ⟨z, hz⟩ : ∃ z, p.code.f pc = z := ⟨_, rfl⟩
  have hcz := hcw pc hpc
  rw [hz] at hcz
  have hz12 := hcb pc hpc
  rw [hz] at hz12
  have hz1 := hz12.1
  have hz2 := hz12.2
  obtain ⟨n, a, b, c, s, hp⟩ : ∃ (n : Nat) (a b c s : Int), Prt z n a b c s := ⟨(opW z).toNat, aW z, bW z, cW z, sW z, by unfold opW; omega, rfl, rfl, rfl, rfl⟩
  have hC : Hid (∀ c, Chain (chainOf p pc z) c → Flt p pc c) := fun c h => by unfold Flt; rw [hz]; exact h
  have a1 : 0 ≤ a := by rw [← hp.a]; unfold aW; omega
  have a2 : a ≤ 255 := by rw [← hp.a]; unfold aW; omega
  have b1 : 0 ≤ b := by rw [← hp.b]; unfold bW; omega
  have b2 : b ≤ 511 := by rw [← hp.b]; unfold bW; omega
  have c1 : 0 ≤ c := by rw [← hp.c]; unfold cW; omega
  have c2 : c ≤ 511 := by rw [← hp.c]; unfold cW; omega
  have s1 : -1000000 ≤ s := by rw [← hp.s]; unfold sW bW cW; omega
  have s2 : s ≤ 1000000 := by rw [← hp.s]; unfold sW bW cW; omega
  have n2 : n ≤ 63 := by have := hp.n; unfold opW at this; omega
  have hpI : (pc : Int) < (p.code.n : Int) := by omega
  have hpJ : (pc : Int) ≤ 2000 := by omega
  replace hcode : Hid (IsInts .u32 (· < w.heap.size) w (.slice (some ⟨bc, oc, none⟩) p.code.n cc) p.code) := hcode
  replace hz : Hid (p.code.f pc = z) := hz
  replace hcb : Hid (∀ i, i < p.code.n → 0 ≤ p.code.f i ∧ p.code.f i ≤ 4294967295) := hcb
  clear hcw hz12
  go_enter Tryz.func36, Tryz.ntmps36
  go_wp2_with fail
  have P0 := RowL.new w [.int .i64 p.params, .bool p.vararg, .int .i64 p.regs, .slice (some ⟨bc, oc, none⟩) p.code.n cc, .slice o4 p.consts.n c4, .slice o5 p.ups.n c5, .int .i64 p.kids, .string p.name, .slice o8 p.lines.n c8, .slice o9 p.upNames.n c9] 52
  have bw : Below w.heap.size w (w.alloc (.cells #[.int .i64 p.params, .bool p.vararg, .int .i64 p.regs, .slice (some ⟨bc, oc, none⟩) p.code.n cc, .slice o4 p.consts.n c4, .slice o5 p.ups.n c5, .int .i64 p.kids, .string p.name, .slice o8 p.lines.n c8, .slice o9 p.upNames.n c9] 52)) := (Below.refl _ _).alloc (Nat.le_refl _) _
  generalize w.alloc (.cells #[.int .i64 p.params, .bool p.vararg, .int .i64 p.regs, .slice (some ⟨bc, oc, none⟩) p.code.n cc, .slice o4 p.consts.n c4, .slice o5 p.ups.n c5, .int .i64 p.kids, .string p.name, .slice o8 p.lines.n c8, .slice o9 p.upNames.n c9] 52) = w0 at P0 bw ⊢
  refine (unpackS z _ hz1 hz2).mono ?_
  rintro e y ⟨rfl, b9⟩
  replace P0 := P0.call b9
  replace bw := bw.trans (b9.mono bw.size)
  clear b9
  rw [hp.n, hp.a, hp.b, hp.c, hp.s]
  have I0 := RowL.new y [.int .i64 (n : Int), .int .i64 a, .int .i64 b, .int .i64 c, .int .i64 s] 88
  have bx : Below y.heap.size y (y.alloc (.cells #[.int .i64 (n : Int), .int .i64 a, .int .i64 b, .int .i64 c, .int .i64 s] 88)) := (Below.refl _ _).alloc (Nat.le_refl _) _
  have P1 := P0.call bx
  have bw1 := bw.trans (bx.mono bw.size)
  have hly := P0.lt
  clear bx P0 bw
  replace hp : Hid (Prt z n a b c s) := hp
  have bw9 : Hid (Below w.heap.size w (y.alloc (.cells #[.int .i64 (n : Int), .int .i64 a, .int .i64 b, .int .i64 c, .int .i64 s] 88))) := bw1
  replace P1 : Hid (RowL (y.alloc (.cells #[.int .i64 (n : Int), .int .i64 a, .int .i64 b, .int .i64 c, .int .i64 s] 88)) w.heap.size 52 [.int .i64 p.params, .bool p.vararg, .int .i64 p.regs, .slice (some ⟨bc, oc, none⟩) p.code.n cc, .slice o4 p.consts.n c4, .slice o5 p.ups.n c5, .int .i64 p.kids, .string p.name, .slice o8 p.lines.n c8, .slice o9 p.upNames.n c9]) := P1
  replace I0 : Hid (RowL (y.alloc (.cells #[.int .i64 (n : Int), .int .i64 a, .int .i64 b, .int .i64 c, .int .i64 s] 88)) y.heap.size 88 [.int .i64 (n : Int), .int .i64 a, .int .i64 b, .int .i64 c, .int .i64 s]) := I0
  clear bw1
  by_cases h33 : n ≤ 33
  · have h33I : ¬ ((33 : Int) < (n : Int)) := by omega
    replace hC : Hid (∀ c, Chain (chainOf p pc z).tail c → Flt p pc c) := fun c h => hC.out c (.inr ⟨by rw [hp.out.n]; omega, h⟩)
    go_upto_region 4 with fail
    generalize y.alloc (.cells #[.int .i64 (n : Int), .int .i64 a, .int .i64 b, .int .i64 c, .int .i64 s] 88) = y1 at P1 I0 bw9 ⊢
    generalize hBI : y.heap.size = BI at I0 hly ⊢
    replace P1 := P1.out
    replace I0 := I0.out
    replace bw9 := bw9.out
    obtain ⟨p0, p1, p2, p3, p4, p5, p6, p7, p8, p9⟩ := cells_p (w := w) p (some ⟨bc, oc, none⟩) cc o4 c4 o5 c5 o8 c8 o9 c9 P1
    have i0 := I0.cell 0 rfl
    have i1 := I0.cell 1 rfl
    have i2 := I0.cell 2 rfl
    have i3 := I0.cell 3 rfl
    have i4 := I0.cell 4 rfl
    replace hC : Hid (∀ c, Chain (List.drop 1 (chainOf p pc z)) c → Flt p pc c) := hC.out
    go_wp2_with fail
    refine (l4Field_in n h33 p (some ⟨bc, oc, none⟩) cc o4 c4 o5 c5 o8 c8 o9 c9 a b c s _).mono ?_
    rintro e yF ⟨⟨r, rfl, hr⟩, b9⟩
    replace P1 := P1.call b9
    replace I0 := I0.call b9
    replace bw9 := bw9.trans (b9.mono bw9.size)
    have hlyF := P1.lt
    have hIyF := I0.lt
    clear b9
    clear p0 p1 p2 p3 p4 p5 p6 p7 p8 p9 i0 i1 i2 i3 i4
    obtain rfl | rfl : r = false ∨ r = true := by cases r <;> simp
    · have hfin : Hid (Flt p pc 2) := hC.out 2 (.inl ⟨fun h => by simpa using hr.2 (by rw [hp.out.n, hp.out.a, hp.out.b, hp.out.c] at h; exact h), rfl⟩)
      clear hC hr
      go_wp2_with fail
      go_ret
      exact ⟨⟨2, rfl, hfin.out⟩, bw9⟩
    replace hC : Hid (∀ c, Chain (List.drop 2 (chainOf p pc z)) c → Flt p pc c) := fun c h => hC.out c (.inr ⟨by rw [hp.out.n, hp.out.a, hp.out.b, hp.out.c]; exact hr.1 rfl, h⟩)
    clear hr
    obtain ⟨p0, p1, p2, p3, p4, p5, p6, p7, p8, p9⟩ := cells_p (w := w) p (some ⟨bc, oc, none⟩) cc o4 c4 o5 c5 o8 c8 o9 c9 P1
    have i0 := I0.cell 0 rfl
    have i1 := I0.cell 1 rfl
    have i2 := I0.cell 2 rfl
    have i3 := I0.cell 3 rfl
    have i4 := I0.cell 4 rfl
    go_wp2_with fail
    refine (l4Regs_in n h33 p (some ⟨bc, oc, none⟩) cc o4 c4 o5 c5 o8 c8 o9 c9 a b c s _ a1 a2 b1 b2 c1 c2).mono ?_
    rintro e yR ⟨⟨r, rfl, hr⟩, b9⟩
    replace P1 := P1.call b9
    replace I0 := I0.call b9
    replace bw9 := bw9.trans (b9.mono bw9.size)
    have hlyR := P1.lt
    have hIyR := I0.lt
    clear b9
    clear p0 p1 p2 p3 p4 p5 p6 p7 p8 p9 i0 i1 i2 i3 i4
    obtain rfl | rfl : r = false ∨ r = true := by cases r <;> simp
    · have hfin : Hid (Flt p pc 3) := hC.out 3 (.inl ⟨fun h => by simpa using hr.2 (by rw [hp.out.n, hp.out.a, hp.out.b, hp.out.c] at h; exact h), rfl⟩)
      clear hC hr
      go_wp2_with fail
      go_ret
      exact ⟨⟨3, rfl, hfin.out⟩, bw9⟩
    replace hC : Hid (∀ c, Chain (List.drop 3 (chainOf p pc z)) c → Flt p pc c) := fun c h => hC.out c (.inr ⟨by rw [hp.out.n, hp.out.a, hp.out.b, hp.out.c]; exact hr.1 rfl, h⟩)
    clear hr
    obtain ⟨p0, p1, p2, p3, p4, p5, p6, p7, p8, p9⟩ := cells_p (w := w) p (some ⟨bc, oc, none⟩) cc o4 c4 o5 c5 o8 c8 o9 c9 P1
    have i0 := I0.cell 0 rfl
    have i1 := I0.cell 1 rfl
    have i2 := I0.cell 2 rfl
    have i3 := I0.cell 3 rfl
    have i4 := I0.cell 4 rfl
    go_wp2_with fail
    refine (l4Things_in n h33 p (some ⟨bc, oc, none⟩) cc o4 c4 o5 c5 o8 c8 o9 c9 a b c s _ hco hup).mono ?_
    rintro e yT ⟨⟨t, rfl, ht⟩, b9⟩
    replace P1 := P1.call b9
    replace I0 := I0.call b9
    replace bw9 := bw9.trans (b9.mono bw9.size)
    have hlyT := P1.lt
    have hIyT := I0.lt
    clear b9
    clear p0 p1 p2 p3 p4 p5 p6 p7 p8 p9 i0 i1 i2 i3 i4
    rcases ht.to hp.out with ⟨ht0, hch⟩ | ⟨rfl, k4, k5, k6⟩
    · have hfin : Hid (Flt p pc t) := hC.out t (hch _)
      have q0 : (t != 0) = true := by simp [ht0]
      replace ht : Hid (Thing n b s p t) := ht
      obtain ⟨p0, p1, p2, p3, p4, p5, p6, p7, p8, p9⟩ := cells_p (w := w) p (some ⟨bc, oc, none⟩) cc o4 c4 o5 c5 o8 c8 o9 c9 P1
      have i0 := I0.cell 0 rfl
      have i1 := I0.cell 1 rfl
      have i2 := I0.cell 2 rfl
      have i3 := I0.cell 3 rfl
      have i4 := I0.cell 4 rfl
      clear hC hch
      go_wp2_with fail
      refine (l4Things_in n h33 p (some ⟨bc, oc, none⟩) cc o4 c4 o5 c5 o8 c8 o9 c9 a b c s _ hco hup).mono ?_
      rintro e yU ⟨⟨t', rfl, ht'⟩, b9⟩
      have hbf := bw9.trans (b9.mono bw9.size)
      obtain rfl : t' = t := Chain.det ht' ht.out
      clear b9 ht'
      clear p0 p1 p2 p3 p4 p5 p6 p7 p8 p9 i0 i1 i2 i3 i4
      go_wp2_with fail
      go_ret
      exact ⟨⟨t', rfl, hfin.out⟩, hbf⟩
    replace hC : Hid (∀ c, Chain (List.drop 6 (chainOf p pc z)) c → Flt p pc c) := fun c h => hC.out c (.inr ⟨k4, .inr ⟨k5, .inr ⟨k6, h⟩⟩⟩)
    clear ht k4 k5 k6
    obtain ⟨p0, p1, p2, p3, p4, p5, p6, p7, p8, p9⟩ := cells_p (w := w) p (some ⟨bc, oc, none⟩) cc o4 c4 o5 c5 o8 c8 o9 c9 P1
    have i0 := I0.cell 0 rfl
    have i1 := I0.cell 1 rfl
    have i2 := I0.cell 2 rfl
    have i3 := I0.cell 3 rfl
    have i4 := I0.cell 4 rfl
    go_wp2_with fail
    refine (l4Target_in (pc : Int) (n : Int) a b c s _ (by omega) (by omega) s1 s2).mono ?_
    rintro e yV ⟨rfl, b9⟩
    replace P1 := P1.call b9
    replace I0 := I0.call b9
    replace bw9 := bw9.trans (b9.mono bw9.size)
    have hlyV := P1.lt
    have hIyV := I0.lt
    clear b9
    clear p0 p1 p2 p3 p4 p5 p6 p7 p8 p9 i0 i1 i2 i3 i4
    obtain ⟨p0, p1, p2, p3, p4, p5, p6, p7, p8, p9⟩ := cells_p (w := w) p (some ⟨bc, oc, none⟩) cc o4 c4 o5 c5 o8 c8 o9 c9 P1
    have i0 := I0.cell 0 rfl
    have i1 := I0.cell 1 rfl
    have i2 := I0.cell 2 rfl
    have i3 := I0.cell 3 rfl
    have i4 := I0.cell 4 rfl
    go_wp2_with fail
    refine (l4Use_in n _ n2).mono ?_
    rintro e yW ⟨rfl, b9⟩
    replace P1 := P1.call b9
    replace I0 := I0.call b9
    replace bw9 := bw9.trans (b9.mono bw9.size)
    have hlyW := P1.lt
    have hIyW := I0.lt
    clear b9
    clear p0 p1 p2 p3 p4 p5 p6 p7 p8 p9 i0 i1 i2 i3 i4
    have hzz := useS_size n (by omega)
    go_wp2_with fail
    refine (l4Has_I _ _ _ hzz (by omega)).mono ?_
    rintro e y9 ⟨rfl, rfl⟩
    obtain ⟨p0, p1, p2, p3, p4, p5, p6, p7, p8, p9⟩ := cells_p (w := w) p (some ⟨bc, oc, none⟩) cc o4 c4 o5 c5 o8 c8 o9 c9 P1
    have hJ : Hid (JumpOk p pc z ∨ (¬ JumpOk p pc z)) := by by_cases h : JumpOk p pc z; exact .inl h; exact .inr h
    have tg : tgt pc z = (pc : Int) + 1 + s := by unfold tgt; rw [hp.out.s]
    rcases hJ.out with hJ1 | hJ1
    · have hJ2 := hJ1
      unfold JumpOk at hJ2
      rw [tg, hp.out.n] at hJ2
      replace hJ1 : Hid (JumpOk p pc z) := hJ1
      replace hC : Hid (∀ c, Chain (List.drop 7 (chainOf p pc z)) c → Flt p pc c) := fun c h => hC.out c (.inr ⟨hJ1.out, h⟩)
      obtain ⟨Wk, hWk⟩ : ∃ q : Bool, hasC (useS n) 106 = q := ⟨_, rfl⟩
      have hq : Hid (Wk = true → 0 ≤ (pc : Int) + 1 + s ∧ (pc : Int) + 1 + s < (p.code.n : Int)) := fun h => hJ2 (by by_cases k : n = 18 ∨ n = 27 ∨ n = 28; omega; have := (hasJ n (by omega)).2 k; rw [this] at hWk; rw [← hWk] at h; simp at h)
      rw [hWk]
      clear hWk hJ2 tg hJ
      by_cases hW : Wk = true
      · subst hW
        have hq2 := hq.out rfl
        have hq3 := hq2.1
        have hq4 := hq2.2
        clear hq hq2
        go_upto_region 13 with fail
        have i0 := I0.cell 0 rfl
        have i1 := I0.cell 1 rfl
        have i2 := I0.cell 2 rfl
        have i3 := I0.cell 3 rfl
        have i4 := I0.cell 4 rfl
        go_wp2_with fail
        refine (l4Paired_in n h33 p (some ⟨bc, oc, none⟩) cc o4 c4 o5 c5 o8 c8 o9 c9 pc a b c s _ (IsArr.later hcode.out bw9) hcb.out hn0 hn2 hpc s1 s2).mono ?_
        rintro e yX ⟨⟨r, rfl, hr⟩, b9⟩
        replace P1 := P1.call b9
        replace I0 := I0.call b9
        replace bw9 := bw9.trans (b9.mono bw9.size)
        have hlyX := P1.lt
        have hIyX := I0.lt
        clear b9
        clear p0 p1 p2 p3 p4 p5 p6 p7 p8 p9 i0 i1 i2 i3 i4
        obtain rfl | rfl : r = false ∨ r = true := by cases r <;> simp
        · have hfin : Hid (Flt p pc 8) := hC.out 8 (.inl ⟨fun h => by simpa using hr.2 ((pairN_iff hp.out).2 h), rfl⟩)
          clear hC hr
          go_wp2_with fail
          go_ret
          exact ⟨⟨8, rfl, hfin.out⟩, bw9⟩
        replace hC : Hid (∀ c, Chain (List.drop 8 (chainOf p pc z)) c → Flt p pc c) := fun c h => hC.out c (.inr ⟨(pairN_iff hp.out).1 (hr.1 rfl), h⟩)
        clear hr
        obtain ⟨p0, p1, p2, p3, p4, p5, p6, p7, p8, p9⟩ := cells_p (w := w) p (some ⟨bc, oc, none⟩) cc o4 c4 o5 c5 o8 c8 o9 c9 P1
        have i0 := I0.cell 0 rfl
        have i1 := I0.cell 1 rfl
        have i2 := I0.cell 2 rfl
        have i3 := I0.cell 3 rfl
        have i4 := I0.cell 4 rfl
        go_wp2_with fail
        refine (l4Follow_in (pc : Int) (n : Int) a b c s _ (by omega) (by omega) s1 s2 (by omega) (by omega)).mono ?_
        rintro e yL ⟨u, rfl, b9, hu⟩
        obtain ⟨L, hL⟩ : ∃ L, folO (pc : Int) (n : Int) s = L := ⟨_, rfl⟩
        rw [hL] at hu
        have hLw : folW (pc : Int) z = L := by rw [folW_eq, hp.out.n, hp.out.s, hL]
        have hLl : L.length ≤ 2 := by rw [← hL]; exact folO_len9 _ _ _
        replace hLw : Hid (folW (pc : Int) z = L) := hLw
        clear hL
        obtain ⟨au, cu, rfl⟩ : ∃ a b, u = .slice a L.length b := by obtain ⟨a, b, h, _⟩ := hu; exact ⟨a, b, h⟩
        replace P1 := P1.call b9
        replace bw9 := bw9.trans (b9.mono bw9.size)
        have hlyL := P1.lt
        clear b9 I0
        clear p0 p1 p2 p3 p4 p5 p6 p7 p8 p9 i0 i1 i2 i3 i4
        have s0 : Hid (RowL yL w.heap.size 52 [.int .i64 p.params, .bool p.vararg, .int .i64 p.regs, .slice (some ⟨bc, oc, none⟩) p.code.n cc, .slice o4 p.consts.n c4, .slice o5 p.ups.n c5, .int .i64 p.kids, .string p.name, .slice o8 p.lines.n c8, .slice o9 p.upNames.n c9] ∧ Below w.heap.size w yL ∧ IsInts .i64 (· < yL.heap.size) yL (.slice au L.length cu) (slI L) ∧ ∀ (j : Nat) (x : Int), j < 0 → L[j]? = some x → ¬ ((pc : Int) < x ∧ x ≤ (pc : Int) + 2 ∧ (p.code.n : Int) ≤ x)) := ⟨P1, bw9, IsArr.mono hu fun b hb => hb.2, fun j x h => absurd h (by omega)⟩
        clear P1 bw9 hu
        go_wp2_with fail
        go_loopw [8] (fun kv wr => ∃ k : Nat, kv = .int .i64 (k : Int) ∧ k ≤ L.length ∧ Hid (RowL wr w.heap.size 52 [.int .i64 p.params, .bool p.vararg, .int .i64 p.regs, .slice (some ⟨bc, oc, none⟩) p.code.n cc, .slice o4 p.consts.n c4, .slice o5 p.ups.n c5, .int .i64 p.kids, .string p.name, .slice o8 p.lines.n c8, .slice o9 p.upNames.n c9] ∧ Below w.heap.size w wr ∧ IsInts .i64 (· < wr.heap.size) wr (.slice au L.length cu) (slI L) ∧ ∀ (j : Nat) (x : Int), j < k → L[j]? = some x → ¬ ((pc : Int) < x ∧ x ≤ (pc : Int) + 2 ∧ (p.code.n : Int) ≤ x))) (fun kv _ => L.length - (intOf kv).toNat)
        case atStart => exact ⟨0, rfl, by omega, s0.out⟩
        case round =>
          obtain ⟨k, rfl, hk, hT⟩ := hrel
          obtain ⟨wE, hwE⟩ : ∃ x, x = wr := ⟨_, rfl⟩
          subst hwE
          clear s0
          obtain ⟨hR, hB, hIn, hno⟩ := hT.out
          by_cases hkL : k < L.length
          · have hkI : (k : Int) < (L.length : Int) := by omega
            obtain ⟨x, hx⟩ : ∃ x, L[k]? = some x := ⟨L[k], List.getElem?_eq_getElem hkL⟩
            obtain ⟨bl, ol, rfl, hbl, hcl⟩ : ∃ bl ol, au = some ⟨bl, ol, none⟩ ∧ bl < wE.heap.size ∧ wE.cell? ⟨bl, ol + k, none⟩ = some (.int .i64 x) := by
              obtain ⟨_, _, e, _, h⟩ := hIn
              obtain ⟨bl, ol, e', hb', hc'⟩ := h (by show 0 < L.length; omega)
              simp only [Value.slice.injEq] at e
              obtain ⟨rfl, -, -⟩ := e
              have h1 := hc' k hkL 0 (by omega)
              have hxd : L.getD k 0 = x := by simp [List.getD, hx]
              exact ⟨bl, ol, e', hb', by simpa [iC, slI, hxd, hx] using h1⟩
            have hq3 := hR.cell 3 rfl
            replace hT : Hid (RowL wE w.heap.size 52 [.int .i64 p.params, .bool p.vararg, .int .i64 p.regs, .slice (some ⟨bc, oc, none⟩) p.code.n cc, .slice o4 p.consts.n c4, .slice o5 p.ups.n c5, .int .i64 p.kids, .string p.name, .slice o8 p.lines.n c8, .slice o9 p.upNames.n c9] ∧ Below w.heap.size w wE ∧ IsInts .i64 (· < wE.heap.size) wE (.slice (some ⟨bl, ol, none⟩) L.length cu) (slI L) ∧ ∀ (j : Nat) (x : Int), j < k → L[j]? = some x → ¬ ((pc : Int) < x ∧ x ≤ (pc : Int) + 2 ∧ (p.code.n : Int) ≤ x)) := hT
            clear hR hB hIn hno
            by_cases x1 : (pc : Int) < x
            · by_cases x2 : x ≤ (pc : Int) + 2
              · by_cases x3 : (p.code.n : Int) ≤ x
                · have hfin : Hid (Flt p pc 9) := hC.out 9 (.inl ⟨fun h => ((endOk_iff hJ1.out hpc).1 h k x (by rw [hLw.out]; exact hx)) ⟨x1, x2, x3⟩, rfl⟩)
                  have hbf := hT.out.2.1
                  clear hT hC
                  have d1 : decide ((pc : Int) < x) = true := by simp [x1]
                  have d2 : decide (x ≤ (pc : Int) + 2) = true := by simp [x2]
                  have d3 : decide ((p.code.n : Int) ≤ x) = true := by simp [x3]
                  go_wp2_with fail
                  go_quiet ((fail))
                  all_goals go_wp2_with fail
                  all_goals go_ret
                  all_goals exact ⟨⟨9, rfl, hfin.out⟩, below_dN hbf _⟩
                · have d1 : decide ((pc : Int) < x) = true := by simp [x1]
                  have d2 : decide (x ≤ (pc : Int) + 2) = true := by simp [x2]
                  have d3 : decide ((p.code.n : Int) ≤ x) = false := by simpa using x3
                  have T1 : Hid (∀ nq, (RowL (wE.drewN nq) w.heap.size 52 [.int .i64 p.params, .bool p.vararg, .int .i64 p.regs, .slice (some ⟨bc, oc, none⟩) p.code.n cc, .slice o4 p.consts.n c4, .slice o5 p.ups.n c5, .int .i64 p.kids, .string p.name, .slice o8 p.lines.n c8, .slice o9 p.upNames.n c9] ∧ Below w.heap.size w (wE.drewN nq) ∧ IsInts .i64 (· < (wE.drewN nq).heap.size) (wE.drewN nq) (.slice (some ⟨bl, ol, none⟩) L.length cu) (slI L) ∧ ∀ (j : Nat) (x : Int), j < k + 1 → L[j]? = some x → ¬ ((pc : Int) < x ∧ x ≤ (pc : Int) + 2 ∧ (p.code.n : Int) ≤ x))) := fun nq => ⟨hT.out.1, below_dN hT.out.2.1 nq, hT.out.2.2.1, fun j x' hj hx' => by by_cases e : j = k; (subst e; rw [hx] at hx'; simp at hx'; omega); exact hT.out.2.2.2 j x' (by omega) hx'⟩
                  clear hT
                  go_wp2_with fail
                  go_quiet ((fail))
                  all_goals go_wp2_with fail
                  all_goals go_roundw
                  case rel => exact ⟨k + 1, by go_num, by omega, T1.out _⟩
                  case measure => simp [intOf]; omega
              · have d1 : decide ((pc : Int) < x) = true := by simp [x1]
                have d2 : decide (x ≤ (pc : Int) + 2) = false := by simpa using x2
                have T1 : Hid (∀ nq, (RowL (wE.drewN nq) w.heap.size 52 [.int .i64 p.params, .bool p.vararg, .int .i64 p.regs, .slice (some ⟨bc, oc, none⟩) p.code.n cc, .slice o4 p.consts.n c4, .slice o5 p.ups.n c5, .int .i64 p.kids, .string p.name, .slice o8 p.lines.n c8, .slice o9 p.upNames.n c9] ∧ Below w.heap.size w (wE.drewN nq) ∧ IsInts .i64 (· < (wE.drewN nq).heap.size) (wE.drewN nq) (.slice (some ⟨bl, ol, none⟩) L.length cu) (slI L) ∧ ∀ (j : Nat) (x : Int), j < k + 1 → L[j]? = some x → ¬ ((pc : Int) < x ∧ x ≤ (pc : Int) + 2 ∧ (p.code.n : Int) ≤ x))) := fun nq => ⟨hT.out.1, below_dN hT.out.2.1 nq, hT.out.2.2.1, fun j x' hj hx' => by by_cases e : j = k; (subst e; rw [hx] at hx'; simp at hx'; omega); exact hT.out.2.2.2 j x' (by omega) hx'⟩
                clear hT
                go_wp2_with fail
                go_quiet ((fail))
                all_goals go_wp2_with fail
                all_goals go_roundw
                case rel => exact ⟨k + 1, by go_num, by omega, T1.out _⟩
                case measure => simp [intOf]; omega
            · have d1 : decide ((pc : Int) < x) = false := by simpa using x1
              have T1 : Hid (∀ nq, (RowL (wE.drewN nq) w.heap.size 52 [.int .i64 p.params, .bool p.vararg, .int .i64 p.regs, .slice (some ⟨bc, oc, none⟩) p.code.n cc, .slice o4 p.consts.n c4, .slice o5 p.ups.n c5, .int .i64 p.kids, .string p.name, .slice o8 p.lines.n c8, .slice o9 p.upNames.n c9] ∧ Below w.heap.size w (wE.drewN nq) ∧ IsInts .i64 (· < (wE.drewN nq).heap.size) (wE.drewN nq) (.slice (some ⟨bl, ol, none⟩) L.length cu) (slI L) ∧ ∀ (j : Nat) (x : Int), j < k + 1 → L[j]? = some x → ¬ ((pc : Int) < x ∧ x ≤ (pc : Int) + 2 ∧ (p.code.n : Int) ≤ x))) := fun nq => ⟨hT.out.1, below_dN hT.out.2.1 nq, hT.out.2.2.1, fun j x' hj hx' => by by_cases e : j = k; (subst e; rw [hx] at hx'; simp at hx'; omega); exact hT.out.2.2.2 j x' (by omega) hx'⟩
              clear hT
              go_wp2_with fail
              go_quiet ((fail))
              all_goals go_wp2_with fail
              all_goals go_roundw
              case rel => exact ⟨k + 1, by go_num, by omega, T1.out _⟩
              case measure => simp [intOf]; omega
          · have hkI : ¬ ((k : Int) < (L.length : Int)) := by omega
            have hfin : Hid (Flt p pc 0) := hC.out 0 (.inr ⟨(endOk_iff hJ1.out hpc).2 fun j x hx => hno j x (by rw [hLw.out] at hx; have := (List.getElem?_eq_some_iff.1 hx).1; omega) (by rw [← hLw.out]; exact hx), rfl⟩)
            clear hT hR hIn hno hC
            go_wp2_with fail
            go_ret
            exact ⟨⟨0, rfl, hfin.out⟩, hB⟩
      · obtain rfl : Wk = false := by simpa using hW
        clear hq
        go_upto_region 13 with fail
        have i0 := I0.cell 0 rfl
        have i1 := I0.cell 1 rfl
        have i2 := I0.cell 2 rfl
        have i3 := I0.cell 3 rfl
        have i4 := I0.cell 4 rfl
        go_wp2_with fail
        refine (l4Paired_in n h33 p (some ⟨bc, oc, none⟩) cc o4 c4 o5 c5 o8 c8 o9 c9 pc a b c s _ (IsArr.later hcode.out bw9) hcb.out hn0 hn2 hpc s1 s2).mono ?_
        rintro e yX ⟨⟨r, rfl, hr⟩, b9⟩
        replace P1 := P1.call b9
        replace I0 := I0.call b9
        replace bw9 := bw9.trans (b9.mono bw9.size)
        have hlyX := P1.lt
        have hIyX := I0.lt
        clear b9
        clear p0 p1 p2 p3 p4 p5 p6 p7 p8 p9 i0 i1 i2 i3 i4
        obtain rfl | rfl : r = false ∨ r = true := by cases r <;> simp
        · have hfin : Hid (Flt p pc 8) := hC.out 8 (.inl ⟨fun h => by simpa using hr.2 ((pairN_iff hp.out).2 h), rfl⟩)
          clear hC hr
          go_wp2_with fail
          go_ret
          exact ⟨⟨8, rfl, hfin.out⟩, bw9⟩
        replace hC : Hid (∀ c, Chain (List.drop 8 (chainOf p pc z)) c → Flt p pc c) := fun c h => hC.out c (.inr ⟨(pairN_iff hp.out).1 (hr.1 rfl), h⟩)
        clear hr
        obtain ⟨p0, p1, p2, p3, p4, p5, p6, p7, p8, p9⟩ := cells_p (w := w) p (some ⟨bc, oc, none⟩) cc o4 c4 o5 c5 o8 c8 o9 c9 P1
        have i0 := I0.cell 0 rfl
        have i1 := I0.cell 1 rfl
        have i2 := I0.cell 2 rfl
        have i3 := I0.cell 3 rfl
        have i4 := I0.cell 4 rfl
        go_wp2_with fail
        refine (l4Follow_in (pc : Int) (n : Int) a b c s _ (by omega) (by omega) s1 s2 (by omega) (by omega)).mono ?_
        rintro e yL ⟨u, rfl, b9, hu⟩
        obtain ⟨L, hL⟩ : ∃ L, folO (pc : Int) (n : Int) s = L := ⟨_, rfl⟩
        rw [hL] at hu
        have hLw : folW (pc : Int) z = L := by rw [folW_eq, hp.out.n, hp.out.s, hL]
        have hLl : L.length ≤ 2 := by rw [← hL]; exact folO_len9 _ _ _
        replace hLw : Hid (folW (pc : Int) z = L) := hLw
        clear hL
        obtain ⟨au, cu, rfl⟩ : ∃ a b, u = .slice a L.length b := by obtain ⟨a, b, h, _⟩ := hu; exact ⟨a, b, h⟩
        replace P1 := P1.call b9
        replace bw9 := bw9.trans (b9.mono bw9.size)
        have hlyL := P1.lt
        clear b9 I0
        clear p0 p1 p2 p3 p4 p5 p6 p7 p8 p9 i0 i1 i2 i3 i4
        have s0 : Hid (RowL yL w.heap.size 52 [.int .i64 p.params, .bool p.vararg, .int .i64 p.regs, .slice (some ⟨bc, oc, none⟩) p.code.n cc, .slice o4 p.consts.n c4, .slice o5 p.ups.n c5, .int .i64 p.kids, .string p.name, .slice o8 p.lines.n c8, .slice o9 p.upNames.n c9] ∧ Below w.heap.size w yL ∧ IsInts .i64 (· < yL.heap.size) yL (.slice au L.length cu) (slI L) ∧ ∀ (j : Nat) (x : Int), j < 0 → L[j]? = some x → ¬ ((pc : Int) < x ∧ x ≤ (pc : Int) + 2 ∧ (p.code.n : Int) ≤ x)) := ⟨P1, bw9, IsArr.mono hu fun b hb => hb.2, fun j x h => absurd h (by omega)⟩
        clear P1 bw9 hu
        go_wp2_with fail
        go_loopw [8] (fun kv wr => ∃ k : Nat, kv = .int .i64 (k : Int) ∧ k ≤ L.length ∧ Hid (RowL wr w.heap.size 52 [.int .i64 p.params, .bool p.vararg, .int .i64 p.regs, .slice (some ⟨bc, oc, none⟩) p.code.n cc, .slice o4 p.consts.n c4, .slice o5 p.ups.n c5, .int .i64 p.kids, .string p.name, .slice o8 p.lines.n c8, .slice o9 p.upNames.n c9] ∧ Below w.heap.size w wr ∧ IsInts .i64 (· < wr.heap.size) wr (.slice au L.length cu) (slI L) ∧ ∀ (j : Nat) (x : Int), j < k → L[j]? = some x → ¬ ((pc : Int) < x ∧ x ≤ (pc : Int) + 2 ∧ (p.code.n : Int) ≤ x))) (fun kv _ => L.length - (intOf kv).toNat)
        case atStart => exact ⟨0, rfl, by omega, s0.out⟩
        case round =>
          obtain ⟨k, rfl, hk, hT⟩ := hrel
          obtain ⟨wE, hwE⟩ : ∃ x, x = wr := ⟨_, rfl⟩
          subst hwE
          clear s0
          obtain ⟨hR, hB, hIn, hno⟩ := hT.out
          by_cases hkL : k < L.length
          · have hkI : (k : Int) < (L.length : Int) := by omega
            obtain ⟨x, hx⟩ : ∃ x, L[k]? = some x := ⟨L[k], List.getElem?_eq_getElem hkL⟩
            obtain ⟨bl, ol, rfl, hbl, hcl⟩ : ∃ bl ol, au = some ⟨bl, ol, none⟩ ∧ bl < wE.heap.size ∧ wE.cell? ⟨bl, ol + k, none⟩ = some (.int .i64 x) := by
              obtain ⟨_, _, e, _, h⟩ := hIn
              obtain ⟨bl, ol, e', hb', hc'⟩ := h (by show 0 < L.length; omega)
              simp only [Value.slice.injEq] at e
              obtain ⟨rfl, -, -⟩ := e
              have h1 := hc' k hkL 0 (by omega)
              have hxd : L.getD k 0 = x := by simp [List.getD, hx]
              exact ⟨bl, ol, e', hb', by simpa [iC, slI, hxd, hx] using h1⟩
            have hq3 := hR.cell 3 rfl
            replace hT : Hid (RowL wE w.heap.size 52 [.int .i64 p.params, .bool p.vararg, .int .i64 p.regs, .slice (some ⟨bc, oc, none⟩) p.code.n cc, .slice o4 p.consts.n c4, .slice o5 p.ups.n c5, .int .i64 p.kids, .string p.name, .slice o8 p.lines.n c8, .slice o9 p.upNames.n c9] ∧ Below w.heap.size w wE ∧ IsInts .i64 (· < wE.heap.size) wE (.slice (some ⟨bl, ol, none⟩) L.length cu) (slI L) ∧ ∀ (j : Nat) (x : Int), j < k → L[j]? = some x → ¬ ((pc : Int) < x ∧ x ≤ (pc : Int) + 2 ∧ (p.code.n : Int) ≤ x)) := hT
            clear hR hB hIn hno
            by_cases x1 : (pc : Int) < x
            · by_cases x2 : x ≤ (pc : Int) + 2
              · by_cases x3 : (p.code.n : Int) ≤ x
                · have hfin : Hid (Flt p pc 9) := hC.out 9 (.inl ⟨fun h => ((endOk_iff hJ1.out hpc).1 h k x (by rw [hLw.out]; exact hx)) ⟨x1, x2, x3⟩, rfl⟩)
                  have hbf := hT.out.2.1
                  clear hT hC
                  have d1 : decide ((pc : Int) < x) = true := by simp [x1]
                  have d2 : decide (x ≤ (pc : Int) + 2) = true := by simp [x2]
                  have d3 : decide ((p.code.n : Int) ≤ x) = true := by simp [x3]
                  go_wp2_with fail
                  go_quiet ((fail))
                  all_goals go_wp2_with fail
                  all_goals go_ret
                  all_goals exact ⟨⟨9, rfl, hfin.out⟩, below_dN hbf _⟩
                · have d1 : decide ((pc : Int) < x) = true := by simp [x1]
                  have d2 : decide (x ≤ (pc : Int) + 2) = true := by simp [x2]
                  have d3 : decide ((p.code.n : Int) ≤ x) = false := by simpa using x3
                  have T1 : Hid (∀ nq, (RowL (wE.drewN nq) w.heap.size 52 [.int .i64 p.params, .bool p.vararg, .int .i64 p.regs, .slice (some ⟨bc, oc, none⟩) p.code.n cc, .slice o4 p.consts.n c4, .slice o5 p.ups.n c5, .int .i64 p.kids, .string p.name, .slice o8 p.lines.n c8, .slice o9 p.upNames.n c9] ∧ Below w.heap.size w (wE.drewN nq) ∧ IsInts .i64 (· < (wE.drewN nq).heap.size) (wE.drewN nq) (.slice (some ⟨bl, ol, none⟩) L.length cu) (slI L) ∧ ∀ (j : Nat) (x : Int), j < k + 1 → L[j]? = some x → ¬ ((pc : Int) < x ∧ x ≤ (pc : Int) + 2 ∧ (p.code.n : Int) ≤ x))) := fun nq => ⟨hT.out.1, below_dN hT.out.2.1 nq, hT.out.2.2.1, fun j x' hj hx' => by by_cases e : j = k; (subst e; rw [hx] at hx'; simp at hx'; omega); exact hT.out.2.2.2 j x' (by omega) hx'⟩
                  clear hT
                  go_wp2_with fail
                  go_quiet ((fail))
                  all_goals go_wp2_with fail
                  all_goals go_roundw
                  case rel => exact ⟨k + 1, by go_num, by omega, T1.out _⟩
                  case measure => simp [intOf]; omega
              · have d1 : decide ((pc : Int) < x) = true := by simp [x1]
                have d2 : decide (x ≤ (pc : Int) + 2) = false := by simpa using x2
                have T1 : Hid (∀ nq, (RowL (wE.drewN nq) w.heap.size 52 [.int .i64 p.params, .bool p.vararg, .int .i64 p.regs, .slice (some ⟨bc, oc, none⟩) p.code.n cc, .slice o4 p.consts.n c4, .slice o5 p.ups.n c5, .int .i64 p.kids, .string p.name, .slice o8 p.lines.n c8, .slice o9 p.upNames.n c9] ∧ Below w.heap.size w (wE.drewN nq) ∧ IsInts .i64 (· < (wE.drewN nq).heap.size) (wE.drewN nq) (.slice (some ⟨bl, ol, none⟩) L.length cu) (slI L) ∧ ∀ (j : Nat) (x : Int), j < k + 1 → L[j]? = some x → ¬ ((pc : Int) < x ∧ x ≤ (pc : Int) + 2 ∧ (p.code.n : Int) ≤ x))) := fun nq => ⟨hT.out.1, below_dN hT.out.2.1 nq, hT.out.2.2.1, fun j x' hj hx' => by by_cases e : j = k; (subst e; rw [hx] at hx'; simp at hx'; omega); exact hT.out.2.2.2 j x' (by omega) hx'⟩
                clear hT
                go_wp2_with fail
                go_quiet ((fail))
                all_goals go_wp2_with fail
                all_goals go_roundw
                case rel => exact ⟨k + 1, by go_num, by omega, T1.out _⟩
                case measure => simp [intOf]; omega
            · have d1 : decide ((pc : Int) < x) = false := by simpa using x1
              have T1 : Hid (∀ nq, (RowL (wE.drewN nq) w.heap.size 52 [.int .i64 p.params, .bool p.vararg, .int .i64 p.regs, .slice (some ⟨bc, oc, none⟩) p.code.n cc, .slice o4 p.consts.n c4, .slice o5 p.ups.n c5, .int .i64 p.kids, .string p.name, .slice o8 p.lines.n c8, .slice o9 p.upNames.n c9] ∧ Below w.heap.size w (wE.drewN nq) ∧ IsInts .i64 (· < (wE.drewN nq).heap.size) (wE.drewN nq) (.slice (some ⟨bl, ol, none⟩) L.length cu) (slI L) ∧ ∀ (j : Nat) (x : Int), j < k + 1 → L[j]? = some x → ¬ ((pc : Int) < x ∧ x ≤ (pc : Int) + 2 ∧ (p.code.n : Int) ≤ x))) := fun nq => ⟨hT.out.1, below_dN hT.out.2.1 nq, hT.out.2.2.1, fun j x' hj hx' => by by_cases e : j = k; (subst e; rw [hx] at hx'; simp at hx'; omega); exact hT.out.2.2.2 j x' (by omega) hx'⟩
              clear hT
              go_wp2_with fail
              go_quiet ((fail))
              all_goals go_wp2_with fail
              all_goals go_roundw
              case rel => exact ⟨k + 1, by go_num, by omega, T1.out _⟩
              case measure => simp [intOf]; omega
          · have hkI : ¬ ((k : Int) < (L.length : Int)) := by omega
            have hfin : Hid (Flt p pc 0) := hC.out 0 (.inr ⟨(endOk_iff hJ1.out hpc).2 fun j x hx => hno j x (by rw [hLw.out] at hx; have := (List.getElem?_eq_some_iff.1 hx).1; omega) (by rw [← hLw.out]; exact hx), rfl⟩)
            clear hT hR hIn hno hC
            go_wp2_with fail
            go_ret
            exact ⟨⟨0, rfl, hfin.out⟩, hB⟩
    · have hfin : Hid (Flt p pc 7) := hC.out 7 (.inl ⟨hJ1, rfl⟩)
      have hjj : n = 18 ∨ n = 27 ∨ n = 28 := by by_cases k : n = 18 ∨ n = 27 ∨ n = 28; exact k; exact absurd (fun h => absurd h (by rw [hp.out.n]; omega)) hJ1
      have l106 := (hasJ n (by omega)).1 hjj
      have hbad : ¬ (0 ≤ (pc : Int) + 1 + s ∧ (pc : Int) + 1 + s < (p.code.n : Int)) := fun h => hJ1 (fun _ => by rw [tg]; exact h)
      rw [l106]
      clear hJ hJ1 tg hC l106
      by_cases hlow : (pc : Int) + 1 + s < 0
      · go_wp2_with fail
        go_ret
        exact ⟨⟨7, rfl, hfin.out⟩, bw9⟩
      · have hlow2 : 0 ≤ (pc : Int) + 1 + s := by omega
        have hhi : ¬ ((pc : Int) + 1 + s < (p.code.n : Int)) := by omega
        clear hbad
        go_wp2_with fail
        go_ret
        exact ⟨⟨7, rfl, hfin.out⟩, bw9⟩
  · have h33I : (33 : Int) < (n : Int) := by omega
    have hfin := hC.out 1 (.inl ⟨by rw [hp.out.n]; omega, rfl⟩)
    replace hfin : Hid _ := hfin
    clear hC P1 I0
    go_wp2_with fail
    go_ret
    exact ⟨⟨1, rfl, hfin.out⟩, bw9.out⟩
end Go.Proofs.YtckapapejfnojaaGreatDoor

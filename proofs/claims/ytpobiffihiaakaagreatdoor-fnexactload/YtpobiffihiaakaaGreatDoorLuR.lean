import Derived.Test.YtpobiffihiaakaaGreatDoorLuQ
import Derived.Test.YtpobiffihiaakaaGreatDoorLtJ
namespace Go.Proofs.YtpobiffihiaakaaGreatDoor
open Go.RowKit
set_option linter.unusedVariables false
set_option linter.unusedSimpArgs false
set_option maxRecDepth 100000
set_option maxHeartbeats 1000000
/-- where the model's loop stands that reads things in numbers. -/
def SevAt {α : Type} (rd : RS → α × RS) (m : Nat) (r0 : RS) (k : Nat) (r : RS) (M : List α) : Prop :=
  (r.bad = 0 → rdSev rd m r0 [] = rdSev rd (m - k) r M) ∧ (r.bad ≠ 0 → (rdSev rd m r0 []).2 = r) ∧ M.length ≤ k
theorem SevAt.start {α : Type} {rd : RS → α × RS} (hb : ∀ r, r.bad ≠ 0 → (rd r).2 = r) (m : Nat) (r0 : RS) : SevAt rd m r0 0 r0 [] := by
  refine ⟨fun _ => rfl, fun h => ?_, Nat.le_refl _⟩
  cases m with
  | zero => rfl
  | succ m => rw [rdSev_bad (by rw [hb _ h]; exact h)]; exact hb _ h
theorem SevAt.step {α : Type} {rd : RS → α × RS} {m : Nat} {r0 : RS} {k : Nat} {r : RS} {M : List α} (h : SevAt rd m r0 k r M) (hr : r.bad = 0) (hk : k < m) {x : α} {r1 : RS} (hx : rd r = (x, r1)) : SevAt rd m r0 (k + 1) r1 (M ++ [x]) := by
  have e := h.1 hr
  rw [show m - k = (m - (k + 1)) + 1 by omega] at e
  refine ⟨fun h1 => ?_, fun h1 => ?_, ?_⟩
  · rw [e, rdSev_ok (by rw [hx]; exact h1), hx]
  · rw [e, rdSev_bad (by rw [hx]; exact h1), hx]
  · have := h.2.2; simp; omega
theorem SevAt.stepBad {α : Type} {rd : RS → α × RS} {m : Nat} {r0 : RS} {k : Nat} {r : RS} {M : List α} (h : SevAt rd m r0 k r M) (hr : r.bad = 0) (hk : k < m) {x : α} {r1 : RS} (hx : rd r = (x, r1)) (h1 : r1.bad ≠ 0) : SevAt rd m r0 (k + 1) r1 M := by
  have e := h.1 hr
  rw [show m - k = (m - (k + 1)) + 1 by omega] at e
  refine ⟨fun h2 => absurd h2 h1, fun _ => ?_, ?_⟩
  · rw [e, rdSev_bad (by rw [hx]; exact h1), hx]
  · have := h.2.2; omega
theorem SevAt.done {α : Type} {rd : RS → α × RS} {m : Nat} {r0 : RS} {k : Nat} {r : RS} {M : List α} (h : SevAt rd m r0 k r M) (hk : k = m ∨ r.bad ≠ 0) (hkm : k ≤ m) : (rdSev rd m r0 []).2 = r ∧ (r.bad = 0 → (rdSev rd m r0 []).1 = M) := by
  by_cases hb : r.bad = 0
  · obtain rfl : k = m := hk.resolve_right (fun h => h hb)
    have e := h.1 hb
    rw [Nat.sub_self] at e
    rw [e]
    exact ⟨rfl, fun _ => rfl⟩
  · exact ⟨h.2.1 hb, fun h => absurd h hb⟩
theorem Ex2.below {R P : Nat} {y y' : World} (h : Below y.heap.size y y') : Ex2 R P y y' := ⟨h.os, h.tape, h.output, h.size, fun i hi _ _ => h.block i hi⟩
theorem Ex2.setR {R P : Nat} {a b : World} (h : Ex2 R P a b) (k : Nat) (v : Value) : Ex2 R P a (b.setCell ⟨R, k, none⟩ v) :=
  ⟨h.os, h.tape, h.output, by rw [World.size_setCell]; exact h.size, fun i hi hR hP => (Below.heap_setCell _ _ _ _ (show i ≠ R from hR)).trans (h.block i hi hR hP)⟩
theorem Ex2.alloc {R P : Nat} {w0 y : World} (h : Ex2 R P w0 y) (o : Obj) : Ex2 R P w0 (y.alloc o) :=
  ⟨h.os, h.tape, h.output, by rw [World.size_alloc]; exact Nat.le_succ_of_le h.size, fun i hi hR hP => (heap_alloc_old _ _ (Nat.lt_of_lt_of_le hi h.size)).trans (h.block i hi hR hP)⟩
theorem Ex2.grown {R P : Nat} {w0 y y' : World} {b : Option Nat} (h : Ex2 R P w0 y) (hg : y.grownBy y' b) (hb : ∀ q, b = some q → w0.heap.size ≤ q) : Ex2 R P w0 y' := by
  refine ⟨hg.os.trans h.os, hg.tape.trans h.tape, hg.output.trans h.output, Nat.le_trans h.size hg.size, fun i hi hR hP => ?_⟩
  refine (hg.block i (Nat.lt_of_lt_of_le hi h.size) ?_).trans (h.block i hi hR hP)
  intro e
  have := hb i (by first | exact e | exact e.symm)
  omega
/-- the reader's three cells. -/
def rC (s : ByteArray) (r : RS) : List Value := [.string s, .int .i64 (r.pos : Int), .int .i64 r.bad]
theorem rC_put {y : World} {R : Nat} {t : TypeId} {s : ByteArray} {r : RS} (h : RowL y R t (rC s r)) (r1 : RS) : RowL (((y.setCell ⟨R, 0, none⟩ (.string s)).setCell ⟨R, 1, none⟩ (.int .i64 (r1.pos : Int))).setCell ⟨R, 2, none⟩ (.int .i64 r1.bad)) R t (rC s r1) :=
  ((h.set 0 (.string s)).set 1 (.int .i64 (r1.pos : Int))).set 2 (.int .i64 r1.bad)
theorem Ex2.put {R P : Nat} {a b : World} (h : Ex2 R P a b) (v0 v1 v2 : Value) : Ex2 R P a (((b.setCell ⟨R, 0, none⟩ v0).setCell ⟨R, 1, none⟩ v1).setCell ⟨R, 2, none⟩ v2) := ((h.setR 0 v0).setR 1 v1).setR 2 v2
theorem RowL.put {y : World} {R P : Nat} {t : TypeId} {L : List Value} (h : RowL y P t L) (hd : P ≠ R) (v0 v1 v2 : Value) : RowL (((y.setCell ⟨R, 0, none⟩ v0).setCell ⟨R, 1, none⟩ v1).setCell ⟨R, 2, none⟩ v2) P t L :=
  ((h.other (a := ⟨R, 0, none⟩) hd v0).other (a := ⟨R, 1, none⟩) hd v1).other (a := ⟨R, 2, none⟩) hd v2
open Classical in
theorem rdAny_at {s : ByteArray} {V : Nat → Option (Int × Nat)} {r : RS} (hb : r.bad = 0) : (∃ c : Int, c ≠ 0 ∧ V r.pos = none ∧ rdAny s V r = (0, ⟨r.pos, c⟩)) ∨ ∃ n q, V r.pos = some (n, q) ∧ rdAny s V r = (n, ⟨q, 0⟩) := by
  unfold rdAny
  cases hv : V r.pos with
  | none =>
    refine .inl ⟨if Cut4 s r.pos then 2 else 3, by split <;> decide, rfl, ?_⟩
    rw [if_neg (by simp [hb])]
  | some x =>
    obtain ⟨n, q⟩ := x
    refine .inr ⟨n, q, rfl, ?_⟩
    rw [if_neg (by simp [hb])]
theorem rdNum_any {s : ByteArray} {V : Nat → Option (Int × Nat)} (hV : VrOk s V) (r : RS) : rdNum s V 0 16777215 r = rdAny s V r := by
  unfold rdNum
  dsimp only
  by_cases hb : r.bad = 0
  · rcases rdAny_at (s := s) (V := V) hb with ⟨c, hc, -, e⟩ | ⟨n, q, hv, e⟩
    · rw [e]
      exact if_pos hc
    · have := hV.bd _ _ _ hv
      rw [e]
      dsimp only
      rw [if_neg (by simp), if_neg (by omega)]
  · rw [rdAny_b hb]
    exact if_pos hb
theorem rdText_b {s : ByteArray} {V : Nat → Option (Int × Nat)} {r : RS} (h : r.bad ≠ 0) : (rdText s V r).2 = r := by
  unfold rdText
  rw [rdNum_b h]
  simp [rdBytes, h]
/-- the model's count: up to all, and then none or all. -/
theorem rdCnt_num {s : ByteArray} {V : Nat → Option (Int × Nat)} (hV : VrOk s V) (all : Nat) (r : RS) :
    ∃ m : Nat, m ≤ all ∧ (rdNum s V 0 all r).1 = (m : Int) ∧ (rdCnt s V all r).2 = (if 0 < m ∧ m ≠ all then (rdNum s V 0 all r).2.fail 4 else (rdNum s V 0 all r).2) ∧ ((rdCnt s V all r).2.bad = 0 → (rdCnt s V all r).1 = (m : Int)) := by
  have hbd := rdNum_bd (s := s) (V := V) (lo := 0) (hi := all) r (by omega) (by omega)
  refine ⟨(rdNum s V 0 all r).1.toNat, by omega, by omega, ?_⟩
  by_cases hb : r.bad = 0
  · rcases rdAny_at (s := s) (V := V) hb with ⟨c, hc, -, e⟩ | ⟨n, q, hv, e⟩
    · simp [rdNum, rdCnt, e, hc]
    · have h0 := hV.bd _ _ _ hv
      by_cases h1 : (all : Int) < n
      · have h2 : ¬ (n = 0 ∨ n = (all : Int)) := by omega
        simp [rdNum, rdCnt, e, h1, h2]
      · have h1' : ¬ (n < 0 ∨ (all : Int) < n) := by omega
        have e1 : rdNum s V 0 all r = (n, ⟨q, 0⟩) := by simp only [rdNum, e]; simp [h1']
        by_cases h2 : n = 0 ∨ n = (all : Int)
        · have h3 : ¬ (0 < n.toNat ∧ n.toNat ≠ all) := by omega
          have e2 : rdCnt s V all r = (n, ⟨q, 0⟩) := by simp only [rdCnt, e]; simp [h2]
          rw [e1, e2]
          dsimp only
          rw [if_neg h3]
          exact ⟨rfl, fun _ => by omega⟩
        · have h3 : 0 < n.toNat ∧ n.toNat ≠ all := by omega
          have e2 : rdCnt s V all r = (0, ⟨q, 4⟩) := by simp only [rdCnt, e]; simp [h2]
          rw [e1, e2]
          dsimp only
          rw [if_pos h3]
          exact ⟨rfl, fun h => absurd h (by decide)⟩
  · rw [rdNum_b hb]
    have e2 : rdCnt s V all r = (0, r) := by simp [rdCnt, rdAny, hb]
    rw [e2]
    simp
/-- a prototype's ten cells. -/
def pQ (i0 : Int) (b1 : Bool) (i2 : Int) (v3 v4 v5 : Value) (i6 : Int) (t : ByteArray) (v8 v9 : Value) : List Value := [.int .i64 i0, .bool b1, .int .i64 i2, v3, v4, v5, .int .i64 i6, .string t, v8, v9]
theorem l3Bare_is (i0 : Int) (b1 : Bool) (i2 i6 : Int) (t : ByteArray) (o3 o4 o5 o8 o9 : Option Addr) (n3 n4 n5 n8 n9 c3 c4 c5 c8 c9 : Nat) (w : World) :
    Calls Tryz.prog 44 #[.agg #[.int .i64 i0, .bool b1, .int .i64 i2, .slice o3 n3 c3, .slice o4 n4 c4, .slice o5 n5 c5, .int .i64 i6, .string t, .slice o8 n8 c8, .slice o9 n9 c9]] w fun e w' => (∃ r, e = .returned (.bool r) ∧ (r = true ↔ (t.size = 0 ∧ n8 = 0 ∧ n9 = 0))) ∧ Below w.heap.size w w' := by
  by_cases h1 : t.size = 0
  · by_cases h2 : n8 = 0
    · by_cases h3 : n9 = 0
      · go_enter Tryz.func44, Tryz.ntmps44
        go_wp2_with fail
        go_ret
        exact ⟨⟨true, rfl, by simp [h1, h2, h3]⟩, by go_grown⟩
      · go_enter Tryz.func44, Tryz.ntmps44
        go_wp2_with fail
        go_ret
        exact ⟨⟨((n9 : Int) == 0), rfl, by simp [h1, h2, h3]⟩, by go_grown⟩
    · go_enter Tryz.func44, Tryz.ntmps44
      go_wp2_with fail
      go_ret
      exact ⟨⟨false, rfl, by simp [h1, h2]⟩, by go_grown⟩
  · go_enter Tryz.func44, Tryz.ntmps44
    go_wp2_with fail
    go_ret
    exact ⟨⟨false, rfl, by simp [h1]⟩, by go_grown⟩
end Go.Proofs.YtpobiffihiaakaaGreatDoor

import Derived.Test.YtpobiffihiaakaaGreatDoorLtA
namespace Go.Proofs.YtpobiffihiaakaaGreatDoor
open Go.RowKit
set_option linter.unusedVariables false
set_option linter.unusedSimpArgs false
set_option maxRecDepth 100000
set_option maxHeartbeats 1000000
/-- all but two blocks are as they were. -/
structure Ex2 (R P : Nat) (w w' : World) : Prop where
  os : w'.os = w.os
  tape : w'.tape = w.tape
  output : w'.output = w.output
  size : w.heap.size ≤ w'.heap.size
  block : ∀ k, k < w.heap.size → k ≠ R → k ≠ P → w'.heap[k]? = w.heap[k]?
theorem Ex2.refl (R P : Nat) (w : World) : Ex2 R P w w := ⟨rfl, rfl, rfl, Nat.le_refl _, fun _ _ _ _ => rfl⟩
theorem Ex2.trans {R P : Nat} {a b c : World} (h : Ex2 R P a b) (k : Ex2 R P b c) : Ex2 R P a c :=
  ⟨k.os.trans h.os, k.tape.trans h.tape, k.output.trans h.output, Nat.le_trans h.size k.size, fun i hi hR hP => (k.block i (Nat.lt_of_lt_of_le hi h.size) hR hP).trans (h.block i hi hR hP)⟩
theorem Ex.two {R : Nat} {a b : World} (P : Nat) (h : Ex R a b) : Ex2 R P a b := ⟨h.os, h.tape, h.output, h.size, fun i hi hR _ => h.block i hi hR⟩
theorem Ex2.set {R P : Nat} {a b : World} (h : Ex2 R P a b) (k : Nat) (v : Value) : Ex2 R P a (b.setCell ⟨P, k, none⟩ v) :=
  ⟨h.os, h.tape, h.output, by rw [World.size_setCell]; exact h.size, fun i hi hR hP => (Below.heap_setCell _ _ _ _ hP).trans (h.block i hi hR hP)⟩
theorem Ex2.one {R P : Nat} {w a b : World} (h : Ex R w a) (k : Ex2 R P a b) (hP : w.heap.size ≤ P) : Ex R w b :=
  ⟨k.os.trans h.os, k.tape.trans h.tape, k.output.trans h.output, Nat.le_trans h.size k.size, fun i hi hR => (k.block i (Nat.lt_of_lt_of_le hi h.size) hR (by omega)).trans (h.block i hi hR)⟩
theorem own_ex2 {R P base : Nat} {e : TypeId} {z n : Nat} {y y' : World} {v : Value} {xs : List Value} (h : y.ownsRow base e z v n xs) (hR : R < base) (hP : P < base) (hb : Ex2 R P y y') : y'.ownsRow base e z v n xs := by
  refine ⟨h.1, ?_⟩
  rcases h.2 with hn | ⟨g, cap, cur, hv, hbb, hg, rest⟩
  · exact .inl hn
  · exact .inr ⟨g, cap, cur, hv, hbb, (hb.block g (Array.getElem?_eq_some_iff.1 hg).1 (by omega) (by omega)).trans hg, rest⟩
theorem ba_empty1 {t : ByteArray} (h : t.size = 0) : t = ⟨#[]⟩ := ByteArray.ext (Array.eq_empty_of_size_eq_zero h)
/-- has debug texts. -/
theorem hasDebug1 (c0 c1 c2 c3 c4 c5 c6 : Value) (t : ByteArray) (o8 o9 : Option Addr) (n8 k8 n9 k9 : Nat) (hc : ∀ u ∈ [c0, c1, c2, c3, c4, c5, c6], u.oneCell' = true) (w : World) :
    Calls Tryz.prog 84 #[.agg #[c0, c1, c2, c3, c4, c5, c6, .string t, .slice o8 n8 k8, .slice o9 n9 k9]] w fun e w' => e = .returned (.bool (decide (¬ (t.size = 0 ∧ n8 = 0 ∧ n9 = 0)))) ∧ Below w.heap.size w w' := by
  by_cases h1 : t.size = 0
  · obtain rfl := ba_empty1 h1
    by_cases h2 : n8 = 0
    · by_cases h3 : n9 = 0
      · subst h2 h3
        go_enter Tryz.func84, Tryz.ntmps84
        go_wp2_with fail
        go_ret
        exact ⟨by simp [ByteArray.size], by go_grown⟩
      · have h3' : 0 < n9 := by omega
        subst h2
        go_enter Tryz.func84, Tryz.ntmps84
        go_wp2_with fail
        go_ret
        exact ⟨by simp [ByteArray.size, h3, h3'], by go_grown⟩
    · have h2' : 0 < n8 := by omega
      go_enter Tryz.func84, Tryz.ntmps84
      go_wp2_with fail
      go_ret
      exact ⟨by simp [ByteArray.size, h2, h2'], by go_grown⟩
  · have h1' := text_some1 t (by omega)
    go_enter Tryz.func84, Tryz.ntmps84
    go_wp2_with fail
    go_ret
    exact ⟨by simp [h1], by go_grown⟩
/-- the debug texts. -/
noncomputable def rdDbg (s : ByteArray) (V : Nat → Option (Int × Nat)) (nc nu : Nat) (r : RS) : (ByteArray × List Int × List ByteArray) × RS :=
  let t := rdText s V r
  let a := rdCnt s V nc t.2
  let ls := rdSev (rdAny s V) a.1.toNat a.2 []
  let b := rdCnt s V nu ls.2
  let ns := rdSev (rdText s V) b.1.toNat b.2 []
  ((t.1, ls.1, ns.1), if t.1.size = 0 ∧ ls.1.length = 0 ∧ ns.1.length = 0 then ns.2.fail 3 else ns.2)
end Go.Proofs.YtpobiffihiaakaaGreatDoor

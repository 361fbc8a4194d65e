import Derived.Test.YtckapapejfnojaaGreatDoorChK
namespace Go.Proofs.YtckapapejfnojaaGreatDoor
open Go.RowKit
set_option linter.unusedVariables false
set_option linter.unusedSimpArgs false

/-- the ends from number m on stand in the row. -/
def EndsFrom (K : Nat → Int) (n m : Nat) (g : Nat → Value) : Prop := ∀ j, m ≤ j → j < n → ∃ (e h : Nat), g j = .int .i64 (e : Int) ∧ Fo K n 1 j e h

/-- what treeEnds answers. -/
def EndsIs (K : Nat → Int) (n B : Nat) (w : World) (v : Value) : Prop :=
  (v = .slice none 0 0 ∧ ∀ h, ¬ Fo K n 1 0 n h) ∨
  (∃ E : Nat → Nat, 0 < n ∧ v = .slice (some ⟨B, 0, none⟩) n n ∧ w.rowIs B 3 n (fun j => .int .i64 (E j : Int)) ∧ (∀ i, i < n → ∃ h, Fo K n 1 i (E i) h) ∧ E 0 = n)

theorem EndsFrom.store {K : Nat → Int} {n i e h : Nat} {g : Nat → Value} (hg : EndsFrom K n (i + 1) g) (t : Fo K n 1 i e h) : EndsFrom K n i (fun j => if j = i then .int .i64 (e : Int) else g j) := by
  intro j hj hn
  by_cases hji : j = i
  · subst hji
    exact ⟨e, h, by simp, t⟩
  · obtain ⟨e', h', he, t'⟩ := hg j (by omega) hn
    exact ⟨e', h', by simp [hji, he], t'⟩

theorem no_tree_neg {K : Nat → Int} {n i : Nat} (hi : i < n) (hk : K i < 0) : ∀ h, ¬ Fo K n 1 0 n h := fun h t => by
  obtain ⟨e, g, u⟩ := t.within i (by omega) hi
  obtain ⟨_, _, _, h0, _⟩ := u.one
  omega
theorem no_tree_end {K : Nat → Int} {n i k h : Nat} (hi : i < n) (hk : (k : Int) < K i) (t : Fo K n k (i + 1) n h) : ∀ h, ¬ Fo K n 1 0 n h := fun h' t0 => by
  obtain ⟨e, g, u⟩ := t0.within i (by omega) hi
  obtain ⟨_, _, _, h0, u'⟩ := u.one
  obtain ⟨d, hd⟩ : ∃ d, (K i).toNat = k + (1 + d) := ⟨(K i).toNat - k - 1, by omega⟩
  rw [hd] at u'
  obtain ⟨m, g1, g2, u1, u2, _⟩ := Fo.split k (1 + d) u'
  obtain ⟨rfl, _⟩ := t.det u1
  obtain ⟨m', g3, g4, u3, u4, _⟩ := Fo.split 1 d u2
  obtain ⟨_, _, hlt, _, _⟩ := u3.one
  omega

theorem EndsIs.made {K : Nat → Int} {n B : Nat} {w : World} {g : Nat → Value} (hn : 0 < n) (hr : w.rowIs B 3 n g) (hg : EndsFrom K n 0 g) (h0 : g 0 = .int .i64 (n : Int)) : EndsIs K n B w (.slice (some ⟨B, 0, none⟩) n n) := by
  refine .inr ⟨fun j => (intOf (g j)).toNat, hn, rfl, hr.congr fun i hi => ?_, fun i hi => ?_, ?_⟩
  · obtain ⟨e, h, he, _⟩ := hg i (by omega) hi
    simp [he, intOf]
  · obtain ⟨e, h, he, t⟩ := hg i (by omega) hi
    refine ⟨h, ?_⟩
    simpa [he, intOf] using t
  · simp [h0, intOf]
theorem no_tree_first {K : Nat → Int} {n : Nat} {g : Nat → Value} {e : Int} (hn : 0 < n) (hg : EndsFrom K n 0 g) (he : g 0 = .int .i64 e) (hne : e ≠ (n : Int)) : ∀ h, ¬ Fo K n 1 0 n h := fun h t => by
  obtain ⟨e', h', he', t'⟩ := hg 0 (by omega) hn
  rw [he] at he'
  have := (t.det t').1
  simp only [Value.int.injEq, true_and] at he'
  omega

set_option maxRecDepth 100000 in
set_option maxHeartbeats 4000000 in
theorem treeEnds_in (ao : Option Addr) (n cap : Nat) (K : Nat → Int) (w : World) (hn : n ≤ 200)
    (hc : 0 < n → ∃ b o, ao = some ⟨b, o, none⟩ ∧ b < w.heap.size ∧ ∀ i, i < n → w.cell? ⟨b, o + i * 10 + 6, none⟩ = some (.int .i64 (K i))) :
    Calls Tryz.prog 41 #[.slice ao n cap] w fun e w' => (∃ v, e = .returned v ∧ EndsIs K n w.heap.size w' v) ∧ Below w.heap.size w w' := by
  have hmk := run_make_rows 34 3 (.int .i64 0) 1 8 Tryz.underlying34 (by kernel_rfl) n (by omega) (by omega)
  have hc' : Hid (0 < n → ∃ b o, ao = some ⟨b, o, none⟩ ∧ b < w.heap.size ∧ ∀ i, i < n → w.cell? ⟨b, o + i * 10 + 6, none⟩ = some (.int .i64 (K i))) := hc
  clear hc
  go_enter Tryz.func41, Tryz.ntmps41
  go_wp2_with fail
  obtain ⟨g0, hg0⟩ := rowIs_madeW w (.int .i64 0) n 1 3
  have bw0 := below_madeW w (.int .i64 0) n 1 3
  generalize madeW w (.int .i64 0) n 1 3 = w0 at hg0 bw0 ⊢
  rw [Nat.mul_one] at hg0
  clear hmk
  go_loopw [4] (fun i wr => ∃ (m : Nat) (g : Nat → Value), i = .int .i64 ((m : Int) - 1) ∧ m ≤ n ∧ Below w.heap.size w wr ∧ Hid (wr.rowIs w.heap.size 3 n g ∧ EndsFrom K n m g)) (fun i _ => (intOf i + 1).toNat)
  case atStart => exact ⟨n, g0, rfl, by omega, bw0, hg0, fun j h1 h2 => by omega⟩
  case round =>
    obtain ⟨m, g, rfl, q1, q2, q3⟩ := hrel
    by_cases hm : m = 0
    · subst hm
      by_cases hn0 : n = 0
      · have hno : Hid (∀ h, ¬ Fo K n 1 0 n h) := fun h t => by have := t.le.1; omega
        have hn0' : (n : Int) = 0 := by omega
        go_wp2_with fail
        go_ret
        exact ⟨⟨_, rfl, .inl ⟨rfl, hno.out⟩⟩, q2⟩
      · have d0 := q3.out.1.cell (show 0 < n by omega)
        obtain ⟨e, h, he, t⟩ := q3.out.2 0 (by omega) (by omega)
        rw [he] at d0
        have hn0' : ¬ (n : Int) = 0 := by omega
        by_cases hen : (e : Int) = (n : Int)
        · have hfin : Hid (EndsIs K n w.heap.size wr (.slice (some ⟨w.heap.size, 0, none⟩) n n)) := EndsIs.made (by omega) q3.out.1 q3.out.2 (by rw [he, hen])
          clear t he q3
          go_wp2_with fail
          go_ret
          exact ⟨⟨_, rfl, hfin.out⟩, q2⟩
        · have hno : Hid (∀ h, ¬ Fo K n 1 0 n h) := no_tree_first (by omega) q3.out.2 he hen
          have hne : ((e : Int) != (n : Int)) = true := by simpa using hen
          clear t he q3
          go_wp2_with fail
          go_ret
          exact ⟨⟨_, rfl, .inl ⟨rfl, hno.out⟩⟩, q2⟩
    · obtain ⟨i, rfl⟩ : ∃ i, m = i + 1 := ⟨m - 1, by omega⟩
      have hei : (((i + 1 : Nat) : Int) - 1) = (i : Int) := by omega
      rw [hei]
      obtain ⟨b, o, rfl, hb, hcc⟩ := hc'.out (by omega)
      have c6 := hcc i (by omega)
      rw [← q2.cell (p := ⟨b, _, none⟩) hb] at c6
      have hin : (i : Int) < (n : Int) := by omega
      clear hcc hei
      by_cases hk : K i < 0
      · have hno : Hid (∀ h, ¬ Fo K n 1 0 n h) := no_tree_neg (by omega) hk
        go_wp2_with fail
        go_ret
        exact ⟨⟨_, rfl, .inl ⟨rfl, hno.out⟩⟩, q2⟩
      · go_wp2_with fail
        go_loopw [5, 29] (fun v k ws => ∃ (e k' : Nat), v = .int .i64 (e : Int) ∧ k = .int .i64 (k' : Int) ∧ wr = ws ∧ (k' : Int) ≤ K i ∧ e ≤ n ∧ i + 1 ≤ e ∧ k' ≤ n ∧ Hid (∃ h, Fo K n k' (i + 1) e h)) (fun _ k _ => n - (intOf k).toNat)
        case atStart => exact ⟨i + 1, 0, by simp, rfl, rfl, by omega, by omega, by omega, by omega, ⟨0, .nil⟩⟩
        case round =>
          obtain ⟨e, k, rfl, rfl, rfl, r1, r2, r3, r4, r5⟩ := hrel
          by_cases hkk : (k : Int) < K i
          · by_cases hen : e = n
            · have hno : Hid (∀ h, ¬ Fo K n 1 0 n h) := by
                obtain ⟨h, t⟩ := r5.out
                subst hen
                exact no_tree_end (by omega) hkk t
              have hen' : (e : Int) = (n : Int) := by omega
              clear r5 q3
              go_wp2_with fail
              go_ret
              exact ⟨⟨_, rfl, .inl ⟨rfl, hno.out⟩⟩, q2⟩
            · have hen' : ¬ (e : Int) = (n : Int) := by omega
              have hel : (e : Int) < (n : Int) := by omega
              have d0 := q3.out.1.cell (show e < n by omega)
              obtain ⟨e2, h2, he2, t2⟩ := q3.out.2 e (by omega) (by omega)
              rw [he2] at d0
              have hnew : Hid (∃ h, Fo K n (k + 1) (i + 1) e2 h) := by
                obtain ⟨h, t⟩ := r5.out
                exact ⟨_, t.join t2⟩
              have le2 := t2.le
              have hkn : k + 1 ≤ n := by
                obtain ⟨h, t⟩ := r5.out
                have := t.le.1
                omega
              clear r5 he2 t2
              go_wp2_with fail
              go_roundw
              case rel => exact ⟨e2, k + 1, rfl, rfl, by first | trivial | rfl, by omega, by omega, by omega, by omega, hnew⟩
              case measure => simp [intOf]; omega
          · have d0 := q3.out.1.cell (show i < n by omega)
            have f0 := q3.out.1.frozen i
            have q6 : Hid ((wr.setCell ⟨w.heap.size, i, none⟩ (.int .i64 (e : Int))).rowIs w.heap.size 3 n (fun j => if j = i then .int .i64 (e : Int) else g j) ∧ EndsFrom K n i (fun j => if j = i then .int .i64 (e : Int) else g j)) := by
              obtain ⟨h, t⟩ := r5.out
              refine ⟨q3.out.1.set i _, q3.out.2.store (Fo.mk1 (by omega) (by omega) (g := h) ?_)⟩
              rwa [show (K i).toNat = k by omega]
            have q7 : Below w.heap.size w (wr.setCell ⟨w.heap.size, i, none⟩ (.int .i64 (e : Int))) := q2.setCell (p := ⟨w.heap.size, i, none⟩) (Nat.le_refl _) _
            generalize g i = gi at d0
            clear r5 q3
            go_wp2_with fail
            go_roundw
            case rel => exact ⟨i, _, rfl, by omega, q7, q6⟩
            case measure => simp [intOf]
end Go.Proofs.YtckapapejfnojaaGreatDoor

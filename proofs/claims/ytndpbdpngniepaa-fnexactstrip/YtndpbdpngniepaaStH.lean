import Derived.Test.YtndpbdpngniepaaStG
import Derived.Test.YtndpbdpngniepaaRound
namespace Go.Proofs.Ytndpbdpngniepaa
open Go.RowKit
set_option linter.unusedVariables false
set_option linter.unusedSimpArgs false

/-- the cells of a list, one behind the other. -/
def flat (z n : Nat) (C : Nat → Nat → Value) : List Value := (List.range (n * z)).map fun j => C (j / z) (j % z)
theorem flat_len (z n : Nat) (C : Nat → Nat → Value) : (flat z n C).length = n * z := by simp [flat]
theorem flat_get {z n : Nat} (C : Nat → Nat → Value) {i j : Nat} (hi : i < n) (hj : j < z) : (flat z n C)[i * z + j]? = some (C i j) := by
  have hlt := lt_mul_of hi hj
  unfold flat
  rw [List.getElem?_map, List.getElem?_range hlt]
  simp only [Option.map_some]
  rw [show (i * z + j) / z = i by rw [Nat.mul_comm, Nat.mul_add_div (by omega), Nat.div_eq_of_lt hj]; rfl, show (i * z + j) % z = j by rw [Nat.mul_comm, Nat.mul_add_mod, Nat.mod_eq_of_lt hj]]
theorem flat_at {z n : Nat} (hz : 0 < z) (C : Nat → Nat → Value) {k : Nat} {u : Value} (h : (flat z n C)[k]? = some u) : k < n * z ∧ u = C (k / z) (k % z) := by
  have hlt : k < n * z := by
    have := (List.getElem?_eq_some_iff.1 h).1
    rwa [flat_len] at this
  refine ⟨hlt, ?_⟩
  unfold flat at h
  rw [List.getElem?_map, List.getElem?_range hlt] at h
  exact (Option.some.inj h).symm
theorem own_of_ownsRow {w : World} {base : Nat} {e : TypeId} {z n : Nat} {v : Value} {C : Nat → Nat → Value} (h : w.ownsRow base e z v n (flat z n C)) (hn : n ≤ 9223372036854775807) :
    ∃ B, OwnArr w v z n C B ∧ (0 < n → base ≤ B ∧ B < w.heap.size) := by
  obtain ⟨_, h2⟩ := h
  rcases h2 with ⟨rfl, rfl⟩ | ⟨g, cap, cur, rfl, hb, hc, h3, h4, h5, h6⟩
  · exact ⟨0, ⟨none, 0, rfl, hn, fun h => by omega⟩, fun h => by omega⟩
  · have hlt := (Array.getElem?_eq_some_iff.1 hc).1
    have hle : n * z ≤ cap * z := Nat.mul_le_mul_right z h3
    refine ⟨g, ⟨_, cap, rfl, hn, fun _ => ⟨rfl, e, cap * z, fun j => cur.toList.getD j undef, ⟨cur, hc, h5, fun i hi => ?_⟩, hle, fun i hi j hj => ?_⟩⟩, fun _ => ⟨hb, hlt⟩⟩
    · rw [← Array.getElem?_toList]
      rw [List.getElem?_eq_getElem (by simp; omega)]
      simp [List.getD, show i < cur.size by omega]
    · have hlt2 := lt_mul_of hi hj
      have hg := flat_get C hi hj
      rw [← h6, List.getElem?_take_of_lt hlt2] at hg
      show cur.toList.getD (i * z + j) undef = C i j
      simp only [List.getD, hg, Option.getD_some]


set_option maxRecDepth 100000 in
set_option maxHeartbeats 1000000 in
theorem cloneInts_in (s : Sl Int) (v : Value) (w : World) (hv : IsInts .u32 (· < w.heap.size) w v s) (hs : s.n ≤ 1048576) :
    Calls Try.prog 59 #[v] w fun e w' => (∃ v' B, e = .returned v' ∧ OwnArr w' v' 1 s.n (iC .u32 s.f) B ∧ (0 < s.n → w.heap.size ≤ B ∧ B < w'.heap.size)) ∧ Below w.heap.size w w' := by
  obtain ⟨ao, cap, rfl, hn, hc⟩ := hv
  obtain ⟨n, f⟩ := s
  simp only at hn hc hs ⊢
  obtain ⟨i0, hi, hz0, hz1, hz2⟩ := info_parts (show (Try.prog.info? 49).map (fun i => (i.zero, i.size, i.bytes)) = some (some (.int .u32 0), 1, 4) by kernel_rfl)
  cases ao with
  | none =>
    have hn0 : n = 0 := by
      by_cases h : 0 < n
      · obtain ⟨b, o, he, _⟩ := hc h
        cases he
      · omega
    subst hn0
    have hnil := fun w => Lib.run_eql_slice_nil (P := Try.prog) w 55 49 none 0 cap 0 0 Try.underlying55
    go_enter Try.func59, Try.ntmps59
    go_wp2_with fail
    go_ret
    exact ⟨⟨_, 0, rfl, ⟨none, 0, rfl, by omega, fun h => by omega⟩, fun h => by omega⟩, by go_grown⟩
  | some ad =>
    have hnil := fun w => Lib.run_eql_slice_nil (P := Try.prog) w 55 49 (some ad) n cap 0 0 Try.underlying55
    have hnews : Hid (∀ j u, (flat 1 n (iC .u32 f))[j]? = some u → (w.alloc (.cells #[] 49)).cell? (ad.add j) = some u) := fun j u hu => by
      obtain ⟨hlt, rfl⟩ := flat_at (by omega) _ hu
      have hpos : 0 < n := by
        rcases Nat.eq_zero_or_pos n with h | h
        · subst h; simp at hlt
        · exact h
      obtain ⟨b, o, he, hb, hcc⟩ := hc hpos
      obtain rfl := Option.some.inj he
      have hq := hcc (j / 1) (by omega) (j % 1) (by omega)
      have e1 : o + j / 1 * 1 + j % 1 = o + j := by omega
      rw [e1] at hq
      have e2 : (⟨b, o, none⟩ : Addr).add j = ⟨b, o + j, none⟩ := by unfold Addr.add; split <;> simp_all
      rw [e2]
      exact (((Below.refl w.heap.size w).alloc (Nat.le_refl _) _).cell (p := ⟨b, o + j, none⟩) hb).trans hq
    have hone : Hid (∀ u ∈ flat 1 n (iC .u32 f), u.oneCell' = true) := fun u hu => by
      unfold flat at hu
      obtain ⟨j, _, rfl⟩ := List.mem_map.1 hu
      rfl
    clear hc
    go_enter Try.func59, Try.ntmps59
    go_wp2_with (at_builtin; refine wpList_append_own _ rfl _ _ 55 rfl w.heap.size 49 i0 (.int .u32 0) 1 4 Try.underlying55 hi hz0 hz1 hz2 rfl (by decide) _ 0 [] rfl (World.ownsRow_made w #[] 0 (Nat.le_refl _) (by simp) (by simp)) ad n cap (flat 1 n (iC .u32 f)) rfl (flat_len _ _ _) hnews.out hone.out (by simp only [maxLen]; omega) (by omega) (by simp) ?_; intro v' w1 hown hgrow _; obtain ⟨B, hO, hB⟩ := own_of_ownsRow (n := n) (by simpa using hown) hn)
    have hb1 : Hid (Below w.heap.size w w1) := ((Below.refl _ w).alloc (Nat.le_refl _) _).grown hgrow (by simp) (fun k e => by cases e; exact Nat.le_refl _)
    have hO' : Hid (OwnArr w1 v' 1 n (iC .u32 f) B ∧ (0 < n → w.heap.size ≤ B ∧ B < w1.heap.size)) := ⟨hO, hB⟩
    clear hO hB hown hgrow
    go_ret
    exact ⟨⟨_, B, rfl, hO'.out.1, hO'.out.2⟩, hb1.out⟩

set_option maxRecDepth 100000 in
set_option maxHeartbeats 1000000 in
theorem cloneVals_in (s : Sl VD) (v : Value) (w : World) (hv : IsVals (· < w.heap.size) w v s) (hs : s.n ≤ 1048576) :
    Calls Try.prog 60 #[v] w fun e w' => (∃ v' B, e = .returned v' ∧ OwnArr w' v' 3 s.n (vC s.f) B ∧ (0 < s.n → w.heap.size ≤ B ∧ B < w'.heap.size)) ∧ Below w.heap.size w w' := by
  obtain ⟨⟨ao, cap, rfl, hn, hc⟩, -⟩ := hv
  obtain ⟨n, f⟩ := s
  simp only at hn hc hs ⊢
  obtain ⟨i0, hi, hz0, hz1, hz2⟩ := info_parts (show (Try.prog.info? 71).map (fun i => (i.zero, i.size, i.bytes)) = some (some (.agg #[.int .i64 0, .int .i64 0, .string ⟨#[]⟩]), 3, 32) by kernel_rfl)
  cases ao with
  | none =>
    have hn0 : n = 0 := by
      by_cases h : 0 < n
      · obtain ⟨b, o, he, _⟩ := hc h
        cases he
      · omega
    subst hn0
    have hnil := fun w => Lib.run_eql_slice_nil (P := Try.prog) w 56 71 none 0 cap 0 0 Try.underlying56
    go_enter Try.func60, Try.ntmps60
    go_wp2_with fail
    go_ret
    exact ⟨⟨_, 0, rfl, ⟨none, 0, rfl, by omega, fun h => by omega⟩, fun h => by omega⟩, by go_grown⟩
  | some ad =>
    have hnil := fun w => Lib.run_eql_slice_nil (P := Try.prog) w 56 71 (some ad) n cap 0 0 Try.underlying56
    have hnews : Hid (∀ j u, (flat 3 n (vC f))[j]? = some u → (w.alloc (.cells #[] 71)).cell? (ad.add j) = some u) := fun j u hu => by
      obtain ⟨hlt, rfl⟩ := flat_at (by omega) _ hu
      have hpos : 0 < n := by
        rcases Nat.eq_zero_or_pos n with h | h
        · subst h; simp at hlt
        · exact h
      obtain ⟨b, o, he, hb, hcc⟩ := hc hpos
      obtain rfl := Option.some.inj he
      have hq := hcc (j / 3) (by omega) (j % 3) (by omega)
      have e1 : o + j / 3 * 3 + j % 3 = o + j := by omega
      rw [e1] at hq
      have e2 : (⟨b, o, none⟩ : Addr).add j = ⟨b, o + j, none⟩ := by unfold Addr.add; split <;> simp_all
      rw [e2]
      exact (((Below.refl w.heap.size w).alloc (Nat.le_refl _) _).cell (p := ⟨b, o + j, none⟩) hb).trans hq
    have hone : Hid (∀ u ∈ flat 3 n (vC f), u.oneCell' = true) := fun u hu => by
      unfold flat at hu
      obtain ⟨j, _, rfl⟩ := List.mem_map.1 hu
      unfold vC
      split <;> rfl
    clear hc
    go_enter Try.func60, Try.ntmps60
    go_wp2_with (at_builtin; refine wpList_append_own _ rfl _ _ 56 rfl w.heap.size 71 i0 (.agg #[.int .i64 0, .int .i64 0, .string ⟨#[]⟩]) 3 32 Try.underlying56 hi hz0 hz1 hz2 rfl (by decide) _ 0 [] rfl (World.ownsRow_made w #[] 0 (Nat.le_refl _) (by simp) (by simp)) ad n cap (flat 3 n (vC f)) rfl (flat_len _ _ _) hnews.out hone.out (by simp only [maxLen]; omega) (by omega) (by simp) ?_; intro v' w1 hown hgrow _; obtain ⟨B, hO, hB⟩ := own_of_ownsRow (n := n) (by simpa using hown) hn)
    have hb1 : Hid (Below w.heap.size w w1) := ((Below.refl _ w).alloc (Nat.le_refl _) _).grown hgrow (by simp) (fun k e => by cases e; exact Nat.le_refl _)
    have hO' : Hid (OwnArr w1 v' 3 n (vC f) B ∧ (0 < n → w.heap.size ≤ B ∧ B < w1.heap.size)) := ⟨hO, hB⟩
    clear hO hB hown hgrow
    go_ret
    exact ⟨⟨_, B, rfl, hO'.out.1, hO'.out.2⟩, hb1.out⟩

set_option maxRecDepth 100000 in
set_option maxHeartbeats 1000000 in
theorem cloneUps_in (s : Sl UD) (v : Value) (w : World) (hv : IsUps (· < w.heap.size) w v s) (hs : s.n ≤ 1048576) :
    Calls Try.prog 61 #[v] w fun e w' => (∃ v' B, e = .returned v' ∧ OwnArr w' v' 2 s.n (uC s.f) B ∧ (0 < s.n → w.heap.size ≤ B ∧ B < w'.heap.size)) ∧ Below w.heap.size w w' := by
  obtain ⟨ao, cap, rfl, hn, hc⟩ := hv
  obtain ⟨n, f⟩ := s
  simp only at hn hc hs ⊢
  obtain ⟨i0, hi, hz0, hz1, hz2⟩ := info_parts (show (Try.prog.info? 73).map (fun i => (i.zero, i.size, i.bytes)) = some (some (.agg #[.bool false, .int .i64 0]), 2, 16) by kernel_rfl)
  cases ao with
  | none =>
    have hn0 : n = 0 := by
      by_cases h : 0 < n
      · obtain ⟨b, o, he, _⟩ := hc h
        cases he
      · omega
    subst hn0
    have hnil := fun w => Lib.run_eql_slice_nil (P := Try.prog) w 57 73 none 0 cap 0 0 Try.underlying57
    go_enter Try.func61, Try.ntmps61
    go_wp2_with fail
    go_ret
    exact ⟨⟨_, 0, rfl, ⟨none, 0, rfl, by omega, fun h => by omega⟩, fun h => by omega⟩, by go_grown⟩
  | some ad =>
    have hnil := fun w => Lib.run_eql_slice_nil (P := Try.prog) w 57 73 (some ad) n cap 0 0 Try.underlying57
    have hnews : Hid (∀ j u, (flat 2 n (uC f))[j]? = some u → (w.alloc (.cells #[] 73)).cell? (ad.add j) = some u) := fun j u hu => by
      obtain ⟨hlt, rfl⟩ := flat_at (by omega) _ hu
      have hpos : 0 < n := by
        rcases Nat.eq_zero_or_pos n with h | h
        · subst h; simp at hlt
        · exact h
      obtain ⟨b, o, he, hb, hcc⟩ := hc hpos
      obtain rfl := Option.some.inj he
      have hq := hcc (j / 2) (by omega) (j % 2) (by omega)
      have e1 : o + j / 2 * 2 + j % 2 = o + j := by omega
      rw [e1] at hq
      have e2 : (⟨b, o, none⟩ : Addr).add j = ⟨b, o + j, none⟩ := by unfold Addr.add; split <;> simp_all
      rw [e2]
      exact (((Below.refl w.heap.size w).alloc (Nat.le_refl _) _).cell (p := ⟨b, o + j, none⟩) hb).trans hq
    have hone : Hid (∀ u ∈ flat 2 n (uC f), u.oneCell' = true) := fun u hu => by
      unfold flat at hu
      obtain ⟨j, _, rfl⟩ := List.mem_map.1 hu
      unfold uC
      split <;> rfl
    clear hc
    go_enter Try.func61, Try.ntmps61
    go_wp2_with (at_builtin; refine wpList_append_own _ rfl _ _ 57 rfl w.heap.size 73 i0 (.agg #[.bool false, .int .i64 0]) 2 16 Try.underlying57 hi hz0 hz1 hz2 rfl (by decide) _ 0 [] rfl (World.ownsRow_made w #[] 0 (Nat.le_refl _) (by simp) (by simp)) ad n cap (flat 2 n (uC f)) rfl (flat_len _ _ _) hnews.out hone.out (by simp only [maxLen]; omega) (by omega) (by simp) ?_; intro v' w1 hown hgrow _; obtain ⟨B, hO, hB⟩ := own_of_ownsRow (n := n) (by simpa using hown) hn)
    have hb1 : Hid (Below w.heap.size w w1) := ((Below.refl _ w).alloc (Nat.le_refl _) _).grown hgrow (by simp) (fun k e => by cases e; exact Nat.le_refl _)
    have hO' : Hid (OwnArr w1 v' 2 n (uC f) B ∧ (0 < n → w.heap.size ≤ B ∧ B < w1.heap.size)) := ⟨hO, hB⟩
    clear hO hB hown hgrow
    go_ret
    exact ⟨⟨_, B, rfl, hO'.out.1, hO'.out.2⟩, hb1.out⟩
end Go.Proofs.Ytndpbdpngniepaa

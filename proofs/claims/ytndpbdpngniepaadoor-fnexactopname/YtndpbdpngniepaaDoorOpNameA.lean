import Derived.Test.YtndpbdpngniepaaDoorNames
namespace Go.Proofs.YtndpbdpngniepaaDoor
open Go.RowKit
set_option linter.unusedVariables false
set_option linter.unusedSimpArgs false
set_option maxRecDepth 100000 in
theorem l2Names_in (w : World) : Calls Tryd.prog 19 #[] w fun e w' => e = .returned (.slice (some ⟨w.heap.size, 0, none⟩) 34 34) ∧ w.alloc (.cells cells34 9) = w' := by
  go_enter Tryd.func19, Tryd.ntmps19
  go_wp2_with fail
  go_ret
  exact ⟨rfl, rfl⟩
/-- what OpName answers. -/
def nameOf (op : Int) (r : ByteArray) : Prop := (∃ k : Nat, k < 34 ∧ op = (k : Int) ∧ names[k]? = some r) ∨ (¬ (0 ≤ op ∧ op < 34) ∧ r = ⟨#[]⟩)
theorem nameOf_det {op : Int} {r r' : ByteArray} (h : nameOf op r) (h' : nameOf op r') : r = r' := by
  rcases h with ⟨k, hk, rfl, hr⟩ | ⟨hn, rfl⟩ <;> rcases h' with ⟨k', hk', he, hr'⟩ | ⟨hn', rfl⟩
  · obtain rfl : k = k' := by omega
    exact Option.some.inj (hr.symm.trans hr')
  · exact absurd ⟨by omega, by omega⟩ hn'
  · exact absurd ⟨by omega, by omega⟩ hn
  · rfl
theorem name_at {k : Nat} (hk : k < 34) : ∃ r, names[k]? = some r := ⟨_, List.getElem?_eq_getElem (by rw [names_len]; exact hk)⟩
set_option maxRecDepth 100000 in
theorem specOpName_in (op : Int) (w : World) : Calls Tryd.prog 13 #[.int .i64 op] w fun e w' => (∃ r, e = .returned (.string r) ∧ nameOf op r) ∧ Below w.heap.size w w' := by
  by_cases h0 : op < 0
  · go_enter Tryd.func13, Tryd.ntmps13
    go_wp2_with fail
    refine (l2Names_in _).mono ?_
    rintro e w1 ⟨rfl, rfl⟩
    have bw : Below w.heap.size w (w.alloc (.cells cells34 9)) := by go_grown
    generalize w.alloc (.cells cells34 9) = w1 at bw ⊢
    go_wp2_with fail
    go_ret
    exact ⟨⟨_, rfl, .inr ⟨by omega, rfl⟩⟩, bw⟩
  by_cases h1 : 34 ≤ op
  · go_enter Tryd.func13, Tryd.ntmps13
    go_wp2_with fail
    refine (l2Names_in _).mono ?_
    rintro e w1 ⟨rfl, rfl⟩
    have bw : Below w.heap.size w (w.alloc (.cells cells34 9)) := by go_grown
    generalize w.alloc (.cells cells34 9) = w1 at bw ⊢
    go_wp2_with fail
    go_ret
    exact ⟨⟨_, rfl, .inr ⟨by omega, rfl⟩⟩, bw⟩
  obtain ⟨k, rfl⟩ : ∃ k : Nat, op = (k : Int) := ⟨op.toNat, by omega⟩
  obtain ⟨r, hr⟩ := name_at (k := k) (by omega)
  have hr' : Hid (names[k]? = some r) := hr
  have hk : k < 34 := by omega
  go_enter Tryd.func13, Tryd.ntmps13
  go_wp2_with fail
  refine (l2Names_in _).mono ?_
  rintro e w1 ⟨rfl, rfl⟩
  have bw : Below w.heap.size w (w.alloc (.cells cells34 9)) := by go_grown
  have hc : (w.alloc (.cells cells34 9)).cell? ⟨w.heap.size, k, none⟩ = some (.string r) := by
    rw [World.cell?_alloc_new, ← Array.getElem?_toList, cells34_eq, List.getElem?_map, hr]
    rfl
  generalize w.alloc (.cells cells34 9) = w1 at bw hc ⊢
  clear hr
  go_wp2_with fail
  go_ret
  exact ⟨⟨_, rfl, .inl ⟨k, hk, rfl, hr'.out⟩⟩, bw⟩
theorem implOpName_in (op : Int) (w : World) (hN : Named w) : Calls Tryd.prog 14 #[.int .i64 op] w fun e w' => (∃ r, e = .returned (.string r) ∧ nameOf op r) ∧ Below w.heap.size w w' := by
  by_cases h0 : op < 0
  · go_enter Tryd.func14, Tryd.ntmps14
    go_wp2_with fail
    go_ret
    exact ⟨⟨_, rfl, .inr ⟨by omega, rfl⟩⟩, by go_grown⟩
  by_cases h1 : 34 ≤ op
  · go_enter Tryd.func14, Tryd.ntmps14
    go_wp2_with fail
    go_ret
    exact ⟨⟨_, rfl, .inr ⟨by omega, rfl⟩⟩, by go_grown⟩
  obtain ⟨k, rfl⟩ : ∃ k : Nat, op = (k : Int) := ⟨op.toNat, by omega⟩
  obtain ⟨r, hr⟩ := name_at (k := k) (by omega)
  have hr' : Hid (names[k]? = some r) := hr
  have hk : k < 34 := by omega
  have hc := hN.cell k hk
  rw [hr, Option.map_some] at hc
  clear hr hN
  go_enter Tryd.func14, Tryd.ntmps14
  go_wp2_with fail
  go_ret
  exact ⟨⟨_, rfl, .inl ⟨k, hk, rfl, hr'.out⟩⟩, by go_grown⟩
theorem opName_law (op : Int) (w : World) (hN : Named w) : Calls Tryd.prog 5 #[.int .i64 op] w fun e w' => e = .returned (.bool true) ∧ Below w.heap.size w w' := by
  go_enter Tryd.func5, Tryd.ntmps5
  go_wp2_with fail
  refine (specOpName_in op _).mono ?_
  rintro e w1 ⟨⟨r, rfl, hr⟩, b1⟩
  have hN1 := hN.below b1
  have hr' : Hid (nameOf op r) := hr
  clear hr hN
  go_wp2_with fail
  refine (implOpName_in op _ hN1).mono ?_
  rintro e w2 ⟨⟨r2, rfl, hr2⟩, b2⟩
  obtain rfl : r2 = r := nameOf_det hr2 hr'.out
  have hb : Below w.heap.size w w2 := b1.trans (b2.mono b1.size)
  clear hr2 hr' hN1
  go_wp2_with fail
  go_ret
  exact ⟨rfl, hb⟩
end Go.Proofs.YtndpbdpngniepaaDoor

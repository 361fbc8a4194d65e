import Derived.Test.YtenonpajjlppjaaGreatDoorGA
import Derived.Test.YtenonpajjlppjaaGreatDoorTak
import Derived.WalkKit
import Derived.WalkSmall
import Derived.Deep.Cut
import Derived.LaidMore
namespace Go.Proofs.YtenonpajjlppjaaGreatDoor
open Go.RowKit
set_option linter.unusedVariables false
set_option linter.unusedSimpArgs false
set_option maxRecDepth 100000
set_option maxHeartbeats 1000000
/-- the names of the operations. -/
def names : List ByteArray := [⟨#[109, 111, 118, 101]⟩, ⟨#[108, 111, 97, 100, 107]⟩, ⟨#[108, 111, 97, 100, 110, 105, 108]⟩, ⟨#[108, 111, 97, 100, 98, 111, 111, 108]⟩, ⟨#[103, 101, 116, 117, 112]⟩, ⟨#[115, 101, 116, 117, 112]⟩, ⟨#[110, 101, 119, 116, 97, 98, 108, 101]⟩, ⟨#[103, 101, 116, 116, 97, 98, 108, 101]⟩, ⟨#[115, 101, 116, 116, 97, 98, 108, 101]⟩, ⟨#[97, 100, 100]⟩, ⟨#[115, 117, 98]⟩, ⟨#[109, 117, 108]⟩, ⟨#[100, 105, 118]⟩, ⟨#[109, 111, 100]⟩, ⟨#[99, 111, 110, 99, 97, 116]⟩, ⟨#[110, 111, 116]⟩, ⟨#[110, 101, 103]⟩, ⟨#[108, 101, 110]⟩, ⟨#[106, 117, 109, 112]⟩, ⟨#[101, 113]⟩, ⟨#[108, 101, 115, 115]⟩, ⟨#[116, 101, 115, 116]⟩, ⟨#[99, 97, 108, 108]⟩, ⟨#[114, 101, 116, 117, 114, 110]⟩, ⟨#[118, 97, 114, 97, 114, 103]⟩, ⟨#[99, 108, 111, 115, 117, 114, 101]⟩, ⟨#[99, 108, 111, 115, 101]⟩, ⟨#[102, 111, 114, 112, 114, 101, 112]⟩, ⟨#[102, 111, 114, 108, 111, 111, 112]⟩, ⟨#[99, 114, 101, 97, 116, 101]⟩, ⟨#[114, 101, 115, 117, 109, 101]⟩, ⟨#[121, 105, 101, 108, 100]⟩, ⟨#[115, 116, 97, 116, 117, 115]⟩, ⟨#[101, 114, 114, 111, 114]⟩]
def cells34 : Array Value := #[.string ⟨#[109, 111, 118, 101]⟩, .string ⟨#[108, 111, 97, 100, 107]⟩, .string ⟨#[108, 111, 97, 100, 110, 105, 108]⟩, .string ⟨#[108, 111, 97, 100, 98, 111, 111, 108]⟩, .string ⟨#[103, 101, 116, 117, 112]⟩, .string ⟨#[115, 101, 116, 117, 112]⟩, .string ⟨#[110, 101, 119, 116, 97, 98, 108, 101]⟩, .string ⟨#[103, 101, 116, 116, 97, 98, 108, 101]⟩, .string ⟨#[115, 101, 116, 116, 97, 98, 108, 101]⟩, .string ⟨#[97, 100, 100]⟩, .string ⟨#[115, 117, 98]⟩, .string ⟨#[109, 117, 108]⟩, .string ⟨#[100, 105, 118]⟩, .string ⟨#[109, 111, 100]⟩, .string ⟨#[99, 111, 110, 99, 97, 116]⟩, .string ⟨#[110, 111, 116]⟩, .string ⟨#[110, 101, 103]⟩, .string ⟨#[108, 101, 110]⟩, .string ⟨#[106, 117, 109, 112]⟩, .string ⟨#[101, 113]⟩, .string ⟨#[108, 101, 115, 115]⟩, .string ⟨#[116, 101, 115, 116]⟩, .string ⟨#[99, 97, 108, 108]⟩, .string ⟨#[114, 101, 116, 117, 114, 110]⟩, .string ⟨#[118, 97, 114, 97, 114, 103]⟩, .string ⟨#[99, 108, 111, 115, 117, 114, 101]⟩, .string ⟨#[99, 108, 111, 115, 101]⟩, .string ⟨#[102, 111, 114, 112, 114, 101, 112]⟩, .string ⟨#[102, 111, 114, 108, 111, 111, 112]⟩, .string ⟨#[99, 114, 101, 97, 116, 101]⟩, .string ⟨#[114, 101, 115, 117, 109, 101]⟩, .string ⟨#[121, 105, 101, 108, 100]⟩, .string ⟨#[115, 116, 97, 116, 117, 115]⟩, .string ⟨#[101, 114, 114, 111, 114]⟩]
theorem cells34_eq : cells34.toList = names.map Value.string := rfl
theorem names_len : names.length = 34 := rfl
/-- the table lies in memory. -/
structure Named (w : World) : Prop where
  cell : ∀ i, i < 34 → w.cell? ⟨1, i, none⟩ = (names[i]?).map Value.string
  pos : 1 < w.heap.size
theorem Named.below {w w' : World} (h : Named w) (b : Below w.heap.size w w') : Named w' :=
  ⟨fun i hi => (b.cell (p := ⟨1, i, none⟩) h.pos).trans (h.cell i hi), Nat.lt_of_lt_of_le h.pos b.size⟩
set_option maxRecDepth 100000 in
theorem l2Names_in (w : World) : Calls Tryz.prog 103 #[] w fun e w' => e = .returned (.slice (some ⟨w.heap.size, 0, none⟩) 34 34) ∧ w.alloc (.cells cells34 9) = w' := by
  go_enter Tryz.func103, Tryz.ntmps103
  go_wp2_with fail
  go_ret
  exact ⟨rfl, rfl⟩
/-- what OpName answers. -/
def nameOf (op : Int) (r : ByteArray) : Prop := (∃ k : Nat, k < 34 ∧ op = (k : Int) ∧ names[k]? = some r) ∨ (¬ (0 ≤ op ∧ op < 34) ∧ r = ⟨#[]⟩)
theorem nameOf_det {op : Int} {r r' : ByteArray} (h : nameOf op r) (h' : nameOf op r') : r = r' := by
  rcases h with ⟨k, hk, rfl, hr⟩ | ⟨hn, rfl⟩ <;> rcases h' with ⟨k', hk', he, hr'⟩ | ⟨hn', rfl⟩
  · obtain rfl : k = k' := by omega
    exact Option.some.inj (hr.symm.trans hr')
  · exact absurd ⟨by omega, by omega⟩ hn'
  · exact absurd ⟨by omega, by omega⟩ hn
  · rfl
theorem name_at {k : Nat} (hk : k < 34) : ∃ r, names[k]? = some r := ⟨_, List.getElem?_eq_getElem (by rw [names_len]; exact hk)⟩
set_option maxRecDepth 100000 in
theorem specOpName_in (op : Int) (w : World) : Calls Tryz.prog 69 #[.int .i64 op] w fun e w' => (∃ r, e = .returned (.string r) ∧ nameOf op r) ∧ Below w.heap.size w w' := by
  by_cases h0 : op < 0
  · go_enter Tryz.func69, Tryz.ntmps69
    go_wp2_with fail
    refine (l2Names_in _).mono ?_
    rintro e w1 ⟨rfl, rfl⟩
    have bw : Below w.heap.size w (w.alloc (.cells cells34 9)) := by go_grown
    generalize w.alloc (.cells cells34 9) = w1 at bw ⊢
    go_wp2_with fail
    go_ret
    exact ⟨⟨_, rfl, .inr ⟨by omega, rfl⟩⟩, bw⟩
  by_cases h1 : 34 ≤ op
  · go_enter Tryz.func69, Tryz.ntmps69
    go_wp2_with fail
    refine (l2Names_in _).mono ?_
    rintro e w1 ⟨rfl, rfl⟩
    have bw : Below w.heap.size w (w.alloc (.cells cells34 9)) := by go_grown
    generalize w.alloc (.cells cells34 9) = w1 at bw ⊢
    go_wp2_with fail
    go_ret
    exact ⟨⟨_, rfl, .inr ⟨by omega, rfl⟩⟩, bw⟩
  obtain ⟨k, rfl⟩ : ∃ k : Nat, op = (k : Int) := ⟨op.toNat, by omega⟩
  obtain ⟨r, hr⟩ := name_at (k := k) (by omega)
  have hr' : Hid (names[k]? = some r) := hr
  have hk : k < 34 := by omega
  go_enter Tryz.func69, Tryz.ntmps69
  go_wp2_with fail
  refine (l2Names_in _).mono ?_
  rintro e w1 ⟨rfl, rfl⟩
  have bw : Below w.heap.size w (w.alloc (.cells cells34 9)) := by go_grown
  have hc : (w.alloc (.cells cells34 9)).cell? ⟨w.heap.size, k, none⟩ = some (.string r) := by
    rw [World.cell?_alloc_new, ← Array.getElem?_toList, cells34_eq, List.getElem?_map, hr]
    rfl
  generalize w.alloc (.cells cells34 9) = w1 at bw hc ⊢
  clear hr
  go_wp2_with fail
  go_ret
  exact ⟨⟨_, rfl, .inl ⟨k, hk, rfl, hr'.out⟩⟩, bw⟩
theorem implOpName_in (op : Int) (w : World) (hN : Named w) : Calls Tryz.prog 95 #[.int .i64 op] w fun e w' => (∃ r, e = .returned (.string r) ∧ nameOf op r) ∧ Below w.heap.size w w' := by
  by_cases h0 : op < 0
  · go_enter Tryz.func95, Tryz.ntmps95
    go_wp2_with fail
    go_ret
    exact ⟨⟨_, rfl, .inr ⟨by omega, rfl⟩⟩, by go_grown⟩
  by_cases h1 : 34 ≤ op
  · go_enter Tryz.func95, Tryz.ntmps95
    go_wp2_with fail
    go_ret
    exact ⟨⟨_, rfl, .inr ⟨by omega, rfl⟩⟩, by go_grown⟩
  obtain ⟨k, rfl⟩ : ∃ k : Nat, op = (k : Int) := ⟨op.toNat, by omega⟩
  obtain ⟨r, hr⟩ := name_at (k := k) (by omega)
  have hr' : Hid (names[k]? = some r) := hr
  have hk : k < 34 := by omega
  have hc := hN.cell k hk
  rw [hr, Option.map_some] at hc
  clear hr hN
  go_enter Tryz.func95, Tryz.ntmps95
  go_wp2_with fail
  go_ret
  exact ⟨⟨_, rfl, .inl ⟨k, hk, rfl, hr'.out⟩⟩, by go_grown⟩
end Go.Proofs.YtenonpajjlppjaaGreatDoor

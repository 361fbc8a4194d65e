import Derived.Test.YtndpbdpngniepaaDoorNames
import Derived.Laws.Rows
namespace Go.Proofs.YtndpbdpngniepaaDoor
open Go.RowKit
set_option linter.unusedVariables false
set_option linter.unusedSimpArgs false
set_option maxRecDepth 100000 in
theorem l2Names_in (w : World) : Calls Tryd.prog 19 #[] w fun e w' => e = .returned (.slice (some ⟨w.heap.size, 0, none⟩) 34 34) ∧ w.alloc (.cells cells34 9) = w' := by
  go_enter Tryd.func19, Tryd.ntmps19
  go_wp2_with fail
  go_ret
  exact ⟨rfl, rfl⟩
theorem name_at {k : Nat} (hk : k < 34) : ∃ r, names[k]? = some r := ⟨_, List.getElem?_eq_getElem (by rw [names_len]; exact hk)⟩
theorem text_ne {a b : ByteArray} (h : ¬ a = b) : (a.toList == b.toList) = false := by
  cases hb : a.toList == b.toList with
  | false => rfl
  | true => exact absurd (ByteArray.ext (Array.ext' (by have h2 := eq_of_beq hb; rwa [ByteArray.toList_eq, ByteArray.toList_eq] at h2))) h
/-- none of the first k names is it. -/
def NoneTo (nm : ByteArray) (k : Nat) : Prop := ∀ j, j < k → names[j]? ≠ some nm
/-- what OpCode answers. -/
def codeOf (nm : ByteArray) (r : Int) : Prop := (∃ k : Nat, k < 34 ∧ r = (k : Int) ∧ names[k]? = some nm ∧ NoneTo nm k) ∨ (r = -1 ∧ NoneTo nm 34)
theorem codeOf_det {nm : ByteArray} {r r' : Int} (h : codeOf nm r) (h' : codeOf nm r') : r = r' := by
  rcases h with ⟨k, hk, rfl, hr, hn⟩ | ⟨rfl, hn⟩ <;> rcases h' with ⟨k', hk', rfl, hr', hn'⟩ | ⟨rfl, hn'⟩
  · by_cases h1 : k < k'
    · exact absurd hr (hn' k h1)
    · by_cases h2 : k' < k
      · exact absurd hr' (hn k' h2)
      · omega
  · exact absurd hr (hn' k hk)
  · exact absurd hr' (hn k' hk')
  · rfl
theorem NoneTo.succ {nm r : ByteArray} {k : Nat} (h : NoneTo nm k) (hr : names[k]? = some r) (hne : r ≠ nm) : NoneTo nm (k + 1) := fun j hj => by
  by_cases hjk : j = k
  · subst hjk
    rw [hr]
    intro he
    exact hne (Option.some.inj he)
  · exact h j (by omega)
set_option maxRecDepth 100000 in
theorem specOpCode_in (nm : ByteArray) (w : World) : Calls Tryd.prog 15 #[.string nm] w fun e w' => (∃ r, e = .returned (.int .i64 r) ∧ codeOf nm r) ∧ Below w.heap.size w w' := by
  go_enter Tryd.func15, Tryd.ntmps15
  go_wp2_with fail
  refine (l2Names_in _).mono ?_
  rintro e w1 ⟨rfl, rfl⟩
  have bw : Below w.heap.size w (w.alloc (.cells cells34 9)) := by go_grown
  have hc : ∀ k, k < 34 → (w.alloc (.cells cells34 9)).cell? ⟨w.heap.size, k, none⟩ = (names[k]?).map Value.string := fun k hk => by
    rw [World.cell?_alloc_new, ← Array.getElem?_toList, cells34_eq, List.getElem?_map]
  generalize w.alloc (.cells cells34 9) = w1 at bw hc ⊢
  have hc' : Hid (∀ k, k < 34 → w1.cell? ⟨w.heap.size, k, none⟩ = (names[k]?).map Value.string) := hc
  clear hc
  go_wp2_with fail
  go_loopw [4] (fun i wr => ∃ k : Nat, i = .int .i64 (k : Int) ∧ k ≤ 34 ∧ w1 = wr ∧ Hid (NoneTo nm k)) (fun i _ => 34 - (intOf i).toNat)
  case atStart => exact ⟨0, rfl, by omega, rfl, fun j hj => by omega⟩
  case round =>
    obtain ⟨k, rfl, hk, rfl, hN⟩ := hrel
    by_cases h34 : k < 34
    · obtain ⟨r, hr⟩ := name_at h34
      have c := hc'.out k h34
      rw [hr, Option.map_some] at c
      have hr' : Hid (names[k]? = some r) := hr
      clear hr
      by_cases he : r = nm
      · subst he
        have hf : Hid (codeOf r (k : Int)) := .inl ⟨k, h34, rfl, hr'.out, hN.out⟩
        go_wp2_with fail
        go_ret
        exact ⟨⟨_, rfl, hf.out⟩, bw⟩
      · have hN' : Hid (NoneTo nm (k + 1)) := hN.out.succ hr'.out he
        have hbe : (r.toList == nm.toList) = false := text_ne he
        go_wp2_with fail
        go_roundw
        case rel => exact ⟨k + 1, rfl, by omega, by first | trivial | rfl, hN'⟩
        case measure => simp [intOf]; omega
    · obtain rfl : k = 34 := by omega
      go_wp2_with fail
      go_ret
      exact ⟨⟨_, rfl, .inr ⟨rfl, hN.out⟩⟩, bw⟩
theorem idx_0 (w : World) : (Instr.index 44 (.agg cells34) (.int .i64 0)).run Tryd.prog w = .ok (.string ⟨#[109, 111, 118, 101]⟩) w := by kernel_rfl
theorem idx_1 (w : World) : (Instr.index 44 (.agg cells34) (.int .i64 1)).run Tryd.prog w = .ok (.string ⟨#[108, 111, 97, 100, 107]⟩) w := by kernel_rfl
theorem idx_2 (w : World) : (Instr.index 44 (.agg cells34) (.int .i64 2)).run Tryd.prog w = .ok (.string ⟨#[108, 111, 97, 100, 110, 105, 108]⟩) w := by kernel_rfl
theorem idx_3 (w : World) : (Instr.index 44 (.agg cells34) (.int .i64 3)).run Tryd.prog w = .ok (.string ⟨#[108, 111, 97, 100, 98, 111, 111, 108]⟩) w := by kernel_rfl
theorem idx_4 (w : World) : (Instr.index 44 (.agg cells34) (.int .i64 4)).run Tryd.prog w = .ok (.string ⟨#[103, 101, 116, 117, 112]⟩) w := by kernel_rfl
theorem idx_5 (w : World) : (Instr.index 44 (.agg cells34) (.int .i64 5)).run Tryd.prog w = .ok (.string ⟨#[115, 101, 116, 117, 112]⟩) w := by kernel_rfl
theorem idx_6 (w : World) : (Instr.index 44 (.agg cells34) (.int .i64 6)).run Tryd.prog w = .ok (.string ⟨#[110, 101, 119, 116, 97, 98, 108, 101]⟩) w := by kernel_rfl
theorem idx_7 (w : World) : (Instr.index 44 (.agg cells34) (.int .i64 7)).run Tryd.prog w = .ok (.string ⟨#[103, 101, 116, 116, 97, 98, 108, 101]⟩) w := by kernel_rfl
theorem idx_8 (w : World) : (Instr.index 44 (.agg cells34) (.int .i64 8)).run Tryd.prog w = .ok (.string ⟨#[115, 101, 116, 116, 97, 98, 108, 101]⟩) w := by kernel_rfl
theorem idx_9 (w : World) : (Instr.index 44 (.agg cells34) (.int .i64 9)).run Tryd.prog w = .ok (.string ⟨#[97, 100, 100]⟩) w := by kernel_rfl
theorem idx_10 (w : World) : (Instr.index 44 (.agg cells34) (.int .i64 10)).run Tryd.prog w = .ok (.string ⟨#[115, 117, 98]⟩) w := by kernel_rfl
theorem idx_11 (w : World) : (Instr.index 44 (.agg cells34) (.int .i64 11)).run Tryd.prog w = .ok (.string ⟨#[109, 117, 108]⟩) w := by kernel_rfl
theorem idx_12 (w : World) : (Instr.index 44 (.agg cells34) (.int .i64 12)).run Tryd.prog w = .ok (.string ⟨#[100, 105, 118]⟩) w := by kernel_rfl
theorem idx_13 (w : World) : (Instr.index 44 (.agg cells34) (.int .i64 13)).run Tryd.prog w = .ok (.string ⟨#[109, 111, 100]⟩) w := by kernel_rfl
theorem idx_14 (w : World) : (Instr.index 44 (.agg cells34) (.int .i64 14)).run Tryd.prog w = .ok (.string ⟨#[99, 111, 110, 99, 97, 116]⟩) w := by kernel_rfl
theorem idx_15 (w : World) : (Instr.index 44 (.agg cells34) (.int .i64 15)).run Tryd.prog w = .ok (.string ⟨#[110, 111, 116]⟩) w := by kernel_rfl
theorem idx_16 (w : World) : (Instr.index 44 (.agg cells34) (.int .i64 16)).run Tryd.prog w = .ok (.string ⟨#[110, 101, 103]⟩) w := by kernel_rfl
theorem idx_17 (w : World) : (Instr.index 44 (.agg cells34) (.int .i64 17)).run Tryd.prog w = .ok (.string ⟨#[108, 101, 110]⟩) w := by kernel_rfl
theorem idx_18 (w : World) : (Instr.index 44 (.agg cells34) (.int .i64 18)).run Tryd.prog w = .ok (.string ⟨#[106, 117, 109, 112]⟩) w := by kernel_rfl
theorem idx_19 (w : World) : (Instr.index 44 (.agg cells34) (.int .i64 19)).run Tryd.prog w = .ok (.string ⟨#[101, 113]⟩) w := by kernel_rfl
theorem idx_20 (w : World) : (Instr.index 44 (.agg cells34) (.int .i64 20)).run Tryd.prog w = .ok (.string ⟨#[108, 101, 115, 115]⟩) w := by kernel_rfl
theorem idx_21 (w : World) : (Instr.index 44 (.agg cells34) (.int .i64 21)).run Tryd.prog w = .ok (.string ⟨#[116, 101, 115, 116]⟩) w := by kernel_rfl
theorem idx_22 (w : World) : (Instr.index 44 (.agg cells34) (.int .i64 22)).run Tryd.prog w = .ok (.string ⟨#[99, 97, 108, 108]⟩) w := by kernel_rfl
theorem idx_23 (w : World) : (Instr.index 44 (.agg cells34) (.int .i64 23)).run Tryd.prog w = .ok (.string ⟨#[114, 101, 116, 117, 114, 110]⟩) w := by kernel_rfl
theorem idx_24 (w : World) : (Instr.index 44 (.agg cells34) (.int .i64 24)).run Tryd.prog w = .ok (.string ⟨#[118, 97, 114, 97, 114, 103]⟩) w := by kernel_rfl
theorem idx_25 (w : World) : (Instr.index 44 (.agg cells34) (.int .i64 25)).run Tryd.prog w = .ok (.string ⟨#[99, 108, 111, 115, 117, 114, 101]⟩) w := by kernel_rfl
theorem idx_26 (w : World) : (Instr.index 44 (.agg cells34) (.int .i64 26)).run Tryd.prog w = .ok (.string ⟨#[99, 108, 111, 115, 101]⟩) w := by kernel_rfl
theorem idx_27 (w : World) : (Instr.index 44 (.agg cells34) (.int .i64 27)).run Tryd.prog w = .ok (.string ⟨#[102, 111, 114, 112, 114, 101, 112]⟩) w := by kernel_rfl
theorem idx_28 (w : World) : (Instr.index 44 (.agg cells34) (.int .i64 28)).run Tryd.prog w = .ok (.string ⟨#[102, 111, 114, 108, 111, 111, 112]⟩) w := by kernel_rfl
theorem idx_29 (w : World) : (Instr.index 44 (.agg cells34) (.int .i64 29)).run Tryd.prog w = .ok (.string ⟨#[99, 114, 101, 97, 116, 101]⟩) w := by kernel_rfl
theorem idx_30 (w : World) : (Instr.index 44 (.agg cells34) (.int .i64 30)).run Tryd.prog w = .ok (.string ⟨#[114, 101, 115, 117, 109, 101]⟩) w := by kernel_rfl
theorem idx_31 (w : World) : (Instr.index 44 (.agg cells34) (.int .i64 31)).run Tryd.prog w = .ok (.string ⟨#[121, 105, 101, 108, 100]⟩) w := by kernel_rfl
theorem idx_32 (w : World) : (Instr.index 44 (.agg cells34) (.int .i64 32)).run Tryd.prog w = .ok (.string ⟨#[115, 116, 97, 116, 117, 115]⟩) w := by kernel_rfl
theorem idx_33 (w : World) : (Instr.index 44 (.agg cells34) (.int .i64 33)).run Tryd.prog w = .ok (.string ⟨#[101, 114, 114, 111, 114]⟩) w := by kernel_rfl
theorem idx {k : Nat} {r : ByteArray} (hk : k < 34) (hr : names[k]? = some r) (w : World) : (Instr.index 44 (.agg cells34) (.int .i64 (k : Int))).run Tryd.prog w = .ok (.string r) w := by
  match k, hk, hr with
  | 0, _, hr => obtain rfl := Option.some.inj hr; exact idx_0 w
  | 1, _, hr => obtain rfl := Option.some.inj hr; exact idx_1 w
  | 2, _, hr => obtain rfl := Option.some.inj hr; exact idx_2 w
  | 3, _, hr => obtain rfl := Option.some.inj hr; exact idx_3 w
  | 4, _, hr => obtain rfl := Option.some.inj hr; exact idx_4 w
  | 5, _, hr => obtain rfl := Option.some.inj hr; exact idx_5 w
  | 6, _, hr => obtain rfl := Option.some.inj hr; exact idx_6 w
  | 7, _, hr => obtain rfl := Option.some.inj hr; exact idx_7 w
  | 8, _, hr => obtain rfl := Option.some.inj hr; exact idx_8 w
  | 9, _, hr => obtain rfl := Option.some.inj hr; exact idx_9 w
  | 10, _, hr => obtain rfl := Option.some.inj hr; exact idx_10 w
  | 11, _, hr => obtain rfl := Option.some.inj hr; exact idx_11 w
  | 12, _, hr => obtain rfl := Option.some.inj hr; exact idx_12 w
  | 13, _, hr => obtain rfl := Option.some.inj hr; exact idx_13 w
  | 14, _, hr => obtain rfl := Option.some.inj hr; exact idx_14 w
  | 15, _, hr => obtain rfl := Option.some.inj hr; exact idx_15 w
  | 16, _, hr => obtain rfl := Option.some.inj hr; exact idx_16 w
  | 17, _, hr => obtain rfl := Option.some.inj hr; exact idx_17 w
  | 18, _, hr => obtain rfl := Option.some.inj hr; exact idx_18 w
  | 19, _, hr => obtain rfl := Option.some.inj hr; exact idx_19 w
  | 20, _, hr => obtain rfl := Option.some.inj hr; exact idx_20 w
  | 21, _, hr => obtain rfl := Option.some.inj hr; exact idx_21 w
  | 22, _, hr => obtain rfl := Option.some.inj hr; exact idx_22 w
  | 23, _, hr => obtain rfl := Option.some.inj hr; exact idx_23 w
  | 24, _, hr => obtain rfl := Option.some.inj hr; exact idx_24 w
  | 25, _, hr => obtain rfl := Option.some.inj hr; exact idx_25 w
  | 26, _, hr => obtain rfl := Option.some.inj hr; exact idx_26 w
  | 27, _, hr => obtain rfl := Option.some.inj hr; exact idx_27 w
  | 28, _, hr => obtain rfl := Option.some.inj hr; exact idx_28 w
  | 29, _, hr => obtain rfl := Option.some.inj hr; exact idx_29 w
  | 30, _, hr => obtain rfl := Option.some.inj hr; exact idx_30 w
  | 31, _, hr => obtain rfl := Option.some.inj hr; exact idx_31 w
  | 32, _, hr => obtain rfl := Option.some.inj hr; exact idx_32 w
  | 33, _, hr => obtain rfl := Option.some.inj hr; exact idx_33 w
theorem block_of_var {W : World} (h : W.var? Tryd.prog "loop.example/s02979/impl.opNames" = some cells34) : ∃ t fr, W.heap[1]? = some (.cells cells34 t fr) := by
  unfold World.var? at h
  rw [gNames] at h
  simp only [Option.bind_some] at h
  split at h
  · rename_i cs t fr he
    obtain rfl := Option.some.inj h
    exact ⟨t, fr, he⟩
  · cases h
set_option maxRecDepth 100000 in
theorem implOpCode_in (nm : ByteArray) (w : World) (hv : ∃ t fr, w.heap[1]? = some (.cells cells34 t fr)) : Calls Tryd.prog 16 #[.string nm] w fun e w' => (∃ r, e = .returned (.int .i64 r) ∧ codeOf nm r) ∧ Below w.heap.size w w' := by
  obtain ⟨t, fr, hg⟩ := hv
  have hidx : Hid (∀ k : Nat, k < 34 → ∃ r, names[k]? = some r ∧ ∀ w, (Instr.index 44 (.agg cells34) (.int .i64 (k : Int))).run Tryd.prog w = .ok (.string r) w) := fun k hk => by
    obtain ⟨r, hr⟩ := name_at hk
    exact ⟨r, hr, idx hk hr⟩
  go_enter Tryd.func16, Tryd.ntmps16
  go_wp2_with (refine wpList_load_row rfl 44 _ rfl 1 rfl t _ fr _ hg Tryd.underlying44 rfl (by kernel_rfl) ?_)
  generalize cells34 = cs at hidx hg ⊢
  go_loopw [6] (fun i wr => ∃ k : Nat, i = .int .i64 (k : Int) ∧ k ≤ 34 ∧ w = wr ∧ Hid (NoneTo nm k)) (fun i _ => 34 - (intOf i).toNat)
  case atStart => exact ⟨0, rfl, by omega, rfl, fun j hj => by omega⟩
  case round =>
    obtain ⟨k, rfl, hk, rfl, hN⟩ := hrel
    by_cases h34 : k < 34
    · obtain ⟨r, hr, hi⟩ := hidx.out k h34
      have hr' : Hid (names[k]? = some r) := hr
      clear hr
      by_cases he : r = nm
      · subst he
        have hf : Hid (codeOf r (k : Int)) := .inl ⟨k, h34, rfl, hr'.out, hN.out⟩
        go_wp2_with fail
        go_ret
        exact ⟨⟨_, rfl, hf.out⟩, by go_grown⟩
      · have hN' : Hid (NoneTo nm (k + 1)) := hN.out.succ hr'.out he
        have hbe : (r.toList == nm.toList) = false := text_ne he
        go_wp2_with fail
        go_roundw
        case rel => exact ⟨k + 1, rfl, by omega, by first | trivial | rfl, hN'⟩
        case measure => simp [intOf]; omega
    · obtain rfl : k = 34 := by omega
      go_wp2_with fail
      go_ret
      exact ⟨⟨_, rfl, .inr ⟨rfl, hN.out⟩⟩, by go_grown⟩
theorem opCode_law (nm : ByteArray) (w : World) (hv : ∃ t fr, w.heap[1]? = some (.cells cells34 t fr)) : Calls Tryd.prog 6 #[.string nm] w fun e w' => e = .returned (.bool true) ∧ Below w.heap.size w w' := by
  by_cases hn : 1048576 < nm.size
  · go_enter Tryd.func6, Tryd.ntmps6
    go_wp2_with fail
    go_ret
    exact ⟨rfl, by go_grown⟩
  have hv' : Hid (∃ t fr, w.heap[1]? = some (.cells cells34 t fr)) := hv
  have h0 : 1 < w.heap.size := by
    obtain ⟨t, fr, h⟩ := hv
    exact (Array.getElem?_eq_some_iff.1 h).1
  clear hv
  go_enter Tryd.func6, Tryd.ntmps6
  go_wp2_with fail
  refine (specOpCode_in nm _).mono ?_
  rintro e w1 ⟨⟨r, rfl, hr⟩, b1⟩
  have hr' : Hid (codeOf nm r) := hr
  clear hr
  go_wp2_with fail
  refine (implOpCode_in nm _ (by obtain ⟨t, fr, h⟩ := hv'.out; exact ⟨t, fr, (b1.block 1 h0).trans h⟩)).mono ?_
  rintro e w2 ⟨⟨r2, rfl, hr2⟩, b2⟩
  obtain rfl : r2 = r := codeOf_det hr2 hr'.out
  have hb : Below w.heap.size w w2 := b1.trans (b2.mono b1.size)
  clear hr2 hr' hv'
  go_wp2_with fail
  go_ret
  exact ⟨rfl, hb⟩
end Go.Proofs.YtndpbdpngniepaaDoor

import Derived.Test.YtkanjbopfflioaaGreatDoorG02
import Derived.Test.YtkanjbopfflioaaGreatDoorG00
import Derived.WalkKit
import Derived.WalkSmall
import Derived.Deep.Cut
import Derived.LaidMore
namespace Go.Proofs.YtkanjbopfflioaaGreatDoor
section
open Go.RowKit Go.Lib Go.Shelf
set_option linter.unusedVariables false
set_option linter.unusedSimpArgs false
set_option maxRecDepth 100000
set_option maxHeartbeats 2000000
theorem info8 : (Tryz.prog.info? 5).map (fun i => (i.zero, i.size, i.bytes)) = some (some (.int .u8 0), 1, 1) := by kernel_rfl
theorem byte_cells {x : Int} (h0 : 0 ≤ x) (h1 : x ≤ 255) : strCells (⟨#[UInt8.ofNat x.toNat]⟩ : ByteArray) = [.int .u8 x] := by
  simp only [strCells, List.map_cons, List.map_nil]
  have : ((UInt8.ofNat x.toNat).toNat : Int) = x := by rw [UInt8.toNat_ofNat']; omega
  rw [this]
theorem l6Unhex_in (s : ByteArray) (hs : s.size ≤ 100000) (w : World) :
    Calls Tryz.prog 61 #[.string s] w fun e w' => HexEnds s e ∧ Below w.heap.size w w' := by
  obtain ⟨i0, hi, hz0, hz1, hz2⟩ := info_parts info8
  go_enter Tryz.func61, Tryz.ntmps61
  go_upto_region 2 with fail
  have sA : Buf (w.alloc (.cells #[] 5)) 5 (.slice (some ⟨w.heap.size, 0, none⟩) 0 0) ByteArray.empty := buf_made w _
  have bA : Below w.heap.size w (w.alloc (.cells #[] 5)) := by go_grown
  have hrel0 : Hid (Buf (w.alloc (.cells #[] 5)) 5 (.slice (some ⟨w.heap.size, 0, none⟩) 0 0) ByteArray.empty ∧ (∀ k, (Value.slice (some ⟨w.heap.size, 0, none⟩) 0 0).ownBlock = some k → w.heap.size ≤ k) ∧ Below w.heap.size w (w.alloc (.cells #[] 5)) ∧ HexAt s 0 ByteArray.empty) :=
    ⟨sA, fun k hk => by simp only [Value.ownBlock, Option.some.injEq] at hk; omega, bA, HexAt.start s⟩
  clear sA bA
  generalize w.alloc (.cells #[] 5) = w1 at hrel0 ⊢
  obtain ⟨B, hBe⟩ : ∃ B, w.heap.size = B := ⟨_, rfl⟩
  rw [hBe] at hrel0 ⊢
  replace hBe := hidR hBe
  go_wp2_with fail
  go_loopw [4, 5, 6, 7] (fun ov iv _ _ wr => ∃ (i : Nat) (X : ByteArray), iv = .int .i64 (i : Int) ∧ i ≤ s.size + 1 ∧ i % 2 = 0 ∧ X.size = i / 2 ∧ Hid (Buf wr 5 ov X ∧ (∀ k, ov.ownBlock = some k → B ≤ k) ∧ Below B w wr ∧ HexAt s i X)) (fun _ iv _ _ _ => s.size + 2 - (RowKit.intOf iv).toNat)
  case atStart => exact ⟨0, ByteArray.empty, rfl, by omega, rfl, rfl, hrel0.out⟩
  case round =>
    obtain ⟨i, X, rfl, hi1, hi2, hX, hq⟩ := hrel
    have hXs : X.size ≤ 100000 := by omega
    replace hX := hidR hX
    obtain ⟨wz, hwz⟩ : ∃ x, x = wr := ⟨_, rfl⟩
    subst hwz
    clear hrel0
    by_cases hlt : i + 1 < s.size
    · have hlI : (i : Int) + 1 < (s.size : Int) := by omega
      have hil : i < s.size := by omega
      have hc0 : 0 ≤ (s[i].toNat : Int) ∧ (s[i].toNat : Int) ≤ 255 := by have := s[i].toNat_lt; omega
      have hc1 : 0 ≤ (s[i + 1].toNat : Int) ∧ (s[i + 1].toNat : Int) ≤ 255 := by have := s[i + 1].toNat_lt; omega
      have d0 := hidR (l6Digit_in (s[i].toNat : Int) hc0.1 hc0.2 wz)
      have d1 := hidR (l6Digit_in (s[i + 1].toNat : Int) hc1.1 hc1.2 wz)
      have v0 := hexV_lt (s[i].toNat : Int)
      have v1 := hexV_lt (s[i + 1].toNat : Int)
      obtain ⟨x0, hx0⟩ : ∃ x, hexV (s[i].toNat : Int) = x := ⟨_, rfl⟩
      obtain ⟨x1, hx1⟩ : ∃ x, hexV (s[i + 1].toNat : Int) = x := ⟨_, rfl⟩
      rw [hx0] at d0 v0
      rw [hx1] at d1 v1
      replace hx0 := hidR hx0
      replace hx1 := hidR hx1
      go_wp2_with fail
      refine Calls.mono d0.out ?_
      rintro e y ⟨rfl, rfl⟩
      clear d0
      go_wp2_with fail
      refine Calls.mono d1.out ?_
      rintro e y ⟨rfl, rfl⟩
      clear d1
      by_cases hbad : x0 < 0 ∨ x1 < 0
      · have hno : Hid (unhexOf s = none) := hq.out.2.2.2.bad hlt (by rw [hx0.out, hx1.out]; exact hbad)
        have hbel := hq.out.2.2.1
        by_cases hb0 : x0 < 0
        · go_wp2_with fail
          exact bodyPost_ret (v := .tuple #[.string ⟨#[]⟩, .bool false]) (by simp [results, Tryz.results61, go_sem]) rfl ⟨⟨_, false, rfl, by simp, fun _ => hno.out⟩, by rw [hBe.out]; exact hbel⟩
        · have hb1 : x1 < 0 := by omega
          go_wp2_with fail
          exact bodyPost_ret (v := .tuple #[.string ⟨#[]⟩, .bool false]) (by simp [results, Tryz.results61, go_sem]) rfl ⟨⟨_, false, rfl, by simp, fun _ => hno.out⟩, by rw [hBe.out]; exact hbel⟩
      · have hb0 : ¬ x0 < 0 := by omega
        have hb1 : ¬ x1 < 0 := by omega
        have hB := hidR hq.out.1
        have hown := hidR hq.out.2.1
        have hbel := hidR hq.out.2.2.1
        have hnx := hidR (hq.out.2.2.2.step hlt (by rw [hx0.out]; omega) (by rw [hx1.out]; omega))
        rw [hx0.out, hx1.out] at hnx
        have hw8 : IntKind.u8.wrap (x0 * 16 + x1) = x0 * 16 + x1 := by rw [IntKind.wrap_u8]; omega
        obtain ⟨a0, c0, hform⟩ := hB.out.form
        subst hform
        clear hq hx0 hx1
        have hbc := hidR (byte_cells (x := x0 * 16 + x1) (by omega) (by omega))
        obtain ⟨S1, hS1⟩ : ∃ S, S = (⟨#[UInt8.ofNat (x0 * 16 + x1).toNat]⟩ : ByteArray) := ⟨_, rfl⟩
        have hS1z : S1.size = 1 := by rw [hS1]; rfl
        rw [← hS1] at hnx hbc
        clear hS1
        go_wp2_with (at_builtin; refine wpList_append_buf_news _ rfl (.tmp 31) (.tmp 37) 137 rfl 5 i0 Tryz.underlying137 hi hz0 hz1 hz2 _ X rfl (hB.out.keep (fun k hk => Below.heap_alloc _ _ _ (hB.out.lt k hk))) S1 ⟨wz.heap.size, 0, none⟩ 1 1 rfl hS1z (by omega) ?c1 ?c2 ?_)
        case c1 => rw [hbc.out]; exact World.news_of_block (heap_alloc_new _ _)
        case c2 => rw [hS1z]; omega
        intro v' w' hB2 hg hat
        obtain ⟨a1, c1, hform⟩ := hB2.form
        subst hform
        have hown2 : ∀ k, (Value.slice a1 (X ++ S1).size c1).ownBlock = some k → B ≤ k := by
          intro k hk
          rcases hat with e | e
          · rw [e] at hk; exact hown.out k hk
          · rw [e] at hk
            have := hbel.out.size
            simp only [World.size_alloc, Option.some.injEq] at hk
            rw [hBe.out] at this
            omega
        have hbel2 : Below B w w' := by
          have h9 : Below B w (wz.alloc (.cells #[.int .u8 (x0 * 16 + x1)] 5)) := hbel.out.alloc (by have := hbel.out.size; rw [hBe.out] at this; omega) _
          have h8 := h9.size
          rw [hBe.out] at h8
          refine h9.trans ⟨hg.os, hg.tape, hg.output, hg.size, fun k hk => hg.block k (by omega) (fun e => ?_)⟩
          have := hown.out k e.symm
          omega
        have hrel : Hid (Buf w' 5 (.slice a1 (X ++ S1).size c1) (X ++ S1) ∧ (∀ k, (Value.slice a1 (X ++ S1).size c1).ownBlock = some k → B ≤ k) ∧ Below B w w' ∧ HexAt s (i + 2) (X ++ S1)) := ⟨hB2, hown2, hbel2, hnx.out⟩
        have hsz9 : (X ++ S1).size = (i + 2) / 2 := by rw [ByteArray.size_append, hS1z, hX.out]; omega
        clear hB2 hown2 hbel2 hnx hB hown hbel hg hat hbc hi hz0 hz1 hz2
        obtain ⟨X2, hX2⟩ : ∃ Y, X ++ S1 = Y := ⟨_, rfl⟩
        rw [hX2] at hrel hsz9 ⊢
        clear hX2
        go_wp2_with fail
        go_roundw
        case rel => exact ⟨i + 2, X2, by go_num, by omega, by omega, hsz9, hrel.out⟩
        case measure => clear hrel; simp only [RowKit.intOf]; omega
    · have hlI : ¬ (i : Int) + 1 < (s.size : Int) := by omega
      have hbel := hq.out.2.2.1
      obtain ⟨a0, c0, hform⟩ := hq.out.1.form
      subst hform
      have hcv : (convert 137 9 (.slice a0 X.size c0)).run Tryz.prog wz = .ok (.string X) wz := conv_buf _ _ _ Tryz.underlying137 Tryz.underlying5 Tryz.underlying9 hq.out.1
      have hfin : Hid ((s.size % 2 = 0 → unhexOf s = some X) ∧ (s.size % 2 = 1 → unhexOf s = none)) := by
        refine ⟨fun h => ?_, unhexOf_odd⟩
        have : i = s.size ∨ i = s.size + 1 := by omega
        obtain rfl : i = s.size := by omega
        exact hq.out.2.2.2.fin
      clear hq
      by_cases hev : s.size % 2 = 0
      · have he : (s.size : Int).tmod 2 = 0 := by rw [Int.tmod_eq_emod_of_nonneg (by omega)]; omega
        go_wp2_with fail
        exact bodyPost_ret (v := .tuple #[.string X, .bool true]) (by simp [results, Tryz.results61, go_sem]) rfl ⟨⟨X, true, rfl, fun _ => hfin.out.1 hev, by simp⟩, by rw [hBe.out]; exact hbel⟩
      · have he : (s.size : Int).tmod 2 = 1 := by rw [Int.tmod_eq_emod_of_nonneg (by omega)]; omega
        go_wp2_with fail
        exact bodyPost_ret (v := .tuple #[.string X, .bool false]) (by simp [results, Tryz.results61, go_sem]) rfl ⟨⟨X, false, rfl, by simp, fun _ => hfin.out.2 (by omega)⟩, by rw [hBe.out]; exact hbel⟩
end
section
open Go.RowKit
set_option linter.unusedVariables false
set_option linter.unusedSimpArgs false
set_option maxRecDepth 100000
set_option maxHeartbeats 1000000
/-- the names of the operations. -/
def names : List ByteArray := [⟨#[109, 111, 118, 101]⟩, ⟨#[108, 111, 97, 100, 107]⟩, ⟨#[108, 111, 97, 100, 110, 105, 108]⟩, ⟨#[108, 111, 97, 100, 98, 111, 111, 108]⟩, ⟨#[103, 101, 116, 117, 112]⟩, ⟨#[115, 101, 116, 117, 112]⟩, ⟨#[110, 101, 119, 116, 97, 98, 108, 101]⟩, ⟨#[103, 101, 116, 116, 97, 98, 108, 101]⟩, ⟨#[115, 101, 116, 116, 97, 98, 108, 101]⟩, ⟨#[97, 100, 100]⟩, ⟨#[115, 117, 98]⟩, ⟨#[109, 117, 108]⟩, ⟨#[100, 105, 118]⟩, ⟨#[109, 111, 100]⟩, ⟨#[99, 111, 110, 99, 97, 116]⟩, ⟨#[110, 111, 116]⟩, ⟨#[110, 101, 103]⟩, ⟨#[108, 101, 110]⟩, ⟨#[106, 117, 109, 112]⟩, ⟨#[101, 113]⟩, ⟨#[108, 101, 115, 115]⟩, ⟨#[116, 101, 115, 116]⟩, ⟨#[99, 97, 108, 108]⟩, ⟨#[114, 101, 116, 117, 114, 110]⟩, ⟨#[118, 97, 114, 97, 114, 103]⟩, ⟨#[99, 108, 111, 115, 117, 114, 101]⟩, ⟨#[99, 108, 111, 115, 101]⟩, ⟨#[102, 111, 114, 112, 114, 101, 112]⟩, ⟨#[102, 111, 114, 108, 111, 111, 112]⟩, ⟨#[99, 114, 101, 97, 116, 101]⟩, ⟨#[114, 101, 115, 117, 109, 101]⟩, ⟨#[121, 105, 101, 108, 100]⟩, ⟨#[115, 116, 97, 116, 117, 115]⟩, ⟨#[101, 114, 114, 111, 114]⟩]
def cells34 : Array Value := #[.string ⟨#[109, 111, 118, 101]⟩, .string ⟨#[108, 111, 97, 100, 107]⟩, .string ⟨#[108, 111, 97, 100, 110, 105, 108]⟩, .string ⟨#[108, 111, 97, 100, 98, 111, 111, 108]⟩, .string ⟨#[103, 101, 116, 117, 112]⟩, .string ⟨#[115, 101, 116, 117, 112]⟩, .string ⟨#[110, 101, 119, 116, 97, 98, 108, 101]⟩, .string ⟨#[103, 101, 116, 116, 97, 98, 108, 101]⟩, .string ⟨#[115, 101, 116, 116, 97, 98, 108, 101]⟩, .string ⟨#[97, 100, 100]⟩, .string ⟨#[115, 117, 98]⟩, .string ⟨#[109, 117, 108]⟩, .string ⟨#[100, 105, 118]⟩, .string ⟨#[109, 111, 100]⟩, .string ⟨#[99, 111, 110, 99, 97, 116]⟩, .string ⟨#[110, 111, 116]⟩, .string ⟨#[110, 101, 103]⟩, .string ⟨#[108, 101, 110]⟩, .string ⟨#[106, 117, 109, 112]⟩, .string ⟨#[101, 113]⟩, .string ⟨#[108, 101, 115, 115]⟩, .string ⟨#[116, 101, 115, 116]⟩, .string ⟨#[99, 97, 108, 108]⟩, .string ⟨#[114, 101, 116, 117, 114, 110]⟩, .string ⟨#[118, 97, 114, 97, 114, 103]⟩, .string ⟨#[99, 108, 111, 115, 117, 114, 101]⟩, .string ⟨#[99, 108, 111, 115, 101]⟩, .string ⟨#[102, 111, 114, 112, 114, 101, 112]⟩, .string ⟨#[102, 111, 114, 108, 111, 111, 112]⟩, .string ⟨#[99, 114, 101, 97, 116, 101]⟩, .string ⟨#[114, 101, 115, 117, 109, 101]⟩, .string ⟨#[121, 105, 101, 108, 100]⟩, .string ⟨#[115, 116, 97, 116, 117, 115]⟩, .string ⟨#[101, 114, 114, 111, 114]⟩]
theorem cells34_eq : cells34.toList = names.map Value.string := rfl
theorem names_len : names.length = 34 := rfl
/-- the table lies in memory. -/
structure Named (w : World) : Prop where
  cell : ∀ i, i < 34 → w.cell? ⟨0, i, none⟩ = (names[i]?).map Value.string
  pos : 0 < w.heap.size
theorem Named.below {w w' : World} (h : Named w) (b : Below w.heap.size w w') : Named w' :=
  ⟨fun i hi => (b.cell (p := ⟨0, i, none⟩) h.pos).trans (h.cell i hi), Nat.lt_of_lt_of_le h.pos b.size⟩
set_option maxRecDepth 100000 in
theorem l2Names_in (w : World) : Calls Tryz.prog 121 #[] w fun e w' => e = .returned (.slice (some ⟨w.heap.size, 0, none⟩) 34 34) ∧ w.alloc (.cells cells34 9) = w' := by
  go_enter Tryz.func121, Tryz.ntmps121
  go_wp2_with fail
  go_ret
  exact ⟨rfl, rfl⟩
/-- what OpName answers. -/
def nameOf (op : Int) (r : ByteArray) : Prop := (∃ k : Nat, k < 34 ∧ op = (k : Int) ∧ names[k]? = some r) ∨ (¬ (0 ≤ op ∧ op < 34) ∧ r = ⟨#[]⟩)
theorem nameOf_det {op : Int} {r r' : ByteArray} (h : nameOf op r) (h' : nameOf op r') : r = r' := by
  rcases h with ⟨k, hk, rfl, hr⟩ | ⟨hn, rfl⟩ <;> rcases h' with ⟨k', hk', he, hr'⟩ | ⟨hn', rfl⟩
  · obtain rfl : k = k' := by omega
    exact Option.some.inj (hr.symm.trans hr')
  · exact absurd ⟨by omega, by omega⟩ hn'
  · exact absurd ⟨by omega, by omega⟩ hn
  · rfl
theorem name_at {k : Nat} (hk : k < 34) : ∃ r, names[k]? = some r := ⟨_, List.getElem?_eq_getElem (by rw [names_len]; exact hk)⟩
set_option maxRecDepth 100000 in
theorem implOpName_in (op : Int) (w : World) (hN : Named w) : Calls Tryz.prog 39 #[.int .i64 op] w fun e w' => (∃ r, e = .returned (.string r) ∧ nameOf op r) ∧ Below w.heap.size w w' := by
  by_cases h0 : op < 0
  · go_enter Tryz.func39, Tryz.ntmps39
    go_wp2_with fail
    go_ret
    exact ⟨⟨_, rfl, .inr ⟨by omega, rfl⟩⟩, by go_grown⟩
  by_cases h1 : 34 ≤ op
  · go_enter Tryz.func39, Tryz.ntmps39
    go_wp2_with fail
    go_ret
    exact ⟨⟨_, rfl, .inr ⟨by omega, rfl⟩⟩, by go_grown⟩
  obtain ⟨k, rfl⟩ : ∃ k : Nat, op = (k : Int) := ⟨op.toNat, by omega⟩
  obtain ⟨r, hr⟩ := name_at (k := k) (by omega)
  have hr' : Hid (names[k]? = some r) := hr
  have hk : k < 34 := by omega
  have hc := hN.cell k hk
  rw [hr, Option.map_some] at hc
  clear hr hN
  go_enter Tryz.func39, Tryz.ntmps39
  go_wp2_with fail
  go_ret
  exact ⟨⟨_, rfl, .inl ⟨k, hk, rfl, hr'.out⟩⟩, by go_grown⟩
end
end Go.Proofs.YtkanjbopfflioaaGreatDoor

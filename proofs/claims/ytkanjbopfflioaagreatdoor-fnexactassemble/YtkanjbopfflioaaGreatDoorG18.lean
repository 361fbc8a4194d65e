import Derived.Test.YtkanjbopfflioaaGreatDoorG11
import Derived.Maps.AppendAt
import Derived.Test.YtkanjbopfflioaaGreatDoorG03
import Derived.Test.YtkanjbopfflioaaGreatDoorShelf
import Derived.Test.YtkanjbopfflioaaGreatDoorShelb
import Derived.Lib.AppendIntMem
import Derived.Lib.ItoaLen
import Derived.Laws.MakeOwn
namespace Go.Proofs.YtkanjbopfflioaaGreatDoor
section
open Go.RowKit
set_option linter.unusedVariables false
set_option linter.unusedSimpArgs false
set_option maxRecDepth 100000
set_option maxHeartbeats 2000000
/-- a text cut at every place where b stands. -/
def cutL (b : UInt8) : List UInt8 → List (List UInt8)
  | [] => [[]]
  | c :: r => if c = b then [] :: cutL b r else match cutL b r with
    | [] => [[c]]
    | h :: t => (c :: h) :: t
theorem cutL_ne (b : UInt8) : ∀ l, cutL b l ≠ []
  | [] => by simp [cutL]
  | c :: r => by
    unfold cutL
    split
    · simp
    · split <;> simp
theorem cutL_hit (b : UInt8) (v : List UInt8) : ∀ (u : List UInt8), (∀ x ∈ u, x ≠ b) → cutL b (u ++ b :: v) = u :: cutL b v
  | [], _ => by simp [cutL]
  | c :: u, h => by
    have ih := cutL_hit b v u fun x hx => h x (List.mem_cons_of_mem _ hx)
    rw [List.cons_append, cutL, if_neg (h c (List.mem_cons_self ..)), ih]
theorem cutL_no (b : UInt8) : ∀ (u : List UInt8), (∀ x ∈ u, x ≠ b) → cutL b u = [u]
  | [], _ => rfl
  | c :: u, h => by
    have ih := cutL_no b u fun x hx => h x (List.mem_cons_of_mem _ hx)
    rw [cutL, if_neg (h c (List.mem_cons_self ..)), ih]
def cutB (b : UInt8) (s : ByteArray) : List ByteArray := (cutL b s.data.toList).map fun l => ⟨l.toArray⟩
/-- so far: pieces P, the next one from f on, no b from f to i. -/
def CutAt (b : UInt8) (s : ByteArray) (f i : Nat) (P : List ByteArray) : Prop :=
  cutL b s.data.toList = P.map (·.data.toList) ++ cutL b (s.data.toList.drop f) ∧ ∀ j, f ≤ j → j < i → ∀ h : j < s.size, s[j] ≠ b
theorem CutAt.start (b : UInt8) (s : ByteArray) : CutAt b s 0 0 [] := ⟨by simp, fun j _ h => absurd h (by omega)⟩
theorem CutAt.on {b : UInt8} {s : ByteArray} {f i : Nat} {P : List ByteArray} (h : CutAt b s f i P) (hi : i < s.size) (hne : s[i] ≠ b) : CutAt b s f (i + 1) P :=
  ⟨h.1, fun j h1 h2 h3 => by
    by_cases e : j = i
    · subst e; exact hne
    · exact h.2 j h1 (by omega) h3⟩
theorem mem_piece {s : ByteArray} {f n : Nat} {x : UInt8} (hx : x ∈ (s.data.toList.drop f).take n) : ∃ j, f ≤ j ∧ j < f + n ∧ ∃ h : j < s.size, s[j] = x := by
  obtain ⟨k, hk⟩ := List.getElem?_of_mem hx
  have hk1 : k < n := by
    have := (List.getElem?_eq_some_iff.1 hk).1
    simp at this
    omega
  rw [List.getElem?_take_of_lt hk1, List.getElem?_drop] at hk
  have hl : s.data.toList.length = s.size := by rw [Array.length_toList]; rfl
  have hlt : f + k < s.size := by have := (List.getElem?_eq_some_iff.1 hk).1; omega
  rw [get_list hlt] at hk
  exact ⟨f + k, by omega, by omega, hlt, Option.some.inj hk⟩
theorem extract_list (s : ByteArray) (f i : Nat) (hf : f ≤ i) (hi : i ≤ s.size) : (s.extract f i).data.toList = (s.data.toList.drop f).take (i - f) := by
  rw [ByteArray.data_extract, Array.toList_extract]
theorem CutAt.hit {s : ByteArray} {f i : Nat} {P : List ByteArray} {b : UInt8} (h : CutAt b s f i P) (hf : f ≤ i) (hi : i < s.size) (he : s[i] = b) : CutAt b s (i + 1) (i + 1) (P ++ [s.extract f i]) := by
  refine ⟨?_, fun j h1 h2 => absurd h2 (by omega)⟩
  have hl : s.data.toList.length = s.size := by rw [Array.length_toList]; rfl
  have e1 : s.data.toList.drop f = (s.data.toList.drop f).take (i - f) ++ b :: s.data.toList.drop (i + 1) := by
    conv => lhs; rw [← List.take_append_drop (i - f) (s.data.toList.drop f)]
    congr 1
    rw [List.drop_drop, show f + (i - f) = i by omega, List.drop_eq_getElem_cons (by omega)]
    have := get_list hi
    rw [List.getElem?_eq_getElem (by omega)] at this
    rw [Option.some.inj this, he]
  rw [h.1, e1, cutL_hit b _ _ (fun x hx => by
    obtain ⟨j, h1, h2, h3, rfl⟩ := mem_piece hx
    exact h.2 j h1 (by omega) h3)]
  rw [List.map_append, List.append_assoc]
  simp [extract_list s f i hf (by omega)]
theorem CutAt.fin {s : ByteArray} {f : Nat} {P : List ByteArray} {b : UInt8} (h : CutAt b s f s.size P) (hf : f ≤ s.size) : cutB b s = P ++ [s.extract f s.size] := by
  have hl : s.data.toList.length = s.size := by rw [Array.length_toList]; rfl
  unfold cutB
  have e1 : (s.data.toList.drop f).take (s.size - f) = s.data.toList.drop f := List.take_of_length_le (by rw [List.length_drop]; omega)
  rw [h.1, cutL_no b (s.data.toList.drop f) (fun x hx => by
    rw [← e1] at hx
    obtain ⟨j, h1, h2, h3, rfl⟩ := mem_piece hx
    exact h.2 j h1 (by omega) h3)]
  rw [List.map_append, List.map_map]
  congr 1
  · conv => rhs; rw [← List.map_id P]
    refine List.map_congr_left fun x _ => ?_
    simp
  · simp only [List.map_cons, List.map_nil, List.cons.injEq, and_true]
    apply ByteArray.ext
    apply Array.ext'
    rw [extract_list s f s.size hf (Nat.le_refl _), e1]
theorem infS1 : (Tryz.prog.info? 9).map (fun i => (i.zero, i.size, i.bytes)) = some (some (.string ⟨#[]⟩), 1, 16) := by kernel_rfl
theorem own_grown {B : Nat} {w wz w' : World} {x : Value} {t e : TypeId} {v : Value} {n z : Nat} {xs : List Value} (hb : Below B w wz) (ho : wz.ownsRow B e z v n xs) (hg : (wz.alloc (.cells #[x] t)).grownBy w' v.ownBlock) (hB : B ≤ wz.heap.size) : Below B w w' := by
  have ha : Below B w (wz.alloc (.cells #[x] t)) := hb.alloc hB _
  refine ha.trans ⟨hg.os, hg.tape, hg.output, hg.size, fun k hk => hg.block k (by simp only [World.size_alloc]; omega) (fun e' => ?_)⟩
  rcases ho.2 with ⟨h, _⟩ | ⟨g, cap, cur, h, hbg, _⟩
  · rw [h] at e'; cases e'
  · rw [h] at e'
    simp only [Value.ownBlock, Option.some.injEq] at e'
    omega
theorem l6Cut_in (s : ByteArray) (hs : s.size ≤ 100000) (b : UInt8) (w : World) :
    Calls Tryz.prog 9 #[.string s, .int .u8 (b.toNat : Int)] w fun e w' => (∃ g c, e = .returned (.slice (some ⟨g, 0, none⟩) (cutB b s).length c) ∧ w.heap.size ≤ g ∧ g < w'.heap.size ∧ (∀ (j : Nat) x, (cutB b s)[j]? = some x → w'.cell? ⟨g, j, none⟩ = some (.string x))) ∧ Below w.heap.size w w' := by
  obtain ⟨i0, hi, he0⟩ := Option.map_eq_some_iff.1 infS1
  simp only [Prod.mk.injEq] at he0
  obtain ⟨hz0, hz1, hz2⟩ := he0
  have hb8 : (b.toNat : Int) ≤ 255 := by have := b.toNat_lt; omega
  go_enter Tryz.func9, Tryz.ntmps9
  go_upto_region 2 with fail
  have hrel0 : Hid ((w.alloc (.cells #[] 9)).ownsRow w.heap.size 9 1 (.slice (some ⟨w.heap.size, 0, none⟩) 0 0) 0 (([] : List ByteArray).map Value.string) ∧ Below w.heap.size w (w.alloc (.cells #[] 9)) ∧ CutAt b s 0 0 []) :=
    ⟨⟨rfl, .inr ⟨w.heap.size, 0, #[], rfl, Nat.le_refl _, heap_alloc_new _ _, Nat.le_refl _, by simp [maxLen], rfl, rfl⟩⟩, (Below.refl _ _).alloc (Nat.le_refl _) _, CutAt.start b s⟩
  generalize w.alloc (.cells #[] 9) = w1 at hrel0 ⊢
  obtain ⟨B, hBe⟩ : ∃ B, w.heap.size = B := ⟨_, rfl⟩
  rw [hBe] at hrel0 ⊢
  replace hBe := hidR hBe
  go_wp2_with fail
  go_loopw [5, 6, 7] (fun ov fv iv wr => ∃ (f i : Nat) (P : List ByteArray) (oa : Option Addr) (ca : Nat), ov = .slice oa P.length ca ∧ fv = .int .i64 (f : Int) ∧ iv = .int .i64 (i : Int) ∧ f ≤ i ∧ i ≤ s.size ∧ P.length ≤ i ∧ Hid (wr.ownsRow B 9 1 (.slice oa P.length ca) P.length (P.map Value.string) ∧ Below B w wr ∧ CutAt b s f i P)) (fun _ _ iv _ => s.size - (intOf iv).toNat)
  case atStart => exact ⟨0, 0, [], some ⟨B, 0, none⟩, 0, rfl, rfl, rfl, by omega, by omega, by simp, hrel0.out⟩
  case round =>
    obtain ⟨f, i, P, oa, ca, rfl, rfl, rfl, hfi, his, hPl, hq⟩ := hrel
    obtain ⟨wz, hwz⟩ : ∃ x, x = wr := ⟨_, rfl⟩
    subst hwz
    clear hrel0
    by_cases hlt : i < s.size
    · have hlI : (i : Int) < (s.size : Int) := by omega
      have hc8 : (s[i].toNat : Int) ≤ 255 := by have := s[i].toNat_lt; omega
      by_cases he : s[i] = b
      · have hbe : ((s[i].toNat : Int) == (b.toNat : Int)) = true := by rw [he]; simp
        have hnx := hidR (hq.out.2.2.hit hfi hlt he)
        have hown := hidR hq.out.1
        have hbel := hidR hq.out.2.1
        clear hq he
        have hfI : (f : Int) ≤ (i : Int) := by omega
        obtain ⟨X, hX⟩ : ∃ X, s.extract f i = X := ⟨_, rfl⟩
        rw [hX] at hnx
        go_wp2_with (at_builtin; refine wpList_append_own_at _ rfl (.tmp 20) (.tmp 25) 30 rfl B 9 i0 (.string ⟨#[]⟩) 1 16 Tryz.underlying30 hi hz0 hz1 hz2 rfl (by decide) (.slice oa P.length ca) P.length _ rfl (hown.out.alloc _) ⟨wz.heap.size, 0, none⟩ 1 1 [.string X] rfl rfl ?c1 ?c2 ?c3 ?c4 ?c5 ?_)
        case c1 => exact World.news_of_block (heap_alloc_new _ _)
        case c2 => intro u hu; simp only [List.mem_cons, List.not_mem_nil, or_false] at hu; subst hu; rfl
        case c3 => simp only [maxLen]; omega
        case c4 => omega
        case c5 => have := hbel.out.size; rw [hBe.out] at this; simp only [World.size_alloc]; omega
        intro v' w' hown2 hg _ hat
        have hbel2 := hidR (own_grown hbel.out hown.out hg (by have := hbel.out.size; rw [hBe.out] at this; exact this))
        rcases hown2.2 with ⟨_, hz⟩ | ⟨g9, cap9, cur, rfl, hbg, hgg, hc1, hc2, hcs, htk⟩
        · exact absurd hz (by omega)
        have hown3 := hidR hown2
        have hgl : g9 < w'.heap.size := (Array.getElem?_eq_some_iff.1 hgg).1
        clear hat hg hown2 hgg hcs htk hi hz0 hz1 hz2 hown hbel
        have hrel : Hid (w'.ownsRow B 9 1 (.slice (some ⟨g9, 0, none⟩) (P ++ [X]).length cap9) (P ++ [X]).length ((P ++ [X]).map Value.string) ∧ Below B w w' ∧ CutAt b s (i + 1) (i + 1) (P ++ [X])) := by
          refine ⟨?_, hbel2.out, hnx.out⟩
          rw [List.length_append, List.map_append]
          exact hown3.out
        clear hown3 hbel2 hnx hX
        go_wp2_with fail
        go_roundw
        case rel => exact ⟨i + 1, i + 1, P ++ [X], some ⟨g9, 0, none⟩, cap9, by simp, by go_num, by go_num, by omega, by omega, by simp; omega, hrel.out⟩
        case measure => clear hrel; simp only [intOf]; omega
      · have hbe : ((s[i].toNat : Int) == (b.toNat : Int)) = false := by
          have h9 : s[i].toNat ≠ b.toNat := fun e => he (UInt8.toNat_inj.1 e)
          have : (s[i].toNat : Int) ≠ (b.toNat : Int) := by omega
          simpa using this
        have hnx : Hid (wz.ownsRow B 9 1 (.slice oa P.length ca) P.length (P.map Value.string) ∧ Below B w wz ∧ CutAt b s f (i + 1) P) := ⟨hq.out.1, hq.out.2.1, hq.out.2.2.on hlt he⟩
        clear hq he
        go_wp2_with fail
        go_roundw
        case rel => exact ⟨f, i + 1, P, oa, ca, rfl, rfl, by go_num, by omega, by omega, by omega, hnx.out⟩
        case measure => simp only [intOf]; omega
    · obtain rfl : i = s.size := by omega
      have hlI : ¬ ((s.size : Nat) : Int) < (s.size : Int) := by omega
      have hfin := hidR (hq.out.2.2.fin hfi)
      have hown := hidR hq.out.1
      have hbel := hidR hq.out.2.1
      clear hq
      have hfI : (f : Int) ≤ (s.size : Int) := by omega
      obtain ⟨X, hX⟩ : ∃ X, s.extract f s.size = X := ⟨_, rfl⟩
      rw [hX] at hfin
      go_wp2_with (at_builtin; refine wpList_append_own_at _ rfl (.tmp 29) (.tmp 33) 30 rfl B 9 i0 (.string ⟨#[]⟩) 1 16 Tryz.underlying30 hi hz0 hz1 hz2 rfl (by decide) (.slice oa P.length ca) P.length _ rfl (hown.out.alloc _) ⟨wz.heap.size, 0, none⟩ 1 1 [.string X] rfl rfl ?c1 ?c2 ?c3 ?c4 ?c5 ?_)
      case c2 => rfl
      case c3 => simp only [maxLen]; omega
      case c4 => omega
      case c5 => have := hbel.out.size; rw [hBe.out] at this; omega
      intro v' w' hown2 hg _ hat
      have hbel2 := hidR (own_grown hbel.out hown.out hg (by have := hbel.out.size; rw [hBe.out] at this; exact this))
      rcases hown2.2 with ⟨_, hz⟩ | ⟨g9, cap9, cur, rfl, hbg, hgg, hc1, hc2, hcs, htk⟩
      · exact absurd hz (by omega)
      have hown3 := hidR hown2
      have hgl : g9 < w'.heap.size := (Array.getElem?_eq_some_iff.1 hgg).1
      clear hat hg hown2 hgg hcs htk hi hz0 hz1 hz2 hown hbel
      have hcells := hidR (hown3.out.cells (g := g9) rfl)
      have hlen : Hid ((cutB b s).length = P.length + 1) := by show _ = _; rw [hfin.out]; simp
      go_wp2_with fail
      refine bodyPost_ret (v := .slice (some ⟨g9, 0, none⟩) (P.length + 1) cap9) (by simp [results, Tryz.results9, go_sem]) rfl ⟨⟨g9, cap9, by rw [hlen.out], by rw [hBe.out]; exact hbg, hgl, fun j x hx => ?_⟩, by rw [hBe.out]; exact hbel2.out⟩
      rw [hfin.out] at hx
      have := hcells.out j (.string x) (by
        rw [← List.map_singleton, ← List.map_append, List.getElem?_map, hx]
        rfl)
      by_cases h0 : j = 0
      · subst h0; simpa [Addr.add] using this
      · simpa [Addr.add, h0] using this
end
section
open Go.RowKit Go.Lib Go.Shelf
set_option linter.unusedVariables false
set_option linter.unusedSimpArgs false
set_option maxRecDepth 100000
set_option maxHeartbeats 2000000
theorem hexI_fin : ∀ c : Fin 256, (Lib.indexByte hxD.data.toList (UInt8.ofNat c.val) : Int) = hexV (c.val : Int) := by decide +kernel
theorem hexIndex_in (c : Int) (h0 : 0 ≤ c) (h1 : c ≤ 255) (w : World) :
    Calls Tryz.prog 41 #[.string ⟨#[48, 49, 50, 51, 52, 53, 54, 55, 56, 57, 97, 98, 99, 100, 101, 102]⟩, .int .u8 c] w fun e w' => e = .returned (.int .i64 (hexV c)) ∧ w = w' := by
  refine Calls.mono (Any.strings_IndexByte Tryz.lays137 hxD c w) ?_
  rintro e w' ⟨rfl, rfl⟩
  obtain ⟨x, rfl⟩ := Int.eq_ofNat_of_zero_le h0
  have := hexI_fin ⟨x, by omega⟩
  refine ⟨?_, rfl⟩
  rw [← this]
  rfl
end
section
open Go.RowKit Go.Lib Go.Shelf
set_option linter.unusedVariables false
set_option linter.unusedSimpArgs false
set_option maxRecDepth 100000
set_option maxHeartbeats 2000000
theorem makeB (n : Nat) (hn : n ≤ 1000000) (w : World) : (Instr.makeSlice 137 (.int .i64 0) (.int .i64 (n : Int))).run Tryz.prog w = .ok (.slice (some ⟨w.heap.size, 0, none⟩) 0 n) (w.alloc (.cells (madeCells #[.int .u8 0] n) 5)) := by
  obtain ⟨i, hi, he⟩ := Option.map_eq_some_iff.1 info8
  simp only [Prod.mk.injEq] at he
  have := run_makeSlice (P := Tryz.prog) w 137 5 i (.int .u8 0) Tryz.underlying137 hi he.1 .i64 .i64 0 n (by omega) (by omega) (by rw [he.2.1, Int.toNat_natCast]; omega) (by rw [he.2.2]; omega) (by omega)
  rw [he.2.1, Int.toNat_natCast, Nat.mul_one] at this
  exact this
theorem textIn_in (s : ByteArray) (hs : s.size ≤ 100000) (w : World) :
    Calls Tryz.prog 73 #[.string s] w fun e w' => HexEnds s e ∧ Below w.heap.size w w' := by
  obtain ⟨i0, hi, hz0, hz1, hz2⟩ := info_parts info8
  by_cases hev : s.size % 2 = 0
  rotate_left
  · have hE : Hid (HexEnds s (.returned (.tuple #[.string ⟨#[]⟩, .bool false]))) := ⟨_, false, rfl, by simp, fun _ => unhexOf_odd (by omega)⟩
    have he : (s.size : Int).tmod 2 = 1 := by rw [Int.tmod_eq_emod_of_nonneg (by omega)]; omega
    go_enter Tryz.func73, Tryz.ntmps73
    go_wp2_with fail
    exact bodyPost_ret (v := .tuple #[.string ⟨#[]⟩, .bool false]) (by simp [results, Tryz.results73, go_sem]) rfl ⟨hE.out, Below.refl _ _⟩
  have he : (s.size : Int).tmod 2 = 0 := by rw [Int.tmod_eq_emod_of_nonneg (by omega)]; omega
  have hd2 : (s.size : Int).tdiv 2 = ((s.size / 2 : Nat) : Int) := by rw [Int.tdiv_eq_ediv_of_nonneg (by omega)]; omega
  have hmk := makeB (s.size / 2) (by omega) w
  rw [show ((s.size / 2 : Nat) : Int) = (s.size : Int) / 2 by omega] at hmk
  have bA : Below w.heap.size w (w.alloc (.cells (madeCells #[.int .u8 0] (s.size / 2)) 5)) := (Below.refl _ _).alloc (Nat.le_refl _) _
  have sA : Buf (w.alloc (.cells (madeCells #[.int .u8 0] (s.size / 2)) 5)) 5 (.slice (some ⟨w.heap.size, 0, none⟩) 0 (s.size / 2)) ByteArray.empty :=
    .inr ⟨w.heap.size, s.size / 2, _, (0, 0), rfl, heap_alloc_new w _, .inl rfl, Nat.zero_le _, by simp only [maxLen]; omega, size_madeCells _ _, rfl⟩
  have hrel0 : Hid (Buf (w.alloc (.cells (madeCells #[.int .u8 0] (s.size / 2)) 5)) 5 (.slice (some ⟨w.heap.size, 0, none⟩) 0 (s.size / 2)) ByteArray.empty ∧ (∀ k, (Value.slice (some ⟨w.heap.size, 0, none⟩) 0 (s.size / 2)).ownBlock = some k → w.heap.size ≤ k) ∧ Below w.heap.size w (w.alloc (.cells (madeCells #[.int .u8 0] (s.size / 2)) 5)) ∧ HexAt s 0 ByteArray.empty) :=
    ⟨sA, fun k hk => by simp only [Value.ownBlock, Option.some.injEq] at hk; omega, bA, HexAt.start s⟩
  clear sA bA
  go_enter Tryz.func73, Tryz.ntmps73
  go_upto_region 4 with fail
  generalize w.alloc (.cells (madeCells #[.int .u8 0] (s.size / 2)) 5) = w1 at hrel0 ⊢
  obtain ⟨B, hBe⟩ : ∃ B, w.heap.size = B := ⟨_, rfl⟩
  rw [hBe] at hrel0 ⊢
  replace hBe := hidR hBe
  clear hmk
  go_wp2_with fail
  go_loopw [4, 5, 6, 7] (fun ov iv _ _ wr => ∃ (i : Nat) (X : ByteArray), iv = .int .i64 (i : Int) ∧ i ≤ s.size ∧ i % 2 = 0 ∧ X.size = i / 2 ∧ Hid (Buf wr 5 ov X ∧ (∀ k, ov.ownBlock = some k → B ≤ k) ∧ Below B w wr ∧ HexAt s i X)) (fun _ iv _ _ _ => s.size - (RowKit.intOf iv).toNat)
  case atStart => exact ⟨0, ByteArray.empty, rfl, by omega, rfl, rfl, hrel0.out⟩
  case round =>
    obtain ⟨i, X, rfl, hi1, hi2, hX, hq⟩ := hrel
    have hXs : X.size ≤ 100000 := by omega
    replace hX := hidR hX
    obtain ⟨wz, hwz⟩ : ∃ x, x = wr := ⟨_, rfl⟩
    subst hwz
    clear hrel0
    by_cases hlt0 : i < s.size
    · have hlt : i + 1 < s.size := by omega
      have hlI : (i : Int) < (s.size : Int) := by omega
      have hil : i < s.size := by omega
      have hc0 : 0 ≤ (s[i].toNat : Int) ∧ (s[i].toNat : Int) ≤ 255 := by have := s[i].toNat_lt; omega
      have hc1 : 0 ≤ (s[i + 1].toNat : Int) ∧ (s[i + 1].toNat : Int) ≤ 255 := by have := s[i + 1].toNat_lt; omega
      have d0 := hidR (hexIndex_in (s[i].toNat : Int) hc0.1 hc0.2 wz)
      have d1 := hidR (hexIndex_in (s[i + 1].toNat : Int) hc1.1 hc1.2 wz)
      have v0 := hexV_lt (s[i].toNat : Int)
      have v1 := hexV_lt (s[i + 1].toNat : Int)
      obtain ⟨x0, hx0⟩ : ∃ x, hexV (s[i].toNat : Int) = x := ⟨_, rfl⟩
      obtain ⟨x1, hx1⟩ : ∃ x, hexV (s[i + 1].toNat : Int) = x := ⟨_, rfl⟩
      rw [hx0] at d0 v0
      rw [hx1] at d1 v1
      replace hx0 := hidR hx0
      replace hx1 := hidR hx1
      go_wp2_with fail
      refine Calls.mono d0.out ?_
      rintro e y ⟨rfl, rfl⟩
      clear d0
      go_wp2_with fail
      refine Calls.mono d1.out ?_
      rintro e y ⟨rfl, rfl⟩
      clear d1
      by_cases hbad : x0 < 0 ∨ x1 < 0
      · have hno : Hid (unhexOf s = none) := hq.out.2.2.2.bad hlt (by rw [hx0.out, hx1.out]; exact hbad)
        have hbel := hq.out.2.2.1
        by_cases hb0 : x0 < 0
        · go_wp2_with fail
          exact bodyPost_ret (v := .tuple #[.string ⟨#[]⟩, .bool false]) (by simp [results, Tryz.results73, go_sem]) rfl ⟨⟨_, false, rfl, by simp, fun _ => hno.out⟩, by rw [hBe.out]; exact hbel⟩
        · have hb1 : x1 < 0 := by omega
          go_wp2_with fail
          exact bodyPost_ret (v := .tuple #[.string ⟨#[]⟩, .bool false]) (by simp [results, Tryz.results73, go_sem]) rfl ⟨⟨_, false, rfl, by simp, fun _ => hno.out⟩, by rw [hBe.out]; exact hbel⟩
      · have hb0 : ¬ x0 < 0 := by omega
        have hb1 : ¬ x1 < 0 := by omega
        have hB := hidR hq.out.1
        have hown := hidR hq.out.2.1
        have hbel := hidR hq.out.2.2.1
        have hnx := hidR (hq.out.2.2.2.step hlt (by rw [hx0.out]; omega) (by rw [hx1.out]; omega))
        rw [hx0.out, hx1.out] at hnx
        have hw8 : IntKind.u8.wrap (16 * x0 + x1) = x0 * 16 + x1 := by rw [IntKind.wrap_u8]; omega
        obtain ⟨a0, c0, hform⟩ := hB.out.form
        subst hform
        clear hq hx0 hx1
        have hbc := hidR (byte_cells (x := x0 * 16 + x1) (by omega) (by omega))
        obtain ⟨S1, hS1⟩ : ∃ S, S = (⟨#[UInt8.ofNat (x0 * 16 + x1).toNat]⟩ : ByteArray) := ⟨_, rfl⟩
        have hS1z : S1.size = 1 := by rw [hS1]; rfl
        rw [← hS1] at hnx hbc
        clear hS1
        go_wp2_with (at_builtin; refine wpList_append_buf_news _ rfl (.tmp 37) (.tmp 43) 137 rfl 5 i0 Tryz.underlying137 hi hz0 hz1 hz2 _ X rfl (hB.out.keep (fun k hk => Below.heap_alloc _ _ _ (hB.out.lt k hk))) S1 ⟨wz.heap.size, 0, none⟩ 1 1 rfl hS1z (by omega) ?c1 ?c2 ?_)
        case c1 => rw [hbc.out]; exact World.news_of_block (heap_alloc_new _ _)
        case c2 => rw [hS1z]; omega
        intro v' w' hB2 hg hat
        obtain ⟨a1, c1, hform⟩ := hB2.form
        subst hform
        have hown2 : ∀ k, (Value.slice a1 (X ++ S1).size c1).ownBlock = some k → B ≤ k := by
          intro k hk
          rcases hat with e | e
          · rw [e] at hk; exact hown.out k hk
          · rw [e] at hk
            have := hbel.out.size
            simp only [World.size_alloc, Option.some.injEq] at hk
            rw [hBe.out] at this
            omega
        have hbel2 : Below B w w' := by
          have h9 : Below B w (wz.alloc (.cells #[.int .u8 (x0 * 16 + x1)] 5)) := hbel.out.alloc (by have := hbel.out.size; rw [hBe.out] at this; omega) _
          have h8 := h9.size
          rw [hBe.out] at h8
          refine h9.trans ⟨hg.os, hg.tape, hg.output, hg.size, fun k hk => hg.block k (by omega) (fun e => ?_)⟩
          have := hown.out k e.symm
          omega
        have hrel : Hid (Buf w' 5 (.slice a1 (X ++ S1).size c1) (X ++ S1) ∧ (∀ k, (Value.slice a1 (X ++ S1).size c1).ownBlock = some k → B ≤ k) ∧ Below B w w' ∧ HexAt s (i + 2) (X ++ S1)) := ⟨hB2, hown2, hbel2, hnx.out⟩
        have hsz9 : (X ++ S1).size = (i + 2) / 2 := by rw [ByteArray.size_append, hS1z, hX.out]; omega
        clear hB2 hown2 hbel2 hnx hB hown hbel hg hat hbc hi hz0 hz1 hz2
        obtain ⟨X2, hX2⟩ : ∃ Y, X ++ S1 = Y := ⟨_, rfl⟩
        rw [hX2] at hrel hsz9 ⊢
        clear hX2
        go_wp2_with fail
        go_roundw
        case rel => exact ⟨i + 2, X2, by go_num, by omega, by omega, hsz9, hrel.out⟩
        case measure => clear hrel; simp only [RowKit.intOf]; omega
    · obtain rfl : i = s.size := by omega
      have hlI : ¬ ((s.size : Nat) : Int) < (s.size : Int) := by omega
      have hbel := hq.out.2.2.1
      obtain ⟨a0, c0, hform⟩ := hq.out.1.form
      subst hform
      have hcv : (convert 137 9 (.slice a0 X.size c0)).run Tryz.prog wz = .ok (.string X) wz := conv_buf _ _ _ Tryz.underlying137 Tryz.underlying5 Tryz.underlying9 hq.out.1
      have hfin : Hid (unhexOf s = some X) := hq.out.2.2.2.fin
      clear hq
      go_wp2_with fail
      exact bodyPost_ret (v := .tuple #[.string X, .bool true]) (by simp [results, Tryz.results73, go_sem]) rfl ⟨⟨X, true, rfl, fun _ => hfin.out, by simp⟩, by rw [hBe.out]; exact hbel⟩
end
section
open Go.RowKit Go.Shelf
set_option linter.unusedVariables false
set_option linter.unusedSimpArgs false
set_option maxRecDepth 100000
set_option maxHeartbeats 2000000
/-- the table of tens is there. -/
abbrev PowTab (w : World) : Prop := Lib.TabIs Tryz.prog w "internal/strconv.uint64pow10" .u64 Lib.pow10Tab
theorem powTab_below {w w' : World} (h : PowTab w) (hb : Below w.heap.size w w') : PowTab w' := Lib.tabBelow_of_tabIs h w' hb
theorem formatInt_in (n : Int) (h0 : -9223372036854775808 ≤ n) (h1 : n ≤ 9223372036854775807) (w : World) (ht : PowTab w) :
    Calls Tryz.prog 125 #[.int .i64 n, .int .i64 10] w fun e w' => e = .returned (.string (dec n)) ∧ Below w.heap.size w w' := by
  refine Calls.mono (Any.strconv_FormatInt_10 Tryz.laysM173 n h0 h1 w ht) ?_
  rintro e w' ⟨rfl, k, os, rfl⟩
  exact ⟨rfl, Lib.below_grow _ _ (Nat.le_refl _) _ _⟩
/-- the library's two errors are there. -/
structure ErrV (w : World) : Prop where
  syn : ∃ ev, w.cell? ⟨5, 0, none⟩ = some ev ∧ (ev = .nilIface ∨ ∃ te pe, ev = .iface te pe)
  rng : ∃ ev, w.cell? ⟨6, 0, none⟩ = some ev ∧ (ev = .nilIface ∨ ∃ te pe, ev = .iface te pe)
  posS : 5 < w.heap.size
  posR : 6 < w.heap.size
theorem ErrV.below {w w' : World} (h : ErrV w) (hb : Below w.heap.size w w') : ErrV w' := by
  obtain ⟨⟨e1, h1, k1⟩, ⟨e2, h2, k2⟩, p1, p2⟩ := h
  have hz := hb.size
  exact ⟨⟨e1, (hb.cell (p := ⟨5, 0, none⟩) p1).trans h1, k1⟩, ⟨e2, (hb.cell (p := ⟨6, 0, none⟩) p2).trans h2, k2⟩, by omega, by omega⟩
/-- what the program's reader of a decimal gives. -/
def DecEnds (s : ByteArray) (e : Ending) : Prop := (∃ n, decOf s = some n ∧ e = .returned (.tuple #[.int .i64 n, .bool true])) ∨ (decOf s = none ∧ e = .returned (.tuple #[.int .i64 0, .bool false]))
theorem decimalIn_in (s : ByteArray) (hs : s.size ≤ 100000) (w : World) (ht : PowTab w) (hE : ErrV w) :
    Calls Tryz.prog 72 #[.string s] w fun e w' => DecEnds s e ∧ Below w.heap.size w w' := by
  cases hp : Lib.parseIntB 64 s.data.toList with
  | ok v =>
    have hb := Lib.parseIntB_bounds hp
    have hv : I64 v := by unfold I64; simp at hb; omega
    have hcall := hidR (show Calls Tryz.prog 124 #[.string s, .int .i64 10, .int .i64 64] w fun e w' => e = .returned (.tuple #[.int .i64 v, .nilIface]) ∧ Below w.heap.size w w' from by
      refine Calls.mono (Any.strconv_ParseInt_10_at64_ok Tryz.laysC174 s (by omega) v hp w) ?_
      rintro e w' ⟨rfl, h | ⟨t, h⟩⟩
      · subst h; exact ⟨rfl, Below.refl _ _⟩
      · subst h; exact ⟨rfl, Lib.bytesWorld_below _ _ _⟩)
    have hfm := hidR (fun (y : World) (hy : Below w.heap.size w y) => formatInt_in v hv.1 hv.2 y (powTab_below ht hy))
    have hres : Hid (∀ b, b = decide (dec v = s) → (b = true → decOf s = some v) ∧ (b = false → decOf s = none)) := fun b hb => by
      subst hb
      refine ⟨fun h => ?_, fun h => ?_⟩
      · rw [← of_decide_eq_true h]; exact decOf_dec hv
      · cases hd : decOf s with
        | none => rfl
        | some m =>
          exfalso
          obtain ⟨hm, he⟩ := decOf_some hd
          rw [he, parse_dec hm] at hp
          injection hp with hp
          rw [hp] at he
          exact of_decide_eq_false h he.symm
    have hstr := str_eq (dec v) s
    obtain ⟨b, hb9⟩ : ∃ b, decide (dec v = s) = b := ⟨_, rfl⟩
    rw [hb9] at hstr
    have hr := hres.out b hb9.symm
    clear hres hp hb9 ht hE
    unfold I64 at hv
    generalize dec v = D at hfm hstr
    go_enter Tryz.func72, Tryz.ntmps72
    go_wp2_with fail
    refine Calls.mono hcall.out ?_
    rintro e y ⟨rfl, b1⟩
    have hf1 := hidR (hfm.out y b1)
    clear hcall hfm
    go_wp2_with fail
    refine Calls.mono hf1.out ?_
    rintro e y2 ⟨rfl, b2⟩
    have b3 := b1.trans (b2.mono b1.size)
    clear hf1 b1 b2
    cases b with
    | true =>
      have hd := hidR (hr.1 rfl)
      clear hr
      go_wp2_with fail
      exact bodyPost_ret (v := .tuple #[.int .i64 v, .bool true]) (by simp [results, Tryz.results72, go_sem]) rfl ⟨.inl ⟨v, hd.out, rfl⟩, b3⟩
    | false =>
      have hd := hidR (hr.2 rfl)
      clear hr
      go_wp2_with fail
      exact bodyPost_ret (v := .tuple #[.int .i64 0, .bool false]) (by simp [results, Tryz.results72, go_sem]) rfl ⟨.inr ⟨hd.out, rfl⟩, b3⟩
  | «syntax» =>
    have hno : Hid (decOf s = none) := by
      cases hd : decOf s with
      | none => rfl
      | some m =>
        exfalso
        obtain ⟨hm, he⟩ := decOf_some hd
        rw [he, parse_dec hm] at hp
        cases hp
    obtain ⟨ev, hcv, hev⟩ := hE.syn
    have hcall := hidR (Any.strconv_ParseInt_10_at64_syntax Tryz.laysC174 s (by omega) hp ev w hcv hev)
    clear hp ht hE hcv hev
    go_enter Tryz.func72, Tryz.ntmps72
    go_wp2_with fail
    refine Calls.mono hcall.out ?_
    rintro e y ⟨N, rfl, hN, hNb, b1⟩
    clear hcall hNb
    go_wp2_with fail
    exact bodyPost_ret (v := .tuple #[.int .i64 0, .bool false]) (by simp [results, Tryz.results72, go_sem]) rfl ⟨.inr ⟨hno.out, rfl⟩, b1⟩
  | range =>
    have hno : Hid (decOf s = none) := by
      cases hd : decOf s with
      | none => rfl
      | some m =>
        exfalso
        obtain ⟨hm, he⟩ := decOf_some hd
        rw [he, parse_dec hm] at hp
        cases hp
    obtain ⟨ev, hcv, hev⟩ := hE.rng
    have hcall := hidR (Any.strconv_ParseInt_10_at64_range Tryz.laysC174 s (by omega) hp ev w hcv hev)
    clear hp ht hE hcv hev
    go_enter Tryz.func72, Tryz.ntmps72
    go_wp2_with fail
    refine Calls.mono hcall.out ?_
    rintro e y ⟨N, rfl, hN, hNb, b1⟩
    clear hcall hNb
    go_wp2_with fail
    exact bodyPost_ret (v := .tuple #[.int .i64 0, .bool false]) (by simp [results, Tryz.results72, go_sem]) rfl ⟨.inr ⟨hno.out, rfl⟩, b1⟩
end
section
open Go.RowKit Go.Shelf
set_option linter.unusedVariables false
set_option linter.unusedSimpArgs false
set_option maxRecDepth 100000
set_option maxHeartbeats 2000000
theorem infI1 : (Tryz.prog.info? 3).map (fun i => (i.zero, i.size, i.bytes)) = some (some (.int .i64 0), 1, 8) := by kernel_rfl
theorem makeI (n : Nat) (hn : n ≤ 1000) (w : World) : (Instr.makeSlice 51 (.int .i64 (n : Int)) (.int .i64 (n : Int))).run Tryz.prog w = .ok (.slice (some ⟨w.heap.size, 0, none⟩) n n) (w.alloc (.cells (madeCells #[.int .i64 0] n) 3)) := by
  obtain ⟨i, hi, he⟩ := Option.map_eq_some_iff.1 infI1
  simp only [Prod.mk.injEq] at he
  have := run_makeSlice (P := Tryz.prog) w 51 3 i (.int .i64 0) Tryz.underlying51 hi he.1 .i64 .i64 n n (by omega) (by omega) (by rw [he.2.1, Int.toNat_natCast]; omega) (by rw [he.2.2]; omega) (by omega)
  rw [he.2.1, Int.toNat_natCast, Nat.mul_one] at this
  exact this
/-- a test of a number: a function, what it is bound to, what it says. -/
structure Fit where
  f : Nat
  bd : List Value
  q : Int → Bool
/-- the test answers so from w on. -/
def FitOk (w : World) (t : Fit) : Prop := (∀ args y, (callFunc t.f args).run Tryz.prog y = .ok (.enter t.f args) y) ∧
  ∀ y, Below w.heap.size w y → ∀ n, I64 n → Calls Tryz.prog t.f (t.bd ++ [Value.int .i64 n]).toArray y fun e w' => e = .returned (.bool (t.q n)) ∧ Below y.heap.size y w'
def fitV (t : Fit) : Value := .func (.func t.f) t.bd.toArray #[]
noncomputable def numAt (ws : List ByteArray) (j : Nat) : Option Int := decOf (ws.getD j ⟨#[]⟩)
/-- the first k numbers are there and fit. -/
def NumsOk (ws : List ByteArray) (fs : List Fit) (k : Nat) : Prop := ∀ j, j < k → ∃ n t, numAt ws j = some n ∧ fs[j]? = some t ∧ t.q n = true
theorem numbersIn_len (ws : List ByteArray) (fs : List Fit) (ad fb : Option Addr) (c fc : Nat) (w : World) (hl : ws.length ≠ fs.length) (h1 : ws.length ≤ 100000) (h2 : fs.length ≤ 1000) :
    Calls Tryz.prog 69 #[.slice ad ws.length c, .slice fb fs.length fc] w fun e w' => e = .returned (.tuple #[.slice none 0 0, .bool false]) ∧ Below w.heap.size w w' := by
  have hb : ((ws.length : Int) != (fs.length : Int)) = true := by simp; omega
  generalize ws.length = n at *
  generalize fs.length = m at *
  go_enter Tryz.func69, Tryz.ntmps69
  go_wp2_with fail
  exact bodyPost_ret (v := .tuple #[.slice none 0 0, .bool false]) (by simp [results, Tryz.results69, go_sem]) rfl ⟨rfl, Below.refl _ _⟩
/-- what numbersIn gives. -/
def NumsEnds (ws : List ByteArray) (fs : List Fit) (B : Nat) (e : Ending) (w' : World) : Prop :=
  (NumsOk ws fs ws.length ∧ e = .returned (.tuple #[.slice (some ⟨B, 0, none⟩) ws.length ws.length, .bool true]) ∧ w'.rowIs B 3 ws.length (fun j => .int .i64 ((numAt ws j).getD 0))) ∨ (¬ NumsOk ws fs ws.length ∧ e = .returned (.tuple #[.slice none 0 0, .bool false]))
theorem numbersIn_in (ws : List ByteArray) (fs : List Fit) (g o c fb fc : Nat) (w : World) (hl : ws.length = fs.length) (hn : ws.length ≤ 10) (hcap : ws.length ≤ c) (ho : o ≤ 1000)
    (hc : ∀ (j : Nat) x, ws[j]? = some x → w.cell? ⟨g, o + j, none⟩ = some (.string x)) (hg : g < w.heap.size) (hz : ∀ x ∈ ws, x.size ≤ 100000)
    (hf : ∀ (j : Nat) t, fs[j]? = some t → w.cell? ⟨fb, j, none⟩ = some (fitV t)) (hfb : fb < w.heap.size) (hfc : fs.length ≤ fc) (hok : ∀ t ∈ fs, FitOk w t) (ht : PowTab w) (hE : ErrV w) :
    Calls Tryz.prog 69 #[.slice (some ⟨g, o, none⟩) ws.length c, .slice (some ⟨fb, 0, none⟩) fs.length fc] w fun e w' => NumsEnds ws fs w.heap.size e w' ∧ Below w.heap.size w w' := by
  have hmk := makeI ws.length (by omega) w
  have H0 := World.rowIs_made w (.int .i64 0) ws.length 3
  have b0 : Below w.heap.size w (w.alloc (.cells (madeCells #[.int .i64 0] ws.length) 3)) := (Below.refl _ _).alloc (Nat.le_refl _) _
  rw [← hl]
  have hlf : fs.length ≤ fc := hfc
  rw [← hl] at hlf
  replace hl := hidR hl
  clear hfc
  obtain ⟨B, hB⟩ : ∃ n, w.heap.size = n := ⟨_, rfl⟩
  rw [hB] at hmk H0
  have hrel0 : Hid ((w.alloc (.cells (madeCells #[.int .i64 0] ws.length) 3)).rowIs B 3 ws.length (fun j => if j < 0 then .int .i64 ((numAt ws j).getD 0) else .int .i64 0) ∧ Below w.heap.size w (w.alloc (.cells (madeCells #[.int .i64 0] ws.length) 3)) ∧ NumsOk ws fs 0) :=
    ⟨World.rowIs.congr H0 (fun j _ => by simp), b0, fun j h => absurd h (by omega)⟩
  replace hc := hidR hc
  replace hf := hidR hf
  replace hok := hidR hok
  replace ht := hidR ht
  replace hE := hidR hE
  replace hz := hidR hz
  clear H0 b0
  have hgB : g < B := by omega
  have hfB : fb < B := by omega
  rw [hB]
  replace hB := hidR hB
  go_enter Tryz.func69, Tryz.ntmps69
  go_upto_region 4 with fail
  generalize w.alloc (.cells (madeCells #[.int .i64 0] ws.length) 3) = y0 at hrel0 ⊢
  clear hmk
  go_wp2_with fail
  go_loopw [7, 8, 9, 10, 21] (fun _ _ _ _ iv wr => ∃ k : Nat, iv = .int .i64 (k : Int) ∧ k ≤ ws.length ∧ Hid (wr.rowIs B 3 ws.length (fun j => if j < k then .int .i64 ((numAt ws j).getD 0) else .int .i64 0) ∧ Below w.heap.size w wr ∧ NumsOk ws fs k)) (fun _ _ _ _ iv _ => ws.length - (intOf iv).toNat)
  case atStart => exact ⟨0, rfl, by omega, hrel0.out⟩
  case round =>
    obtain ⟨k, rfl, hk, hq⟩ := hrel
    obtain ⟨wz, hwz⟩ : ∃ x, x = wr := ⟨_, rfl⟩
    subst hwz
    clear hrel0
    by_cases hlt : k < ws.length
    · have hkI : (k : Int) < (ws.length : Int) := by omega
      obtain ⟨x, hx⟩ : ∃ x, ws[k]? = some x := ⟨_, List.getElem?_eq_getElem hlt⟩
      obtain ⟨t, htk⟩ : ∃ t, fs[k]? = some t := ⟨_, List.getElem?_eq_getElem (by have := hl.out; omega)⟩
      have hna : Hid (numAt ws k = decOf x) := by show numAt ws k = _; unfold numAt; rw [List.getD, hx]; rfl
      have hcx : wz.cell? ⟨g, o + k, none⟩ = some (.string x) := (hq.out.2.1.cell (p := ⟨g, o + k, none⟩) hg).trans (hc.out k x hx)
      have hcall := hidR (decimalIn_in x (hz.out x (List.mem_of_getElem? hx)) wz (powTab_below ht.out hq.out.2.1) (hE.out.below hq.out.2.1))
      have hno : Hid (decOf x = none → ¬ NumsOk ws fs ws.length) := fun h hh => by
        obtain ⟨n, t', h1, _⟩ := hh k hlt
        rw [hna.out, h] at h1
        cases h1
      have hno2 : Hid (∀ n, decOf x = some n → t.q n = false → ¬ NumsOk ws fs ws.length) := fun n h h2 hh => by
        obtain ⟨n', t', h1, h3, h4⟩ := hh k hlt
        rw [hna.out, h] at h1
        rw [htk] at h3
        cases h1
        cases h3
        rw [h2] at h4
        cases h4
      have hfc2 : Hid (∀ y, Below wz.heap.size wz y → y.cell? ⟨fb, k, none⟩ = some (.func (.func t.f) t.bd.toArray #[])) := fun y hy =>
        ((hq.out.2.1.trans (hy.mono hq.out.2.1.size)).cell (p := ⟨fb, k, none⟩) hfb).trans (hf.out k t htk)
      have hft := hidR (hok.out t (List.mem_of_getElem? htk))
      replace hx := hidR hx
      replace htk := hidR htk
      go_wp2_with fail
      refine Calls.mono hcall.out ?_
      rintro e y1 ⟨hd, b1⟩
      clear hcall hcx
      rcases hd with ⟨n, hdn, rfl⟩ | ⟨hdn, rfl⟩
      · have hI := (decOf_some hdn).1
        have hcf := hfc2.out y1 b1
        have by1 := hq.out.2.1.trans (b1.mono hq.out.2.1.size)
        replace hdn := hidR hdn
        have hfl : fb < y1.heap.size := Nat.lt_of_lt_of_le hfb by1.size
        go_wp2_with fail
        have hcl := hidR (hft.out.2 y1 by1 n hI)
        rw [hft.out.1]
        go_wp2_with fail
        refine Calls.mono hcl.out ?_
        rintro e y2 ⟨rfl, b2⟩
        have by2 := by1.trans (b2.mono by1.size)
        have hrow := World.rowIs.of_block (World.rowIs.of_block hq.out.1 (b1.block _ (World.rowIs.lt hq.out.1))) (b2.block _ (Nat.lt_of_lt_of_le (World.rowIs.lt hq.out.1) b1.size))
        clear hcl hcf hft hfc2
        cases hqn : t.q n with
        | false =>
          have hn0 := hidR (hno2.out n hdn.out hqn)
          clear hno hno2 hna hqn hrow
          go_wp2_with fail
          exact bodyPost_ret (v := .tuple #[.slice none 0 0, .bool false]) (by simp [results, Tryz.results69, go_sem]) rfl ⟨.inr ⟨hn0.out, rfl⟩, by rw [← hB.out]; exact by2⟩
        | true =>
          have q1 := hrow.cell hlt
          have f1 := hrow.frozen k
          have hl1 := hrow.lt
          have hrow2 := hrow.set k (.int .i64 n)
          have bb := Below.setCell by2 (p := ⟨B, k, none⟩) (show w.heap.size ≤ B by rw [hB.out]; exact Nat.le_refl _) (.int .i64 n)
          have hrel : Hid ((y2.setCell ⟨B, k, none⟩ (.int .i64 n)).rowIs B 3 ws.length (fun j => if j < k + 1 then .int .i64 ((numAt ws j).getD 0) else .int .i64 0) ∧ Below w.heap.size w (y2.setCell ⟨B, k, none⟩ (.int .i64 n)) ∧ NumsOk ws fs (k + 1)) := by
            refine ⟨hrow2.congr (fun j hj => ?_), bb, fun j hj => ?_⟩
            · by_cases e1 : j = k
              · subst e1; rw [if_pos rfl, if_pos (by omega), hna.out, hdn.out]; rfl
              · rw [if_neg e1]
                by_cases e2 : j < k
                · rw [if_pos e2, if_pos (by omega)]
                · rw [if_neg e2, if_neg (by omega)]
            · by_cases e1 : j = k
              · subst e1; exact ⟨n, t, by rw [hna.out, hdn.out], htk.out, hqn⟩
              · exact hq.out.2.2 j (by omega)
          clear hrow hrow2 bb hq hno hno2 hna hqn by2 by1
          go_wp2_with fail
          go_roundw
          case rel => exact ⟨k + 1, by go_num, by omega, hrel.out⟩
          case measure => clear hrel; simp only [intOf]; omega
      · have hn0 := hidR (hno.out hdn)
        have by1 := hq.out.2.1.trans (b1.mono hq.out.2.1.size)
        clear hno hno2 hdn hna
        go_wp2_with fail
        exact bodyPost_ret (v := .tuple #[.slice none 0 0, .bool false]) (by simp [results, Tryz.results69, go_sem]) rfl ⟨.inr ⟨hn0.out, rfl⟩, by rw [← hB.out]; exact by1⟩
    · obtain rfl : k = ws.length := by omega
      have hkI : ¬ ((ws.length : Nat) : Int) < (ws.length : Int) := by omega
      have hfin : Hid (NumsEnds ws fs B (.returned (.tuple #[.slice (some ⟨B, 0, none⟩) ws.length ws.length, .bool true])) wz) := .inl ⟨hq.out.2.2, rfl, World.rowIs.congr hq.out.1 (fun j hj => by rw [if_pos hj])⟩
      have hbel := hq.out.2.1
      clear hq
      go_wp2_with fail
      exact bodyPost_ret (v := .tuple #[.slice (some ⟨B, 0, none⟩) ws.length ws.length, .bool true]) (by simp [results, Tryz.results69, go_sem]) rfl ⟨hfin.out, by rw [← hB.out]; exact hbel⟩
end
end Go.Proofs.YtkanjbopfflioaaGreatDoor

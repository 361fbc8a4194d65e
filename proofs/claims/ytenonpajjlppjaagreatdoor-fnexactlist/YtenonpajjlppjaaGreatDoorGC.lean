import Derived.Test.YtenonpajjlppjaaGreatDoorLjA
import Derived.Test.YtenonpajjlppjaaGreatDoorShelf
import Derived.Test.YtenonpajjlppjaaGreatDoorGH
import Derived.Laws.MakeOwn
import Derived.Lib.LaidTab
import Derived.Lib.AppendIntMem
import Derived.Lib.ItoaLen
namespace Go.Proofs.YtenonpajjlppjaaGreatDoor
section
open Go.RowKit Go.Lib Go.Shelf
set_option linter.unusedVariables false
set_option linter.unusedSimpArgs false
set_option maxRecDepth 100000
set_option maxHeartbeats 1000000
/-- words with a sign between them. -/
def joinB (xs : List ByteArray) : ByteArray := ⟨(Lib.join (xs.map (·.data.toList)) [32]).toArray⟩
/-- a line. -/
def lineB (xs : List ByteArray) : ByteArray := joinB xs ++ ⟨#[10]⟩
theorem join_in (bk o c : Nat) (xs : List ByteArray) (w : World) (hcells : ∀ (j : Nat) x, xs[j]? = some x → w.cell? ⟨bk, o + j, none⟩ = some (.string x)) (hbk : bk < w.heap.size) (hN : xs.length ≤ 1000) (hcap : xs.length ≤ c) (hlen : (joinB xs).size ≤ 100000) :
    Calls Tryz.prog 88 #[.slice (some ⟨bk, o, none⟩) xs.length c, .string ⟨#[32]⟩] w fun e w' => e = .returned (.string (joinB xs)) ∧ Below w.heap.size w w' :=
  Any.strings_Join Tryz.lays156 Tryz.Builder_Extra_156 bk o c xs ⟨#[32]⟩ w hcells hbk (by omega) hcap (by
    have : (joinB xs).size = (Lib.join (xs.map (·.data.toList)) [32]).length := by simp [joinB, ByteArray.size]
    have e : (⟨#[32]⟩ : ByteArray).data.toList = [32] := rfl
    rw [e]
    omega)
attribute [local go_sem] Oper.semAt_some
theorem lineOf_in (bk o c : Nat) (xs : List ByteArray) (w : World) (hcells : ∀ (j : Nat) x, xs[j]? = some x → w.cell? ⟨bk, o + j, none⟩ = some (.string x)) (hbk : bk < w.heap.size) (hN : xs.length ≤ 1000) (hcap : xs.length ≤ c) (hlen : (joinB xs).size ≤ 100000) :
    Calls Tryz.prog 90 #[.slice (some ⟨bk, o, none⟩) xs.length c] w fun e w' => e = .returned (.string (lineB xs)) ∧ Below w.heap.size w w' := by
  have hj := show Hid _ from join_in bk o c xs w hcells hbk hN hcap hlen
  clear hcells hbk hN hcap
  unfold lineB
  generalize joinB xs = J at hj hlen ⊢
  have hz : J.size + (⟨#[10]⟩ : ByteArray).size ≤ 9223372036854775807 := by have : (⟨#[10]⟩ : ByteArray).size = 1 := rfl; omega
  go_enter Tryz.func90, Tryz.ntmps90
  go_wp2_with fail
  refine Calls.mono hj.out ?_
  rintro e y ⟨rfl, hb⟩
  clear hj
  go_wp2_with fail
  go_ret
  exact ⟨rfl, hb⟩
theorem lineB_size (xs : List ByteArray) : (lineB xs).size = (joinB xs).size + 1 := by unfold lineB; rw [ByteArray.size_append]; rfl
theorem line_in (P : Nat) (U : List Value) (hU : U.length = 640) (bk o c : Nat) (xs : List ByteArray) (w0 : World) (v0 : Value) (y : World) (v : Value) (X : ByteArray) (h : Lw P U w0 v0 y v X)
    (hcells : ∀ (j : Nat) x, xs[j]? = some x → y.cell? ⟨bk, o + j, none⟩ = some (.string x)) (hbk : bk < y.heap.size) (hN : xs.length ≤ 1000) (hcap : xs.length ≤ c) (hlen : (joinB xs).size ≤ 100000) (hs : X.size ≤ 70368744177664) :
    Calls Tryz.prog 52 #[.pointer (some ⟨P, 0, none⟩), .slice (some ⟨bk, o, none⟩) xs.length c] y fun e w' => ∃ v', e = .returned (.tuple #[]) ∧ Lw P U w0 v0 w' v' (X ++ lineB xs) := by
  have hl := show Hid _ from lineOf_in bk o c xs y.drew (fun j x hx => hcells j x hx) hbk hN hcap hlen
  have hw := show Hid (∀ y' v', Lw P U w0 v0 y' v' X → Calls Tryz.prog 89 #[.pointer (some ⟨P, 0, none⟩), .string (lineB xs)] y' fun e w' => ∃ v', e = .returned (.tuple #[.int .i64 ((lineB xs).size : Int), .nilIface]) ∧ Lw P U w0 v0 w' v' (X ++ lineB xs)) from
    fun y' v' h' => writeString_in P U hU (lineB xs) w0 v0 y' v' X h' (by rw [lineB_size]; omega)
  have hP := h.lt
  have hd := show Hid _ from h.drew
  clear h hcells hbk hN hcap hlen hs
  generalize lineB xs = J at hl hw ⊢
  go_enter Tryz.func52, Tryz.ntmps52
  refine wp_region_held_drew (S := fun _ => True) (by kernel_rfl) trivial (fun hH => ?_)
  clear hH
  refine take_dst 0 4 (.pointer (some ⟨P, 0, none⟩)) rfl (by kernel_rfl) (by kernel_rfl) (by kernel_rfl) (fun _ _ _ h => h) (Or.inl ⟨by rfl, by intro wv hSv; go_simp⟩) trivial rfl ?_
  try simp only [Act.put, List.setIfInBounds_toArray, List.set_cons_zero, List.set_cons_succ]
  refine take_dst 1 5 (.pointer (some ⟨P, 0, none⟩)) rfl (by kernel_rfl) (by kernel_rfl) (by kernel_rfl) (fun _ _ _ h => h) (Or.inl ⟨by rfl, by intro wv hSv; go_simp⟩) trivial rfl ?_
  try simp only [Act.put, List.setIfInBounds_toArray, List.set_cons_zero, List.set_cons_succ]
  refine take_dst 2 6 (.pointer (some ⟨P, 0, none⟩)) rfl (by kernel_rfl) (by kernel_rfl) (by kernel_rfl) (fun _ _ _ h => h) (Or.inl ⟨by rfl, by intro wv hSv; go_simp⟩) trivial rfl ?_
  try simp only [Act.put, List.setIfInBounds_toArray, List.set_cons_zero, List.set_cons_succ]
  refine take_dst 3 7 (.slice (some ⟨bk, o, none⟩) xs.length c) rfl (by kernel_rfl) (by kernel_rfl) (by kernel_rfl) (fun _ _ _ h => h) (Or.inl ⟨by rfl, by intro wv hSv; go_simp⟩) trivial rfl ?_
  try simp only [Act.put, List.setIfInBounds_toArray, List.set_cons_zero, List.set_cons_succ]
  refine wpAnyH_ready (rs := [4]) (by kernel_rfl) (by simp) ?_
  refine AllReadyH.cons rfl (fun K hK => ?_) AllReadyH.nil
  go_simp
  refine Calls.mono hl.out ?_
  rintro e y1 ⟨rfl, b1⟩
  have h1 := show Hid _ from hd.out.later b1
  clear hl hd
  go_wp2_with fail
  refine hK.out _ _ trivial (fun hzz => ?_)
  clear hK K hzz
  try simp only [Act.put, List.setIfInBounds_toArray, List.set_cons_zero, List.set_cons_succ]
  refine wpAnyH_ready (rs := [5]) (by kernel_rfl) (by simp) ?_
  refine AllReadyH.cons rfl (fun K hK => ?_) AllReadyH.nil
  go_simp
  refine Calls.mono (hw.out y1 v h1.out) ?_
  rintro e y2 ⟨v2, rfl, h2⟩
  replace h2 := show Hid _ from h2
  clear hw h1
  go_wp2_with fail
  refine hK.out _ _ trivial (fun hzz => ?_)
  clear hK K hzz
  try simp only [Act.put, List.setIfInBounds_toArray, List.set_cons_zero, List.set_cons_succ]
  refine wpAnyH_done (by kernel_rfl) ?_ _
  go_end0
  exact ⟨_, rfl, h2.out⟩
end
section
open Go.RowKit Go.Shelf
set_option linter.unusedVariables false
set_option linter.unusedSimpArgs false
set_option maxRecDepth 100000
set_option maxHeartbeats 1000000
/-- the table of tens is there. -/
abbrev PowTab (w : World) : Prop := Lib.TabIs Tryz.prog w "internal/strconv.uint64pow10" .u64 Lib.pow10Tab
theorem powTab_below {w w' : World} (h : PowTab w) (hb : Below w.heap.size w w') : PowTab w' := Lib.tabBelow_of_tabIs h w' hb
theorem itoa_in (n : Int) (h0 : -9223372036854775808 ≤ n) (h1 : n ≤ 9223372036854775807) (w : World) (ht : PowTab w) :
    Calls Tryz.prog 87 #[.int .i64 n] w fun e w' => e = .returned (.string (dec n)) ∧ Below w.heap.size w w' := by
  refine Calls.mono (Any.strconv_Itoa Tryz.laysM171 n h0 h1 w ht) ?_
  rintro e w' ⟨rfl, k, os, rfl⟩
  exact ⟨rfl, Lib.below_grow _ _ (Nat.le_refl _) _ _⟩
theorem infS1 : (Tryz.prog.info? 9).map (fun i => (i.zero, i.size, i.bytes)) = some (some (.string ⟨#[]⟩), 1, 16) := by kernel_rfl
theorem makeS (n : Nat) (hn : n ≤ 1000) (w : World) : (Instr.makeSlice 65 (.int .i64 (n : Int)) (.int .i64 (n : Int))).run Tryz.prog w = .ok (.slice (some ⟨w.heap.size, 0, none⟩) n n) (w.alloc (.cells (madeCells #[.string ⟨#[]⟩] n) 9)) := by
  obtain ⟨i, hi, he⟩ := Option.map_eq_some_iff.1 infS1
  simp only [Prod.mk.injEq] at he
  have := run_makeSlice (P := Tryz.prog) w 65 9 i (.string ⟨#[]⟩) Tryz.underlying65 hi he.1 .i64 .i64 n n (by omega) (by omega) (by rw [he.2.1, Int.toNat_natCast]; omega) (by rw [he.2.2]; omega) (by omega)
  rw [he.2.1, Int.toNat_natCast, Nat.mul_one] at this
  exact this
theorem decimals_in (ns : List Int) (bk o c : Nat) (w : World) (hcells : ∀ (j : Nat) x, ns[j]? = some x → w.cell? ⟨bk, o + j, none⟩ = some (.int .i64 x)) (hbk : bk < w.heap.size) (hn : ns.length ≤ 1000) (hc : ns.length ≤ c)
    (hr : ∀ x ∈ ns, -9223372036854775808 ≤ x ∧ x ≤ 9223372036854775807) (ht : PowTab w) (hlen : (joinB (ns.map dec)).size ≤ 100000) (ho : o ≤ 1000000000) :
    Calls Tryz.prog 51 #[.slice (some ⟨bk, o, none⟩) ns.length c] w fun e w' => e = .returned (.string (joinB (ns.map dec))) ∧ Below w.heap.size w w' := by
  obtain ⟨J, hJ⟩ : ∃ J, joinB (ns.map dec) = J := ⟨_, rfl⟩
  rw [hJ]
  replace hJ := show Hid _ from hJ
  have hmk := makeS ns.length hn w
  have H0 := World.rowIs_made w (.string ⟨#[]⟩) ns.length 9
  have b0 : Below w.heap.size w (w.alloc (.cells (madeCells #[.string ⟨#[]⟩] ns.length) 9)) := (Below.refl _ _).alloc (Nat.le_refl _) _
  replace H0 := show Hid _ from H0
  replace b0 := show Hid _ from b0
  replace hcells := show Hid _ from hcells
  replace hr := show Hid _ from hr
  replace ht := show Hid _ from ht
  obtain ⟨B, hB⟩ : ∃ n, w.heap.size = n := ⟨_, rfl⟩
  rw [hB] at hmk H0
  have hbB : bk < B := by omega
  go_enter Tryz.func51, Tryz.ntmps51
  go_upto_region 2 with fail
  generalize w.alloc (.cells (madeCells #[.string ⟨#[]⟩] ns.length) 9) = y0 at H0 b0 ⊢
  clear hmk
  go_wp2_with fail
  go_loopw [11] (fun iv wr => ∃ k : Nat, iv = .int .i64 (k : Int) ∧ k ≤ ns.length ∧ Hid (wr.rowIs B 9 ns.length (fun j => if j < k then .string (dec (ns.getD j 0)) else .string ⟨#[]⟩) ∧ Below w.heap.size w wr)) (fun iv _ => ns.length - (intOf iv).toNat)
  case atStart => exact ⟨0, rfl, Nat.zero_le _, World.rowIs.congr H0.out (fun j _ => by simp), b0.out⟩
  case round =>
    obtain ⟨k, rfl, hk, hq⟩ := hrel
    by_cases hkn : k < ns.length
    · have hkI : (k : Int) < (ns.length : Int) := by omega
      obtain ⟨x, hx⟩ : ∃ x, ns[k]? = some x := ⟨_, List.getElem?_eq_getElem hkn⟩
      have hxr := hr.out x (List.mem_of_getElem? hx)
      have hcx : wr.cell? ⟨bk, o + k, none⟩ = some (.int .i64 x) := (hq.out.2.cell (p := ⟨bk, o + k, none⟩) (show bk < w.heap.size by omega)).trans (hcells.out k x hx)
      have hcall := show Hid _ from itoa_in x hxr.1 hxr.2 wr (powTab_below ht.out hq.out.2)
      have hgx : ns.getD k 0 = x := by rw [List.getD, hx]; rfl
      have hidx : (k : Int) < ((ns.length : Nat) : Int) := hkI
      replace hx := show Hid _ from hx
      replace hgx := show Hid _ from hgx
      replace hxr := show Hid _ from hxr
      go_wp2_with fail
      refine Calls.mono hcall.out ?_
      rintro e y1 ⟨rfl, b1⟩
      have hrow := World.rowIs.of_block hq.out.1 (b1.block _ (World.rowIs.lt hq.out.1))
      have q1 := hrow.cell hkn
      have f1 := hrow.frozen k
      have hl1 := hrow.lt
      have hrow2 := hrow.set k (.string (dec x))
      have bb := Below.setCell (hq.out.2.trans (b1.mono hq.out.2.size)) (p := ⟨B, k, none⟩) (show w.heap.size ≤ B by omega) (.string (dec x))
      have hrel : Hid ((y1.setCell ⟨B, k, none⟩ (.string (dec x))).rowIs B 9 ns.length (fun j => if j < k + 1 then .string (dec (ns.getD j 0)) else .string ⟨#[]⟩) ∧ Below w.heap.size w (y1.setCell ⟨B, k, none⟩ (.string (dec x)))) := by
        refine ⟨hrow2.congr (fun j hj => ?_), bb⟩
        by_cases e1 : j = k
        · subst e1; rw [if_pos rfl, if_pos (by omega), hgx.out]
        · rw [if_neg e1]
          by_cases e2 : j < k
          · rw [if_pos e2, if_pos (by omega)]
          · rw [if_neg e2, if_neg (by omega)]
      clear hrow hrow2 bb hq hcall hcx b1
      generalize dec x = dx at hrel ⊢
      go_wp2_with fail
      go_roundw
      case rel => exact ⟨k + 1, by go_num, hkn, hrel.out⟩
      case measure => clear hrel; simp only [intOf]; omega
    · obtain rfl : k = ns.length := by omega
      have hkI : ¬ ((ns.length : Nat) : Int) < (ns.length : Int) := by omega
      have hj := show Hid _ from join_in B 0 ns.length (ns.map dec) wr (fun j x hx => by
        rw [List.getElem?_map] at hx
        obtain ⟨z, hz, rfl⟩ := Option.map_eq_some_iff.1 hx
        have hjl := (List.getElem?_eq_some_iff.1 hz).1
        have := hq.out.1.cell hjl
        rw [if_pos hjl, List.getD, hz] at this
        rw [Nat.zero_add]
        exact this) hq.out.1.lt (by rw [List.length_map]; omega) (by rw [List.length_map]; omega) hlen
      rw [List.length_map] at hj
      rw [hJ.out] at hj
      go_wp2_with fail
      refine Calls.mono hj.out ?_
      rintro e y1 ⟨rfl, b1⟩
      go_wp2_with fail
      go_ret
      exact ⟨rfl, hq.out.2.trans (b1.mono hq.out.2.size)⟩
end
section
open Go.RowKit Go.Shelf
set_option linter.unusedVariables false
set_option linter.unusedSimpArgs false
set_option maxRecDepth 100000
set_option maxHeartbeats 1000000
def spB : ByteArray := ⟨#[32]⟩
theorem joinB_one (a : ByteArray) : joinB [a] = a := by
  unfold joinB
  rw [List.map_cons, List.map_nil, Lib.join_one]
theorem joinB_more (a b : ByteArray) (r : List ByteArray) : joinB (a :: b :: r) = a ++ spB ++ joinB (b :: r) := by
  unfold joinB spB
  simp only [List.map_cons, Lib.join]
  apply ByteArray.ext
  simp [ByteArray.data_append]
theorem dec_size (n : Int) (h0 : -9223372036854775808 ≤ n) (h1 : n ≤ 9223372036854775807) : (dec n).size ≤ 21 := by
  have := Lib.itoa_length_le n h0 h1
  simpa [dec, ByteArray.size] using this
/-- the line of an upvalue. -/
def upT (u : UD) : ByteArray := (if u.stack then ⟨#[117, 112, 32, 115, 116, 97, 99, 107, 32]⟩ else ⟨#[117, 112, 32, 99, 101, 108, 108, 32]⟩) ++ dec u.index
theorem l6Num_in (n : Int) (h0 : -9223372036854775808 ≤ n) (h1 : n ≤ 9223372036854775807) (w : World) :
    Calls Tryz.prog 64 #[.int .i64 n] w fun e w' => e = .returned (.string (dec n)) ∧ Below w.heap.size w w' := by
  have h := show Hid _ from specShowInt n h0 h1 w
  generalize dec n = d at h ⊢
  go_enter Tryz.func64, Tryz.ntmps64
  go_wp2_with fail
  refine Calls.mono h.out ?_
  rintro e y ⟨rfl, hb⟩
  go_wp2_with fail
  go_ret
  exact ⟨rfl, hb⟩
theorem l6Up_in (u : UD) (h0 : -9223372036854775808 ≤ u.index) (h1 : u.index ≤ 9223372036854775807) (w : World) :
    Calls Tryz.prog 25 #[.agg #[.bool u.stack, .int .i64 u.index]] w fun e w' => e = .returned (.string (upT u)) ∧ Below w.heap.size w w' := by
  obtain ⟨st, ix⟩ := u
  dsimp only at h0 h1 ⊢
  have h := show Hid (∀ y, _) from fun y => l6Num_in ix h0 h1 y
  have hd := dec_size ix h0 h1
  unfold upT
  dsimp only
  generalize dec ix = d at h hd ⊢
  cases st with
  | true =>
    have hz : (⟨#[117, 112, 32, 115, 116, 97, 99, 107, 32]⟩ : ByteArray).size + d.size ≤ 9223372036854775807 := by have : (⟨#[117, 112, 32, 115, 116, 97, 99, 107, 32]⟩ : ByteArray).size = 9 := rfl; omega
    rw [if_pos rfl]
    go_enter Tryz.func25, Tryz.ntmps25
    go_wp2_with fail
    refine Calls.mono (h.out _) ?_
    rintro e y ⟨rfl, hb⟩
    go_wp2_with fail
    go_ret
    exact ⟨rfl, by first | exact hb | exact Below.trans (by go_grown) (hb.mono (by simp only [World.size_alloc]; omega))⟩
  | false =>
    have hz : (⟨#[117, 112, 32, 99, 101, 108, 108, 32]⟩ : ByteArray).size + d.size ≤ 9223372036854775807 := by have : (⟨#[117, 112, 32, 99, 101, 108, 108, 32]⟩ : ByteArray).size = 8 := rfl; omega
    rw [if_neg (by simp)]
    go_enter Tryz.func25, Tryz.ntmps25
    go_wp2_with fail
    refine Calls.mono (h.out _) ?_
    rintro e y ⟨rfl, hb⟩
    go_wp2_with fail
    go_ret
    exact ⟨rfl, by first | exact hb | exact Below.trans (by go_grown) (hb.mono (by simp only [World.size_alloc]; omega))⟩
end
end Go.Proofs.YtenonpajjlppjaaGreatDoor

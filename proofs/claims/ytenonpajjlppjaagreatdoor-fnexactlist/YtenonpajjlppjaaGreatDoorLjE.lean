import Derived.Test.YtenonpajjlppjaaGreatDoorGC
namespace Go.Proofs.YtenonpajjlppjaaGreatDoor
open Go.RowKit Go.Shelf
set_option linter.unusedVariables false
set_option linter.unusedSimpArgs false
set_option maxRecDepth 100000
set_option maxHeartbeats 1000000
theorem cellsOf {w : World} {L : List Value} {t : TypeId} {j : Nat} {x : Value} (h : L[j]? = some x) : (w.alloc (.cells L.toArray t)).cell? ⟨w.heap.size, 0 + j, none⟩ = some x := by
  rw [Nat.zero_add]
  exact (RowL.new w L t).cell j h
theorem joinB_size2 (a b : ByteArray) : (joinB [a, b]).size = a.size + 1 + b.size := by
  rw [joinB_more, joinB_one]; simp only [ByteArray.size_append]; rfl
theorem joinB_size3 (a b c : ByteArray) : (joinB [a, b, c]).size = a.size + 1 + b.size + 1 + c.size := by
  rw [joinB_more, joinB_more, joinB_one]; simp only [ByteArray.size_append]; have : spB.size = 1 := rfl; omega
theorem upT_line (u : UD) : lineB [⟨#[117, 112]⟩, (if u.stack then ⟨#[115, 116, 97, 99, 107]⟩ else ⟨#[99, 101, 108, 108]⟩), dec u.index] = upT u ++ ⟨#[10]⟩ := by
  unfold lineB upT
  rw [joinB_more, joinB_more, joinB_one]
  congr 1
  rw [← ByteArray.append_assoc, ← ByteArray.append_assoc]
  congr 1
  cases u.stack <;> rfl
theorem lup_in (P : Nat) (U : List Value) (hU : U.length = 640) (u : UD) (h0 : -9223372036854775808 ≤ u.index) (h1 : u.index ≤ 9223372036854775807) (w0 : World) (v0 : Value) (y : World) (v : Value) (X : ByteArray) (h : Lw P U w0 v0 y v X) (ht : PowTab y) (hs : X.size ≤ 70368744177664) :
    Calls Tryz.prog 54 #[.pointer (some ⟨P, 0, none⟩), .agg #[.bool u.stack, .int .i64 u.index]] y fun e w' => ∃ v', e = .returned (.tuple #[]) ∧ Lw P U w0 v0 w' v' (X ++ (upT u ++ ⟨#[10]⟩)) := by
  have hup := upT_line u
  generalize upT u ++ ⟨#[10]⟩ = Z at hup ⊢
  obtain ⟨st, ix⟩ := u
  dsimp only at h0 h1 hup ⊢
  have hd := dec_size ix h0 h1
  obtain ⟨d, hde⟩ : ∃ d, dec ix = d := ⟨_, rfl⟩
  cases st with
  | true =>
    rw [if_pos rfl, hde] at hup
    rw [hde] at hd
    have hb0 : Below y.heap.size y ((y.alloc (.cells #[.bool true, .int .i64 ix] 84)).alloc (.cells #[.int .i64 ix] 3)) := ((Below.refl _ _).alloc (Nat.le_refl _) _).alloc (by rw [World.size_alloc]; omega) _
    have hdm := show Hid _ from decimals_in [ix] (y.heap.size + 1) 0 1 ((y.alloc (.cells #[.bool true, .int .i64 ix] 84)).alloc (.cells #[.int .i64 ix] 3)) (fun j x hx => by
        have e : (y.alloc (.cells #[.bool true, .int .i64 ix] 84)).heap.size = y.heap.size + 1 := World.size_alloc _ _
        rw [← e]
        refine cellsOf (L := [.int .i64 ix]) ?_
        cases j with
        | zero => simp at hx; simp [hx]
        | succ j => simp at hx) (by simp only [World.size_alloc]; omega) (by simp) (by simp) (fun x hx => by simp at hx; subst hx; exact ⟨h0, h1⟩) (powTab_below ht hb0) (by rw [List.map_cons, List.map_nil, joinB_one, hde]; omega) (by omega)
    rw [List.map_cons, List.map_nil, joinB_one, hde] at hdm
    have hjs : (joinB [⟨#[117, 112]⟩, ⟨#[115, 116, 97, 99, 107]⟩, d]).size ≤ 100000 := by
      rw [joinB_size3]
      have e1 : (⟨#[117, 112]⟩ : ByteArray).size = 2 := rfl
      have e2 : (⟨#[115, 116, 97, 99, 107]⟩ : ByteArray).size ≤ 5 := by decide
      omega
    have hln := show Hid (∀ (y1 : World) (bk : Nat), Lw P U w0 v0 y1 v X → bk < y1.heap.size → (∀ (j : Nat) x, [⟨#[117, 112]⟩, ⟨#[115, 116, 97, 99, 107]⟩, d][j]? = some x → y1.cell? ⟨bk, 0 + j, none⟩ = some (.string x)) → Calls Tryz.prog 52 #[.pointer (some ⟨P, 0, none⟩), .slice (some ⟨bk, 0, none⟩) 3 3] y1 fun e w' => ∃ v', e = .returned (.tuple #[]) ∧ Lw P U w0 v0 w' v' (X ++ lineB [⟨#[117, 112]⟩, ⟨#[115, 116, 97, 99, 107]⟩, d])) from
      fun y1 bk hl hbk hc => line_in P U hU bk 0 3 [⟨#[117, 112]⟩, ⟨#[115, 116, 97, 99, 107]⟩, d] w0 v0 y1 v X hl hc hbk (by simp) (by simp) hjs hs
    rw [hup] at hln
    have hL := show Hid _ from h
    have hz := h.lt
    clear h ht hup
    go_enter Tryz.func54, Tryz.ntmps54
    go_wp2_with fail
    refine Calls.mono hdm.out ?_
    rintro e y2 ⟨rfl, b2⟩
    have b3 := hb0.trans (b2.mono hb0.size)
    have b4 : Below y.heap.size y (y2.alloc (.cells #[.string ⟨#[117, 112]⟩, .string ⟨#[115, 116, 97, 99, 107]⟩, .string d] 9)) := b3.alloc b3.size _
    have hl4 := show Hid _ from hln.out _ y2.heap.size (hL.out.later b4) (by rw [World.size_alloc]; omega) (fun j x hx => by
      refine cellsOf (L := [.string ⟨#[117, 112]⟩, .string ⟨#[115, 116, 97, 99, 107]⟩, .string d]) ?_
      rcases j with _ | _ | _ | j
      · simp at hx; simp [hx]
      · simp at hx; simp [hx]
      · simp at hx; simp [hx]
      · simp at hx)
    clear hdm hln hL b2 b3 b4 hb0
    go_wp2_with fail
    refine Calls.mono hl4.out ?_
    rintro e y5 ⟨v5, rfl, h5⟩
    replace h5 := show Hid _ from h5
    clear hl4
    go_wp2_with fail
    go_end0
    exact ⟨_, rfl, h5.out⟩
  | false =>
    rw [if_neg (by simp), hde] at hup
    rw [hde] at hd
    have hb0 : Below y.heap.size y ((y.alloc (.cells #[.bool false, .int .i64 ix] 84)).alloc (.cells #[.int .i64 ix] 3)) := ((Below.refl _ _).alloc (Nat.le_refl _) _).alloc (by rw [World.size_alloc]; omega) _
    have hdm := show Hid _ from decimals_in [ix] (y.heap.size + 1) 0 1 ((y.alloc (.cells #[.bool false, .int .i64 ix] 84)).alloc (.cells #[.int .i64 ix] 3)) (fun j x hx => by
        have e : (y.alloc (.cells #[.bool false, .int .i64 ix] 84)).heap.size = y.heap.size + 1 := World.size_alloc _ _
        rw [← e]
        refine cellsOf (L := [.int .i64 ix]) ?_
        cases j with
        | zero => simp at hx; simp [hx]
        | succ j => simp at hx) (by simp only [World.size_alloc]; omega) (by simp) (by simp) (fun x hx => by simp at hx; subst hx; exact ⟨h0, h1⟩) (powTab_below ht hb0) (by rw [List.map_cons, List.map_nil, joinB_one, hde]; omega) (by omega)
    rw [List.map_cons, List.map_nil, joinB_one, hde] at hdm
    have hjs : (joinB [⟨#[117, 112]⟩, ⟨#[99, 101, 108, 108]⟩, d]).size ≤ 100000 := by
      rw [joinB_size3]
      have e1 : (⟨#[117, 112]⟩ : ByteArray).size = 2 := rfl
      have e2 : (⟨#[99, 101, 108, 108]⟩ : ByteArray).size ≤ 5 := by decide
      omega
    have hln := show Hid (∀ (y1 : World) (bk : Nat), Lw P U w0 v0 y1 v X → bk < y1.heap.size → (∀ (j : Nat) x, [⟨#[117, 112]⟩, ⟨#[99, 101, 108, 108]⟩, d][j]? = some x → y1.cell? ⟨bk, 0 + j, none⟩ = some (.string x)) → Calls Tryz.prog 52 #[.pointer (some ⟨P, 0, none⟩), .slice (some ⟨bk, 0, none⟩) 3 3] y1 fun e w' => ∃ v', e = .returned (.tuple #[]) ∧ Lw P U w0 v0 w' v' (X ++ lineB [⟨#[117, 112]⟩, ⟨#[99, 101, 108, 108]⟩, d])) from
      fun y1 bk hl hbk hc => line_in P U hU bk 0 3 [⟨#[117, 112]⟩, ⟨#[99, 101, 108, 108]⟩, d] w0 v0 y1 v X hl hc hbk (by simp) (by simp) hjs hs
    rw [hup] at hln
    have hL := show Hid _ from h
    have hz := h.lt
    clear h ht hup
    go_enter Tryz.func54, Tryz.ntmps54
    go_wp2_with fail
    refine Calls.mono hdm.out ?_
    rintro e y2 ⟨rfl, b2⟩
    have b3 := hb0.trans (b2.mono hb0.size)
    have b4 : Below y.heap.size y (y2.alloc (.cells #[.string ⟨#[117, 112]⟩, .string ⟨#[99, 101, 108, 108]⟩, .string d] 9)) := b3.alloc b3.size _
    have hl4 := show Hid _ from hln.out _ y2.heap.size (hL.out.later b4) (by rw [World.size_alloc]; omega) (fun j x hx => by
      refine cellsOf (L := [.string ⟨#[117, 112]⟩, .string ⟨#[99, 101, 108, 108]⟩, .string d]) ?_
      rcases j with _ | _ | _ | j
      · simp at hx; simp [hx]
      · simp at hx; simp [hx]
      · simp at hx; simp [hx]
      · simp at hx)
    clear hdm hln hL b2 b3 b4 hb0
    go_wp2_with fail
    refine Calls.mono hl4.out ?_
    rintro e y5 ⟨v5, rfl, h5⟩
    replace h5 := show Hid _ from h5
    clear hl4
    go_wp2_with fail
    go_end0
    exact ⟨_, rfl, h5.out⟩
end Go.Proofs.YtenonpajjlppjaaGreatDoor

import Derived.Test.YtplijnfaiofckaaGreatDoorGh
import Derived.Test.YtplijnfaiofckaaGreatDoorGk
namespace Go.Proofs.YtplijnfaiofckaaGreatDoor
open Go.RowKit
set_option linter.unusedVariables false
set_option linter.unusedSimpArgs false
set_option maxRecDepth 100000
set_option maxHeartbeats 9000000
theorem kept3 {x y z : Value} {T : TypeId} {w w1 : World} (b : Below (w.alloc (.cells #[x, y, z] T)).heap.size (w.alloc (.cells #[x, y, z] T)) w1) :
  (w1.cell? ⟨w.heap.size, 0, none⟩ = some x ∧ w1.cell? ⟨w.heap.size, 1, none⟩ = some y ∧ w1.cell? ⟨w.heap.size, 2, none⟩ = some z) ∧ Below w.heap.size w w1 := by
 refine ⟨⟨?_, ?_, ?_⟩, ((Below.refl w.heap.size w).alloc (Nat.le_refl _) _).trans (b.mono (by rw [World.size_alloc]; omega))⟩
 ·rw [b.cell (p := ⟨w.heap.size, 0, none⟩) (by simp)]; simp [go_sem]
 ·rw [b.cell (p := ⟨w.heap.size, 1, none⟩) (by simp)]; simp [go_sem]
 ·rw [b.cell (p := ⟨w.heap.size, 2, none⟩) (by simp)]; simp [go_sem]
abbrev vdV (d : VD) : Value := .agg #[.int .i64 d.kind, .int .i64 d.num, .string d.text]
theorem qh1 (d : VD) (b : Bool) (h : b = true ↔ Plain d) (w : World) :
  Calls Tryz.prog 92 #[vdV d] w fun e w' => e = .returned (.bool b) ∧ Below w.heap.size w w' :=
 (plain_in d w).mono fun e w' ⟨⟨r, he, hr⟩, hb⟩ => ⟨by rw [he]; congr 2; cases r <;> cases b <;> simp_all, hb⟩
theorem fb0_true (w : World) : Calls Tryz.prog 156 #[.bool true] w fun e w' => e = .returned (.string ⟨#[116, 114, 117, 101]⟩) ∧ Below w.heap.size w w' := by
 go_enter Tryz.func156, Tryz.ntmps156;go_wp2_with (fail);go_ret;exact ⟨rfl, by first | exact b1 | go_grown⟩
theorem fb1_true (w : World) : Calls Tryz.prog 139 #[.bool true] w fun e w' => e = .returned (.string ⟨#[116, 114, 117, 101]⟩) ∧ Below w.heap.size w w' := by
 go_enter Tryz.func139, Tryz.ntmps139;go_wp2_with (go_at_call 156; refine (fb0_true _).mono ?_; rintro e w1 ⟨rfl, b1⟩);go_ret;exact ⟨rfl, by first | exact b1 | go_grown⟩
theorem fb0_false (w : World) : Calls Tryz.prog 156 #[.bool false] w fun e w' => e = .returned (.string ⟨#[102, 97, 108, 115, 101]⟩) ∧ Below w.heap.size w w' := by
 go_enter Tryz.func156, Tryz.ntmps156;go_wp2_with (fail);go_ret;exact ⟨rfl, by first | exact b1 | go_grown⟩
theorem fb1_false (w : World) : Calls Tryz.prog 139 #[.bool false] w fun e w' => e = .returned (.string ⟨#[102, 97, 108, 115, 101]⟩) ∧ Below w.heap.size w w' := by
 go_enter Tryz.func139, Tryz.ntmps139;go_wp2_with (go_at_call 156; refine (fb0_false _).mono ?_; rintro e w1 ⟨rfl, b1⟩);go_ret;exact ⟨rfl, by first | exact b1 | go_grown⟩
theorem implShow_nil  (w : World) :
  Calls Tryz.prog 107 #[vdV ⟨0, 0, ⟨#[]⟩⟩] w fun e w' => e = .returned (.string ⟨#[110, 105, 108]⟩) ∧ Below w.heap.size w w' := by
 have hp := qh1 ⟨0, 0, ⟨#[]⟩⟩ true (by simp [Plain, ByteArray.size]);unfold vdV at hp ⊢;try dsimp only at hp ⊢
 go_enter Tryz.func107, Tryz.ntmps107;go_wp2_with (first | (go_at_call 92; refine (hp _).mono ?_; rintro e w1 ⟨rfl, b1⟩; obtain ⟨⟨k0, k1, k2⟩, b2⟩ := kept3 b1; clear b1));go_ret;exact ⟨rfl, by first | exact b2 | (go_grown)⟩
theorem implShow_false  (w : World) :
  Calls Tryz.prog 107 #[vdV ⟨1, 0, ⟨#[]⟩⟩] w fun e w' => e = .returned (.string ⟨#[102, 97, 108, 115, 101]⟩) ∧ Below w.heap.size w w' := by
 have hp := qh1 ⟨1, 0, ⟨#[]⟩⟩ true (by simp [Plain, ByteArray.size]);unfold vdV at hp ⊢;try dsimp only at hp ⊢
 go_enter Tryz.func107, Tryz.ntmps107;go_wp2_with (first | (go_at_call 92; refine (hp _).mono ?_; rintro e w1 ⟨rfl, b1⟩; obtain ⟨⟨k0, k1, k2⟩, b2⟩ := kept3 b1; clear b1) | (go_at_call 139; refine (fb1_false _).mono ?_; rintro e w2 ⟨rfl, b3⟩));go_ret;exact ⟨rfl, b2.trans (b3.mono b2.size)⟩
theorem implShow_true  (w : World) :
  Calls Tryz.prog 107 #[vdV ⟨1, 1, ⟨#[]⟩⟩] w fun e w' => e = .returned (.string ⟨#[116, 114, 117, 101]⟩) ∧ Below w.heap.size w w' := by
 have hp := qh1 ⟨1, 1, ⟨#[]⟩⟩ true (by simp [Plain, ByteArray.size]);unfold vdV at hp ⊢;try dsimp only at hp ⊢
 go_enter Tryz.func107, Tryz.ntmps107;go_wp2_with (first | (go_at_call 92; refine (hp _).mono ?_; rintro e w1 ⟨rfl, b1⟩; obtain ⟨⟨k0, k1, k2⟩, b2⟩ := kept3 b1; clear b1) | (go_at_call 139; refine (fb1_true _).mono ?_; rintro e w2 ⟨rfl, b3⟩));go_ret;exact ⟨rfl, b2.trans (b3.mono b2.size)⟩
theorem implShow_int (n : Int) (h0 : -9223372036854775808 ≤ n) (h1 : n ≤ 9223372036854775807) (w : World) (htab : Lib.TabIs Tryz.prog w "internal/strconv.uint64pow10" .u64 Lib.pow10Tab) :
  Calls Tryz.prog 107 #[vdV ⟨2, n, ⟨#[]⟩⟩] w fun e w' => e = .returned (.string (dec n)) ∧ Below w.heap.size w w' := by
 have hp := qh1 ⟨2, n, ⟨#[]⟩⟩ true (by simp [Plain, ByteArray.size]);unfold vdV at hp ⊢;try dsimp only at hp ⊢
 have hr := fun v hv => Any.strconv_FormatInt_10 Tryz.laysM173 n h0 h1 v hv;have ht := Lib.tabBelow_of_tabIs htab;clear htab;change ∀ v, _ → Calls Tryz.prog 140 #[.int .i64 n, .int .i64 10] v (fun e w' => e = .returned (.string (dec n)) ∧ ∃ k os, w' = Sort.grow (v.drewN k) os) at hr;generalize dec n = dn at hr ⊢;go_enter Tryz.func107, Tryz.ntmps107;go_wp2_with (first | (go_at_call 92; refine (hp _).mono ?_; rintro e w1 ⟨rfl, b1⟩; obtain ⟨⟨k0, k1, k2⟩, b2⟩ := kept3 b1; clear b1) | (go_at_call 140; refine (hr _ (ht _ b2)).mono ?_; rintro e w2 ⟨rfl, k, os, rfl⟩));go_ret;exact ⟨rfl, b2.trans ((Lib.below_grow _ _ (Nat.le_refl _) _ _).mono b2.size)⟩
end Go.Proofs.YtplijnfaiofckaaGreatDoor
namespace Go.Proofs.YtplijnfaiofckaaGreatDoor
open Go.RowKit Go.Shelf
set_option linter.unusedVariables false
set_option linter.unusedSimpArgs false
set_option maxRecDepth 100000
set_option maxHeartbeats 9000000
def constT (d : VD) : ByteArray :=
 if d.kind = 0 then ⟨#[99, 111, 110, 115, 116, 32, 110, 105, 108]⟩ else if d.kind = 1 then (if d.num = 1 then ⟨#[99, 111, 110, 115, 116, 32, 116, 114, 117, 101]⟩ else ⟨#[99, 111, 110, 115, 116, 32, 102, 97, 108, 115, 101]⟩) else if d.kind = 2 then ⟨#[99, 111, 110, 115, 116, 32, 105, 110, 116, 32]⟩ ++ dec d.num else ⟨#[99, 111, 110, 115, 116, 32, 116, 101, 120, 116, 32]⟩ ++ hexB d.text
theorem l6Const_nil (w : World) :
  Calls Tryz.prog 60 #[.agg #[.int .i64 0, .int .i64 0, .string ⟨#[]⟩]] w fun e w' => e = .returned (.string (⟨#[99, 111, 110, 115, 116, 32, 110, 105, 108]⟩)) ∧ Below w.heap.size w w' := by
 go_enter Tryz.func60, Tryz.ntmps60;go_wp2_with fail;go_ret;exact ⟨rfl, by go_grown⟩
theorem l6Const_true (w : World) :
  Calls Tryz.prog 60 #[.agg #[.int .i64 1, .int .i64 1, .string ⟨#[]⟩]] w fun e w' => e = .returned (.string (⟨#[99, 111, 110, 115, 116, 32, 116, 114, 117, 101]⟩)) ∧ Below w.heap.size w w' := by
 go_enter Tryz.func60, Tryz.ntmps60;go_wp2_with fail;go_ret;exact ⟨rfl, by go_grown⟩
theorem l6Const_false (w : World) :
  Calls Tryz.prog 60 #[.agg #[.int .i64 1, .int .i64 0, .string ⟨#[]⟩]] w fun e w' => e = .returned (.string (⟨#[99, 111, 110, 115, 116, 32, 102, 97, 108, 115, 101]⟩)) ∧ Below w.heap.size w w' := by
 go_enter Tryz.func60, Tryz.ntmps60;go_wp2_with fail;go_ret;exact ⟨rfl, by go_grown⟩
theorem l6Const_int (n : Int) (h0 : -9223372036854775808 ≤ n) (h1 : n ≤ 9223372036854775807) (w : World) :
  Calls Tryz.prog 60 #[.agg #[.int .i64 2, .int .i64 n, .string ⟨#[]⟩]] w fun e w' => e = .returned (.string (⟨#[99, 111, 110, 115, 116, 32, 105, 110, 116, 32]⟩ ++ dec n)) ∧ Below w.heap.size w w' := by
 have h := show Hid (∀ y, _) from fun y => specShowInt n h0 h1 y;have hd := qa4 n h0 h1;generalize dec n = d at h hd ⊢;have hz : (⟨#[99, 111, 110, 115, 116, 32, 105, 110, 116, 32]⟩ : ByteArray).size + d.size ≤ 9223372036854775807 := by have : (⟨#[99, 111, 110, 115, 116, 32, 105, 110, 116, 32]⟩ : ByteArray).size = 10 := rfl; omega
 go_enter Tryz.func60, Tryz.ntmps60;go_wp2_with fail;refine Calls.mono (h.out _) ?_;rintro e y ⟨rfl, hb⟩;have hb2 : Below w.heap.size w y := ((Below.refl _ _).alloc (Nat.le_refl _) _).trans (hb.mono (by rw [World.size_alloc]; omega));clear hb;go_wp2_with fail;go_ret;exact ⟨rfl, hb2⟩
theorem l6Const_text (t : ByteArray) (ht : t.size ≤ 1000) (w : World) :
  Calls Tryz.prog 60 #[.agg #[.int .i64 3, .int .i64 0, .string t]] w fun e w' => e = .returned (.string (⟨#[99, 111, 110, 115, 116, 32, 116, 101, 120, 116, 32]⟩ ++ hexB t)) ∧ Below w.heap.size w w' := by
 have h := show Hid (∀ y, _) from fun y => l6Hex_in t y (by omega);have hd := hexB_size t;have hd2 : (hexB t).size ≤ 2000 := by omega
 clear hd;generalize hexB t = d at h hd2 ⊢;have hz : (⟨#[99, 111, 110, 115, 116, 32, 116, 101, 120, 116, 32]⟩ : ByteArray).size + d.size ≤ 9223372036854775807 := by have : (⟨#[99, 111, 110, 115, 116, 32, 116, 101, 120, 116, 32]⟩ : ByteArray).size = 11 := rfl; omega
 go_enter Tryz.func60, Tryz.ntmps60;go_wp2_with fail;refine Calls.mono (h.out _) ?_;rintro e y ⟨rfl, hb⟩;have hb2 : Below w.heap.size w y := ((Below.refl _ _).alloc (Nat.le_refl _) _).trans (hb.mono (by rw [World.size_alloc]; omega));clear hb;go_wp2_with fail;go_ret;exact ⟨rfl, hb2⟩
theorem lval_nil (P : Nat) (U : List Value) (hU : U.length = 640) (w0 : World) (v0 : Value) (y : World) (v : Value) (X : ByteArray) (h : Lw P U w0 v0 y v X) (ht : PowTab y) (hs : X.size ≤ 70368744177664) :
  Calls Tryz.prog 53 #[.pointer (some ⟨P, 0, none⟩), .agg #[.int .i64 0, .int .i64 0, .string ⟨#[]⟩]] y fun e w' => ∃ v', e = .returned (.tuple #[]) ∧ Lw P U w0 v0 w' v' (X ++ (⟨#[99, 111, 110, 115, 116, 32, 110, 105, 108]⟩ ++ ⟨#[10]⟩)) := by
 have hb0 : Below y.heap.size y (y.alloc (.cells #[.int .i64 0, .int .i64 0, .string ⟨#[]⟩] 96)) := (Below.refl _ _).alloc (Nat.le_refl _) _;have ht0 := qa2 ht hb0;have hcl := show Hid _ from implShow_nil (y.alloc (.cells #[.int .i64 0, .int .i64 0, .string ⟨#[]⟩] 96));obtain ⟨d, hde⟩ : ∃ d : ByteArray, ⟨#[110, 105, 108]⟩ = d := ⟨_, rfl⟩;have hd : d.size ≤ 5 := by rw [← hde]; decide
 have hup : lineB [⟨#[99, 111, 110, 115, 116]⟩, d] = ((⟨#[99, 111, 110, 115, 116, 32, 110, 105, 108]⟩ : ByteArray) ++ ⟨#[10]⟩ : ByteArray) := by
  unfold lineB;rw [qa6, qb1, ← hde];rfl
 unfold vdV at hcl;dsimp only at hcl;rw [hde] at hcl;clear hde;generalize (⟨#[99, 111, 110, 115, 116, 32, 110, 105, 108]⟩ ++ ⟨#[10]⟩ : ByteArray) = Z at hup ⊢
 have hjs : (joinB [⟨#[99, 111, 110, 115, 116]⟩, d]).size ≤ 100000 := by
  rw [qd9];have e0 : (⟨#[99, 111, 110, 115, 116]⟩ : ByteArray).size ≤ 10 := by decide
  omega
 have hln := show Hid (∀ (y1 : World) (bk : Nat), Lw P U w0 v0 y1 v X → bk < y1.heap.size → (∀ (j : Nat) x, ([⟨#[99, 111, 110, 115, 116]⟩, d] : List ByteArray)[j]? = some x → y1.cell? ⟨bk, 0 + j, none⟩ = some (.string x)) → Calls Tryz.prog 52 #[.pointer (some ⟨P, 0, none⟩), .slice (some ⟨bk, 0, none⟩) 2 2] y1 fun e w' => ∃ v', e = .returned (.tuple #[]) ∧ Lw P U w0 v0 w' v' (X ++ lineB [⟨#[99, 111, 110, 115, 116]⟩, d])) from
  fun y1 bk hl hbk hc => qg5 P U hU bk 0 2 [⟨#[99, 111, 110, 115, 116]⟩, d] w0 v0 y1 v X hl hc hbk (by simp) (by simp) hjs hs
 rw [hup] at hln;have hL := show Hid _ from h;have hz := h.lt;clear h ht ht0 hup hjs;go_enter Tryz.func53, Tryz.ntmps53;go_wp2_with fail;refine Calls.mono hcl.out ?_;rintro e y2 ⟨rfl, b2⟩;have b3 := hb0.trans (b2.mono hb0.size);have b4 : Below y.heap.size y (y2.alloc (.cells #[.string ⟨#[99, 111, 110, 115, 116]⟩, .string d] 9)) := b3.alloc b3.size _
 have hl4 := show Hid _ from hln.out _ y2.heap.size (hL.out.later b4) (by rw [World.size_alloc]; omega) (fun j x hx => by
  refine cellsOf (L := [.string ⟨#[99, 111, 110, 115, 116]⟩, .string d]) ?_;rcases j with _ | _ | j
  ·simp at hx; simp [hx]
  ·simp at hx; simp [hx]
  ·simp at hx)
 clear hcl hln hL b2 b3 b4 hb0;go_wp2_with fail;refine Calls.mono hl4.out ?_;rintro e y5 ⟨v5, rfl, h5⟩;replace h5 := show Hid _ from h5;clear hl4;go_wp2_with fail
 go_end0
 exact ⟨_, rfl, h5.out⟩
theorem lval_true (P : Nat) (U : List Value) (hU : U.length = 640) (w0 : World) (v0 : Value) (y : World) (v : Value) (X : ByteArray) (h : Lw P U w0 v0 y v X) (ht : PowTab y) (hs : X.size ≤ 70368744177664) :
  Calls Tryz.prog 53 #[.pointer (some ⟨P, 0, none⟩), .agg #[.int .i64 1, .int .i64 1, .string ⟨#[]⟩]] y fun e w' => ∃ v', e = .returned (.tuple #[]) ∧ Lw P U w0 v0 w' v' (X ++ (⟨#[99, 111, 110, 115, 116, 32, 116, 114, 117, 101]⟩ ++ ⟨#[10]⟩)) := by
 have hb0 : Below y.heap.size y (y.alloc (.cells #[.int .i64 1, .int .i64 1, .string ⟨#[]⟩] 96)) := (Below.refl _ _).alloc (Nat.le_refl _) _;have ht0 := qa2 ht hb0;have hcl := show Hid _ from implShow_true (y.alloc (.cells #[.int .i64 1, .int .i64 1, .string ⟨#[]⟩] 96));obtain ⟨d, hde⟩ : ∃ d : ByteArray, ⟨#[116, 114, 117, 101]⟩ = d := ⟨_, rfl⟩;have hd : d.size ≤ 5 := by rw [← hde]; decide
 have hup : lineB [⟨#[99, 111, 110, 115, 116]⟩, d] = ((⟨#[99, 111, 110, 115, 116, 32, 116, 114, 117, 101]⟩ : ByteArray) ++ ⟨#[10]⟩ : ByteArray) := by
  unfold lineB;rw [qa6, qb1, ← hde];rfl
 unfold vdV at hcl;dsimp only at hcl;rw [hde] at hcl;clear hde;generalize (⟨#[99, 111, 110, 115, 116, 32, 116, 114, 117, 101]⟩ ++ ⟨#[10]⟩ : ByteArray) = Z at hup ⊢
 have hjs : (joinB [⟨#[99, 111, 110, 115, 116]⟩, d]).size ≤ 100000 := by
  rw [qd9];have e0 : (⟨#[99, 111, 110, 115, 116]⟩ : ByteArray).size ≤ 10 := by decide
  omega
 have hln := show Hid (∀ (y1 : World) (bk : Nat), Lw P U w0 v0 y1 v X → bk < y1.heap.size → (∀ (j : Nat) x, ([⟨#[99, 111, 110, 115, 116]⟩, d] : List ByteArray)[j]? = some x → y1.cell? ⟨bk, 0 + j, none⟩ = some (.string x)) → Calls Tryz.prog 52 #[.pointer (some ⟨P, 0, none⟩), .slice (some ⟨bk, 0, none⟩) 2 2] y1 fun e w' => ∃ v', e = .returned (.tuple #[]) ∧ Lw P U w0 v0 w' v' (X ++ lineB [⟨#[99, 111, 110, 115, 116]⟩, d])) from
  fun y1 bk hl hbk hc => qg5 P U hU bk 0 2 [⟨#[99, 111, 110, 115, 116]⟩, d] w0 v0 y1 v X hl hc hbk (by simp) (by simp) hjs hs
 rw [hup] at hln;have hL := show Hid _ from h;have hz := h.lt;clear h ht ht0 hup hjs;go_enter Tryz.func53, Tryz.ntmps53;go_wp2_with fail;refine Calls.mono hcl.out ?_;rintro e y2 ⟨rfl, b2⟩;have b3 := hb0.trans (b2.mono hb0.size);have b4 : Below y.heap.size y (y2.alloc (.cells #[.string ⟨#[99, 111, 110, 115, 116]⟩, .string d] 9)) := b3.alloc b3.size _
 have hl4 := show Hid _ from hln.out _ y2.heap.size (hL.out.later b4) (by rw [World.size_alloc]; omega) (fun j x hx => by
  refine cellsOf (L := [.string ⟨#[99, 111, 110, 115, 116]⟩, .string d]) ?_;rcases j with _ | _ | j
  ·simp at hx; simp [hx]
  ·simp at hx; simp [hx]
  ·simp at hx)
 clear hcl hln hL b2 b3 b4 hb0;go_wp2_with fail;refine Calls.mono hl4.out ?_;rintro e y5 ⟨v5, rfl, h5⟩;replace h5 := show Hid _ from h5;clear hl4;go_wp2_with fail
 go_end0
 exact ⟨_, rfl, h5.out⟩
theorem lval_false (P : Nat) (U : List Value) (hU : U.length = 640) (w0 : World) (v0 : Value) (y : World) (v : Value) (X : ByteArray) (h : Lw P U w0 v0 y v X) (ht : PowTab y) (hs : X.size ≤ 70368744177664) :
  Calls Tryz.prog 53 #[.pointer (some ⟨P, 0, none⟩), .agg #[.int .i64 1, .int .i64 0, .string ⟨#[]⟩]] y fun e w' => ∃ v', e = .returned (.tuple #[]) ∧ Lw P U w0 v0 w' v' (X ++ (⟨#[99, 111, 110, 115, 116, 32, 102, 97, 108, 115, 101]⟩ ++ ⟨#[10]⟩)) := by
 have hb0 : Below y.heap.size y (y.alloc (.cells #[.int .i64 1, .int .i64 0, .string ⟨#[]⟩] 96)) := (Below.refl _ _).alloc (Nat.le_refl _) _;have ht0 := qa2 ht hb0;have hcl := show Hid _ from implShow_false (y.alloc (.cells #[.int .i64 1, .int .i64 0, .string ⟨#[]⟩] 96));obtain ⟨d, hde⟩ : ∃ d : ByteArray, ⟨#[102, 97, 108, 115, 101]⟩ = d := ⟨_, rfl⟩;have hd : d.size ≤ 5 := by rw [← hde]; decide
 have hup : lineB [⟨#[99, 111, 110, 115, 116]⟩, d] = ((⟨#[99, 111, 110, 115, 116, 32, 102, 97, 108, 115, 101]⟩ : ByteArray) ++ ⟨#[10]⟩ : ByteArray) := by
  unfold lineB;rw [qa6, qb1, ← hde];rfl
 unfold vdV at hcl;dsimp only at hcl;rw [hde] at hcl;clear hde;generalize (⟨#[99, 111, 110, 115, 116, 32, 102, 97, 108, 115, 101]⟩ ++ ⟨#[10]⟩ : ByteArray) = Z at hup ⊢
 have hjs : (joinB [⟨#[99, 111, 110, 115, 116]⟩, d]).size ≤ 100000 := by
  rw [qd9];have e0 : (⟨#[99, 111, 110, 115, 116]⟩ : ByteArray).size ≤ 10 := by decide
  omega
 have hln := show Hid (∀ (y1 : World) (bk : Nat), Lw P U w0 v0 y1 v X → bk < y1.heap.size → (∀ (j : Nat) x, ([⟨#[99, 111, 110, 115, 116]⟩, d] : List ByteArray)[j]? = some x → y1.cell? ⟨bk, 0 + j, none⟩ = some (.string x)) → Calls Tryz.prog 52 #[.pointer (some ⟨P, 0, none⟩), .slice (some ⟨bk, 0, none⟩) 2 2] y1 fun e w' => ∃ v', e = .returned (.tuple #[]) ∧ Lw P U w0 v0 w' v' (X ++ lineB [⟨#[99, 111, 110, 115, 116]⟩, d])) from
  fun y1 bk hl hbk hc => qg5 P U hU bk 0 2 [⟨#[99, 111, 110, 115, 116]⟩, d] w0 v0 y1 v X hl hc hbk (by simp) (by simp) hjs hs
 rw [hup] at hln;have hL := show Hid _ from h;have hz := h.lt;clear h ht ht0 hup hjs;go_enter Tryz.func53, Tryz.ntmps53;go_wp2_with fail;refine Calls.mono hcl.out ?_;rintro e y2 ⟨rfl, b2⟩;have b3 := hb0.trans (b2.mono hb0.size);have b4 : Below y.heap.size y (y2.alloc (.cells #[.string ⟨#[99, 111, 110, 115, 116]⟩, .string d] 9)) := b3.alloc b3.size _
 have hl4 := show Hid _ from hln.out _ y2.heap.size (hL.out.later b4) (by rw [World.size_alloc]; omega) (fun j x hx => by
  refine cellsOf (L := [.string ⟨#[99, 111, 110, 115, 116]⟩, .string d]) ?_;rcases j with _ | _ | j
  ·simp at hx; simp [hx]
  ·simp at hx; simp [hx]
  ·simp at hx)
 clear hcl hln hL b2 b3 b4 hb0;go_wp2_with fail;refine Calls.mono hl4.out ?_;rintro e y5 ⟨v5, rfl, h5⟩;replace h5 := show Hid _ from h5;clear hl4;go_wp2_with fail
 go_end0
 exact ⟨_, rfl, h5.out⟩
theorem lval_int (P : Nat) (U : List Value) (hU : U.length = 640) (n : Int) (h0 : -9223372036854775808 ≤ n) (h1 : n ≤ 9223372036854775807) (w0 : World) (v0 : Value) (y : World) (v : Value) (X : ByteArray) (h : Lw P U w0 v0 y v X) (ht : PowTab y) (hs : X.size ≤ 70368744177664) :
  Calls Tryz.prog 53 #[.pointer (some ⟨P, 0, none⟩), .agg #[.int .i64 2, .int .i64 n, .string ⟨#[]⟩]] y fun e w' => ∃ v', e = .returned (.tuple #[]) ∧ Lw P U w0 v0 w' v' (X ++ (⟨#[99, 111, 110, 115, 116, 32, 105, 110, 116, 32]⟩ ++ dec n ++ ⟨#[10]⟩)) := by
 have hb0 : Below y.heap.size y (y.alloc (.cells #[.int .i64 2, .int .i64 n, .string ⟨#[]⟩] 96)) := (Below.refl _ _).alloc (Nat.le_refl _) _;have ht0 := qa2 ht hb0;have hcl := show Hid _ from implShow_int n h0 h1 (y.alloc (.cells #[.int .i64 2, .int .i64 n, .string ⟨#[]⟩] 96)) ht0;have hd := qa4 n h0 h1;unfold vdV at hcl;dsimp only at hcl;generalize dec n = d at hd hcl ⊢
 have hup : lineB [⟨#[99, 111, 110, 115, 116]⟩, ⟨#[105, 110, 116]⟩, d] = ((⟨#[99, 111, 110, 115, 116, 32, 105, 110, 116, 32]⟩ ++ d : ByteArray) ++ ⟨#[10]⟩ : ByteArray) := by
  unfold lineB;rw [qa6, qa6, qb1]
  congr 1
 generalize (⟨#[99, 111, 110, 115, 116, 32, 105, 110, 116, 32]⟩ ++ d ++ ⟨#[10]⟩ : ByteArray) = Z at hup ⊢
 have hjs : (joinB [⟨#[99, 111, 110, 115, 116]⟩, ⟨#[105, 110, 116]⟩, d]).size ≤ 100000 := by
  rw [qe9];have e0 : (⟨#[99, 111, 110, 115, 116]⟩ : ByteArray).size ≤ 10 := by decide
  have e1 : (⟨#[105, 110, 116]⟩ : ByteArray).size ≤ 10 := by decide
  omega
 have hln := show Hid (∀ (y1 : World) (bk : Nat), Lw P U w0 v0 y1 v X → bk < y1.heap.size → (∀ (j : Nat) x, ([⟨#[99, 111, 110, 115, 116]⟩, ⟨#[105, 110, 116]⟩, d] : List ByteArray)[j]? = some x → y1.cell? ⟨bk, 0 + j, none⟩ = some (.string x)) → Calls Tryz.prog 52 #[.pointer (some ⟨P, 0, none⟩), .slice (some ⟨bk, 0, none⟩) 3 3] y1 fun e w' => ∃ v', e = .returned (.tuple #[]) ∧ Lw P U w0 v0 w' v' (X ++ lineB [⟨#[99, 111, 110, 115, 116]⟩, ⟨#[105, 110, 116]⟩, d])) from
  fun y1 bk hl hbk hc => qg5 P U hU bk 0 3 [⟨#[99, 111, 110, 115, 116]⟩, ⟨#[105, 110, 116]⟩, d] w0 v0 y1 v X hl hc hbk (by simp) (by simp) hjs hs
 rw [hup] at hln;have hL := show Hid _ from h;have hz := h.lt;clear h ht ht0 hup hjs;go_enter Tryz.func53, Tryz.ntmps53;go_wp2_with fail;refine Calls.mono hcl.out ?_;rintro e y2 ⟨rfl, b2⟩;have b3 := hb0.trans (b2.mono hb0.size);have b4 : Below y.heap.size y (y2.alloc (.cells #[.string ⟨#[99, 111, 110, 115, 116]⟩, .string ⟨#[105, 110, 116]⟩, .string d] 9)) := b3.alloc b3.size _
 have hl4 := show Hid _ from hln.out _ y2.heap.size (hL.out.later b4) (by rw [World.size_alloc]; omega) (fun j x hx => by
  refine cellsOf (L := [.string ⟨#[99, 111, 110, 115, 116]⟩, .string ⟨#[105, 110, 116]⟩, .string d]) ?_;rcases j with _ | _ | _ | j
  ·simp at hx; simp [hx]
  ·simp at hx; simp [hx]
  ·simp at hx; simp [hx]
  ·simp at hx)
 clear hcl hln hL b2 b3 b4 hb0;go_wp2_with fail;refine Calls.mono hl4.out ?_;rintro e y5 ⟨v5, rfl, h5⟩;replace h5 := show Hid _ from h5;clear hl4;go_wp2_with fail
 go_end0
 exact ⟨_, rfl, h5.out⟩
theorem lval_text (P : Nat) (U : List Value) (hU : U.length = 640) (t : ByteArray) (htx : t.size ≤ 1000) (w0 : World) (v0 : Value) (y : World) (v : Value) (X : ByteArray) (h : Lw P U w0 v0 y v X) (ht : PowTab y) (hs : X.size ≤ 70368744177664) :
  Calls Tryz.prog 53 #[.pointer (some ⟨P, 0, none⟩), .agg #[.int .i64 3, .int .i64 0, .string t]] y fun e w' => ∃ v', e = .returned (.tuple #[]) ∧ Lw P U w0 v0 w' v' (X ++ (⟨#[99, 111, 110, 115, 116, 32, 116, 101, 120, 116, 32]⟩ ++ hexB t ++ ⟨#[10]⟩)) := by
 have hb0 : Below y.heap.size y (y.alloc (.cells #[.int .i64 3, .int .i64 0, .string t] 96)) := (Below.refl _ _).alloc (Nat.le_refl _) _;have ht0 := qa2 ht hb0;have hcl := show Hid _ from hexOf_in t (y.alloc (.cells #[.int .i64 3, .int .i64 0, .string t] 96)) (by omega);have hd0 := hexB_size t;have hd : (hexB t).size ≤ 2000 := by omega
 clear hd0;generalize hexB t = d at hd hcl ⊢
 have hup : lineB [⟨#[99, 111, 110, 115, 116]⟩, ⟨#[116, 101, 120, 116]⟩, d] = ((⟨#[99, 111, 110, 115, 116, 32, 116, 101, 120, 116, 32]⟩ ++ d : ByteArray) ++ ⟨#[10]⟩ : ByteArray) := by
  unfold lineB;rw [qa6, qa6, qb1]
  congr 1
 generalize (⟨#[99, 111, 110, 115, 116, 32, 116, 101, 120, 116, 32]⟩ ++ d ++ ⟨#[10]⟩ : ByteArray) = Z at hup ⊢
 have hjs : (joinB [⟨#[99, 111, 110, 115, 116]⟩, ⟨#[116, 101, 120, 116]⟩, d]).size ≤ 100000 := by
  rw [qe9];have e0 : (⟨#[99, 111, 110, 115, 116]⟩ : ByteArray).size ≤ 10 := by decide
  have e1 : (⟨#[116, 101, 120, 116]⟩ : ByteArray).size ≤ 10 := by decide
  omega
 have hln := show Hid (∀ (y1 : World) (bk : Nat), Lw P U w0 v0 y1 v X → bk < y1.heap.size → (∀ (j : Nat) x, ([⟨#[99, 111, 110, 115, 116]⟩, ⟨#[116, 101, 120, 116]⟩, d] : List ByteArray)[j]? = some x → y1.cell? ⟨bk, 0 + j, none⟩ = some (.string x)) → Calls Tryz.prog 52 #[.pointer (some ⟨P, 0, none⟩), .slice (some ⟨bk, 0, none⟩) 3 3] y1 fun e w' => ∃ v', e = .returned (.tuple #[]) ∧ Lw P U w0 v0 w' v' (X ++ lineB [⟨#[99, 111, 110, 115, 116]⟩, ⟨#[116, 101, 120, 116]⟩, d])) from
  fun y1 bk hl hbk hc => qg5 P U hU bk 0 3 [⟨#[99, 111, 110, 115, 116]⟩, ⟨#[116, 101, 120, 116]⟩, d] w0 v0 y1 v X hl hc hbk (by simp) (by simp) hjs hs
 rw [hup] at hln;have hL := show Hid _ from h;have hz := h.lt;clear h ht ht0 hup hjs;go_enter Tryz.func53, Tryz.ntmps53;go_wp2_with fail;refine Calls.mono hcl.out ?_;rintro e y2 ⟨rfl, b2⟩;have b3 := hb0.trans (b2.mono hb0.size);have b4 : Below y.heap.size y (y2.alloc (.cells #[.string ⟨#[99, 111, 110, 115, 116]⟩, .string ⟨#[116, 101, 120, 116]⟩, .string d] 9)) := b3.alloc b3.size _
 have hl4 := show Hid _ from hln.out _ y2.heap.size (hL.out.later b4) (by rw [World.size_alloc]; omega) (fun j x hx => by
  refine cellsOf (L := [.string ⟨#[99, 111, 110, 115, 116]⟩, .string ⟨#[116, 101, 120, 116]⟩, .string d]) ?_;rcases j with _ | _ | _ | j
  ·simp at hx; simp [hx]
  ·simp at hx; simp [hx]
  ·simp at hx; simp [hx]
  ·simp at hx)
 clear hcl hln hL b2 b3 b4 hb0;go_wp2_with fail;refine Calls.mono hl4.out ?_;rintro e y5 ⟨v5, rfl, h5⟩;replace h5 := show Hid _ from h5;clear hl4;go_wp2_with fail
 go_end0
 exact ⟨_, rfl, h5.out⟩
end Go.Proofs.YtplijnfaiofckaaGreatDoor

import Derived.Test.YtenonpajjlppjaaGreatDoorGD
import Derived.Test.YtenonpajjlppjaaGreatDoorChL
namespace Go.Proofs.YtenonpajjlppjaaGreatDoor
open Go.RowKit
set_option linter.unusedVariables false
set_option linter.unusedSimpArgs false
set_option maxRecDepth 100000
set_option maxHeartbeats 1000000
theorem kept3 {x y z : Value} {T : TypeId} {w w1 : World} (b : Below (w.alloc (.cells #[x, y, z] T)).heap.size (w.alloc (.cells #[x, y, z] T)) w1) :
    (w1.cell? ⟨w.heap.size, 0, none⟩ = some x ∧ w1.cell? ⟨w.heap.size, 1, none⟩ = some y ∧ w1.cell? ⟨w.heap.size, 2, none⟩ = some z) ∧ Below w.heap.size w w1 := by
  refine ⟨⟨?_, ?_, ?_⟩, ((Below.refl w.heap.size w).alloc (Nat.le_refl _) _).trans (b.mono (by rw [World.size_alloc]; omega))⟩
  · rw [b.cell (p := ⟨w.heap.size, 0, none⟩) (by simp)]; simp [go_sem]
  · rw [b.cell (p := ⟨w.heap.size, 1, none⟩) (by simp)]; simp [go_sem]
  · rw [b.cell (p := ⟨w.heap.size, 2, none⟩) (by simp)]; simp [go_sem]
/-- a value's fields. -/
abbrev vdV (d : VD) : Value := .agg #[.int .i64 d.kind, .int .i64 d.num, .string d.text]
theorem implPlain_is (d : VD) (b : Bool) (h : b = true ↔ Plain d) (w : World) :
    Calls Tryz.prog 76 #[vdV d] w fun e w' => e = .returned (.bool b) ∧ Below w.heap.size w w' :=
  (plain_in d w).mono fun e w' ⟨⟨r, he, hr⟩, hb⟩ => ⟨by rw [he]; congr 2; cases r <;> cases b <;> simp_all, hb⟩
theorem fb0_true (w : World) : Calls Tryz.prog 119 #[.bool true] w fun e w' => e = .returned (.string ⟨#[116, 114, 117, 101]⟩) ∧ Below w.heap.size w w' := by
  go_enter Tryz.func119, Tryz.ntmps119
  go_wp2_with (fail)
  go_ret
  exact ⟨rfl, by first | exact b1 | go_grown⟩
theorem fb1_true (w : World) : Calls Tryz.prog 110 #[.bool true] w fun e w' => e = .returned (.string ⟨#[116, 114, 117, 101]⟩) ∧ Below w.heap.size w w' := by
  go_enter Tryz.func110, Tryz.ntmps110
  go_wp2_with (go_at_call 119; refine (fb0_true _).mono ?_; rintro e w1 ⟨rfl, b1⟩)
  go_ret
  exact ⟨rfl, by first | exact b1 | go_grown⟩
theorem fb0_false (w : World) : Calls Tryz.prog 119 #[.bool false] w fun e w' => e = .returned (.string ⟨#[102, 97, 108, 115, 101]⟩) ∧ Below w.heap.size w w' := by
  go_enter Tryz.func119, Tryz.ntmps119
  go_wp2_with (fail)
  go_ret
  exact ⟨rfl, by first | exact b1 | go_grown⟩
theorem fb1_false (w : World) : Calls Tryz.prog 110 #[.bool false] w fun e w' => e = .returned (.string ⟨#[102, 97, 108, 115, 101]⟩) ∧ Below w.heap.size w w' := by
  go_enter Tryz.func110, Tryz.ntmps110
  go_wp2_with (go_at_call 119; refine (fb0_false _).mono ?_; rintro e w1 ⟨rfl, b1⟩)
  go_ret
  exact ⟨rfl, by first | exact b1 | go_grown⟩
theorem implShow_nil  (w : World) :
    Calls Tryz.prog 91 #[vdV ⟨0, 0, ⟨#[]⟩⟩] w fun e w' => e = .returned (.string ⟨#[110, 105, 108]⟩) ∧ Below w.heap.size w w' := by
  have hp := implPlain_is ⟨0, 0, ⟨#[]⟩⟩ true (by simp [Plain, ByteArray.size])
  unfold vdV at hp ⊢
  try dsimp only at hp ⊢
  go_enter Tryz.func91, Tryz.ntmps91
  go_wp2_with (first | (go_at_call 76; refine (hp _).mono ?_; rintro e w1 ⟨rfl, b1⟩; obtain ⟨⟨k0, k1, k2⟩, b2⟩ := kept3 b1; clear b1))
  go_ret
  exact ⟨rfl, by first | exact b2 | (go_grown)⟩
theorem implShow_false  (w : World) :
    Calls Tryz.prog 91 #[vdV ⟨1, 0, ⟨#[]⟩⟩] w fun e w' => e = .returned (.string ⟨#[102, 97, 108, 115, 101]⟩) ∧ Below w.heap.size w w' := by
  have hp := implPlain_is ⟨1, 0, ⟨#[]⟩⟩ true (by simp [Plain, ByteArray.size])
  unfold vdV at hp ⊢
  try dsimp only at hp ⊢
  go_enter Tryz.func91, Tryz.ntmps91
  go_wp2_with (first | (go_at_call 76; refine (hp _).mono ?_; rintro e w1 ⟨rfl, b1⟩; obtain ⟨⟨k0, k1, k2⟩, b2⟩ := kept3 b1; clear b1) | (go_at_call 110; refine (fb1_false _).mono ?_; rintro e w2 ⟨rfl, b3⟩))
  go_ret
  exact ⟨rfl, b2.trans (b3.mono b2.size)⟩
theorem implShow_true  (w : World) :
    Calls Tryz.prog 91 #[vdV ⟨1, 1, ⟨#[]⟩⟩] w fun e w' => e = .returned (.string ⟨#[116, 114, 117, 101]⟩) ∧ Below w.heap.size w w' := by
  have hp := implPlain_is ⟨1, 1, ⟨#[]⟩⟩ true (by simp [Plain, ByteArray.size])
  unfold vdV at hp ⊢
  try dsimp only at hp ⊢
  go_enter Tryz.func91, Tryz.ntmps91
  go_wp2_with (first | (go_at_call 76; refine (hp _).mono ?_; rintro e w1 ⟨rfl, b1⟩; obtain ⟨⟨k0, k1, k2⟩, b2⟩ := kept3 b1; clear b1) | (go_at_call 110; refine (fb1_true _).mono ?_; rintro e w2 ⟨rfl, b3⟩))
  go_ret
  exact ⟨rfl, b2.trans (b3.mono b2.size)⟩
theorem implShow_int (n : Int) (h0 : -9223372036854775808 ≤ n) (h1 : n ≤ 9223372036854775807) (w : World) (htab : Lib.TabIs Tryz.prog w "internal/strconv.uint64pow10" .u64 Lib.pow10Tab) :
    Calls Tryz.prog 91 #[vdV ⟨2, n, ⟨#[]⟩⟩] w fun e w' => e = .returned (.string (dec n)) ∧ Below w.heap.size w w' := by
  have hp := implPlain_is ⟨2, n, ⟨#[]⟩⟩ true (by simp [Plain, ByteArray.size])
  unfold vdV at hp ⊢
  try dsimp only at hp ⊢
  have hr := fun v hv => Any.strconv_FormatInt_10 Tryz.laysM173 n h0 h1 v hv
  have ht := Lib.tabBelow_of_tabIs htab
  clear htab
  change ∀ v, _ → Calls Tryz.prog 111 #[.int .i64 n, .int .i64 10] v (fun e w' => e = .returned (.string (dec n)) ∧ ∃ k os, w' = Sort.grow (v.drewN k) os) at hr
  generalize dec n = dn at hr ⊢
  go_enter Tryz.func91, Tryz.ntmps91
  go_wp2_with (first | (go_at_call 76; refine (hp _).mono ?_; rintro e w1 ⟨rfl, b1⟩; obtain ⟨⟨k0, k1, k2⟩, b2⟩ := kept3 b1; clear b1) | (go_at_call 111; refine (hr _ (ht _ b2)).mono ?_; rintro e w2 ⟨rfl, k, os, rfl⟩))
  go_ret
  exact ⟨rfl, b2.trans ((Lib.below_grow _ _ (Nat.le_refl _) _ _).mono b2.size)⟩
end Go.Proofs.YtenonpajjlppjaaGreatDoor

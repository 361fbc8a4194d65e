import Derived.Test.YtijdpklpopckfaaDoorDrawB
namespace Go.Proofs.YtijdpklpopckfaaDoor.WDraw
open Go.RowKit WPack
set_option linter.unusedVariables false
set_option maxHeartbeats 8000000 in
theorem drawPack (a : Option Addr) (len cap : Nat) (zs : List Int) (w : World) (hR : IsRow w a len cap zs) (hl : len ≤ 1048576) :
    Calls Tryd.prog 18 #[.slice a len cap] w fun e w' => (∃ o q b c s : Int, e = .returned (ins o q b c s)) ∧ Below w.heap.size w w' := by
  have B0 : Below w.heap.size w (w.alloc (Obj.cells #[Value.int IntKind.i64 0, Value.int IntKind.i64 0, Value.int IntKind.i64 0, Value.int IntKind.i64 0, Value.int IntKind.i64 0] 35)) := (Below.refl _ _).alloc (Nat.le_refl _) _
  have hR' := hR.below B0
  go_enter Tryd.func18, Tryd.ntmps18
  go_wp2_with fail
  refine (drawInstr a len cap zs _ hR' hl).mono ?_
  rintro e w1 ⟨⟨o, q, b, c, s, rfl⟩, b1⟩
  have k0 : w1.cell? ⟨w.heap.size, 0, none⟩ = some (.int .i64 0) := by rw [(bcell b1).1 _ _ (by simp)]; simp [go_sem]
  have f0 : w1.frozen? ⟨w.heap.size, 0, none⟩ = false := by rw [(bcell b1).2 _ _ (by simp)]; simp [go_sem]
  have k1 : w1.cell? ⟨w.heap.size, 1, none⟩ = some (.int .i64 0) := by rw [(bcell b1).1 _ _ (by simp)]; simp [go_sem]
  have f1 : w1.frozen? ⟨w.heap.size, 1, none⟩ = false := by rw [(bcell b1).2 _ _ (by simp)]; simp [go_sem]
  have k2 : w1.cell? ⟨w.heap.size, 2, none⟩ = some (.int .i64 0) := by rw [(bcell b1).1 _ _ (by simp)]; simp [go_sem]
  have f2 : w1.frozen? ⟨w.heap.size, 2, none⟩ = false := by rw [(bcell b1).2 _ _ (by simp)]; simp [go_sem]
  have k3 : w1.cell? ⟨w.heap.size, 3, none⟩ = some (.int .i64 0) := by rw [(bcell b1).1 _ _ (by simp)]; simp [go_sem]
  have f3 : w1.frozen? ⟨w.heap.size, 3, none⟩ = false := by rw [(bcell b1).2 _ _ (by simp)]; simp [go_sem]
  have k4 : w1.cell? ⟨w.heap.size, 4, none⟩ = some (.int .i64 0) := by rw [(bcell b1).1 _ _ (by simp)]; simp [go_sem]
  have f4 : w1.frozen? ⟨w.heap.size, 4, none⟩ = false := by rw [(bcell b1).2 _ _ (by simp)]; simp [go_sem]
  have hz : w.heap.size < w1.heap.size := by have := b1.size; simp at this; omega
  have B1 := B0.trans (b1.mono (by simp))
  have hR1 := hR.below (B1.trans (((Below.refl w1.heap.size w1).alloc (Nat.le_refl _) (Obj.cells #[Value.int IntKind.i64 o, Value.int IntKind.i64 q, Value.int IntKind.i64 b, Value.int IntKind.i64 c, Value.int IntKind.i64 s] 35)).mono (by omega)))
  clear hR hR' B0 b1
  go_wp2_with fail
  refine (l1Take_int a len cap zs 4 16 _ hR1 (by omega) (by omega) hl (by omega) (by omega)).mono ?_
  rintro e w' ⟨⟨x0, h00, h01, rfl⟩, rfl⟩
  go_wp2_with fail
  refine (l1Take_int a len cap zs 5 3 _ hR1 (by omega) (by omega) hl (by omega) (by omega)).mono ?_
  rintro e w' ⟨⟨x1, h10, h11, rfl⟩, rfl⟩
  clear hR1
  by_cases e12 : x0 = 12
  · subst e12
    go_wp2_with fail
    exact bodyPost_ret (v := ins (wrap64 (wrap64 (o + 64 * x1) - 64)) q b c s) (by simp [results, Tryd.results18, go_sem, k0, k1, k2, k3, k4, hz]) rfl ⟨⟨_, _, _, _, _, rfl⟩, (((((B1.setCell (Nat.le_refl _) _).setCell (Nat.le_refl _) _).setCell (Nat.le_refl _) _).setCell (Nat.le_refl _) _).setCell (Nat.le_refl _) _).alloc (by simp; omega) _⟩
  by_cases e13 : x0 = 13
  · subst e13
    go_wp2_with fail
    exact bodyPost_ret (v := ins o (wrap64 (wrap64 (q + 256 * x1) - 256)) b c s) (by simp [results, Tryd.results18, go_sem, k0, k1, k2, k3, k4, hz]) rfl ⟨⟨_, _, _, _, _, rfl⟩, (((((B1.setCell (Nat.le_refl _) _).setCell (Nat.le_refl _) _).setCell (Nat.le_refl _) _).setCell (Nat.le_refl _) _).setCell (Nat.le_refl _) _).alloc (by simp; omega) _⟩
  by_cases e14 : x0 = 14
  · subst e14
    go_wp2_with fail
    exact bodyPost_ret (v := ins o q b (wrap64 (wrap64 (c + 512 * x1) - 512)) (wrap64 (wrap64 (b + wrap64 (512 * (wrap64 (wrap64 (c + 512 * x1) - 512)))) - 131072))) (by simp [results, Tryd.results18, go_sem, k0, k1, k2, k3, k4, hz]) rfl ⟨⟨_, _, _, _, _, rfl⟩, (((((B1.setCell (Nat.le_refl _) _).setCell (Nat.le_refl _) _).setCell (Nat.le_refl _) _).setCell (Nat.le_refl _) _).setCell (Nat.le_refl _) _).alloc (by simp; omega) _⟩
  by_cases e15 : x0 = 15
  · subst e15
    go_wp2_with fail
    exact bodyPost_ret (v := ins o q b c (wrap64 (s + x1))) (by simp [results, Tryd.results18, go_sem, k0, k1, k2, k3, k4, hz]) rfl ⟨⟨_, _, _, _, _, rfl⟩, (((((B1.setCell (Nat.le_refl _) _).setCell (Nat.le_refl _) _).setCell (Nat.le_refl _) _).setCell (Nat.le_refl _) _).setCell (Nat.le_refl _) _).alloc (by simp; omega) _⟩
  have g12 : (x0 == 12) = false := by simp; omega
  have g13 : (x0 == 13) = false := by simp; omega
  have g14 : (x0 == 14) = false := by simp; omega
  have g15 : (x0 == 15) = false := by simp; omega
  clear e12 e13 e14 e15
  go_wp2_with fail
  exact bodyPost_ret (v := ins o q b c s) (by simp [results, Tryd.results18, go_sem, k0, k1, k2, k3, k4, hz]) rfl ⟨⟨_, _, _, _, _, rfl⟩, (((((B1.setCell (Nat.le_refl _) _).setCell (Nat.le_refl _) _).setCell (Nat.le_refl _) _).setCell (Nat.le_refl _) _).setCell (Nat.le_refl _) _).alloc (by simp; omega) _⟩
end Go.Proofs.YtijdpklpopckfaaDoor.WDraw

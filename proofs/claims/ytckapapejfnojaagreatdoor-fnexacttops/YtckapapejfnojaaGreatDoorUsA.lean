import Derived.Test.YtckapapejfnojaaGreatDoorTpI
namespace Go.Proofs.YtckapapejfnojaaGreatDoor
open Go.RowKit
set_option linter.unusedVariables false
set_option linter.unusedSimpArgs false
/-- what an operation uses, cell by cell. -/
def usRow : Nat → List Value
  | 0 => [.int .i64 1, .int .i64 1, .int .i64 0, .int .i64 0, .bool false, .func (.func 77) #[] #[], .nilFunc, .nilFunc, .nilFunc, .nilFunc]
  | 1 => [.int .i64 1, .int .i64 0, .int .i64 0, .int .i64 3, .bool false, .func (.func 76) #[] #[], .nilFunc, .nilFunc, .nilFunc, .nilFunc]
  | 2 => [.int .i64 1, .int .i64 1, .int .i64 0, .int .i64 0, .bool false, .func (.func 85) #[] #[], .nilFunc, .nilFunc, .nilFunc, .nilFunc]
  | 3 => [.int .i64 1, .int .i64 2, .int .i64 0, .int .i64 0, .bool false, .func (.func 76) #[] #[], .nilFunc, .nilFunc, .nilFunc, .nilFunc]
  | 4 => [.int .i64 1, .int .i64 4, .int .i64 0, .int .i64 0, .bool false, .func (.func 76) #[] #[], .nilFunc, .nilFunc, .nilFunc, .nilFunc]
  | 5 => [.int .i64 1, .int .i64 4, .int .i64 0, .int .i64 0, .bool false, .func (.func 76) #[] #[], .nilFunc, .nilFunc, .nilFunc, .nilFunc]
  | 6 => [.int .i64 1, .int .i64 0, .int .i64 0, .int .i64 0, .bool false, .func (.func 76) #[] #[], .nilFunc, .nilFunc, .nilFunc, .nilFunc]
  | 7 => [.int .i64 1, .int .i64 1, .int .i64 1, .int .i64 0, .bool false, .func (.func 78) #[] #[], .nilFunc, .nilFunc, .nilFunc, .nilFunc]
  | 8 => [.int .i64 1, .int .i64 1, .int .i64 1, .int .i64 0, .bool false, .func (.func 78) #[] #[], .nilFunc, .nilFunc, .nilFunc, .nilFunc]
  | 9 => [.int .i64 1, .int .i64 1, .int .i64 1, .int .i64 0, .bool false, .func (.func 78) #[] #[], .nilFunc, .nilFunc, .nilFunc, .nilFunc]
  | 10 => [.int .i64 1, .int .i64 1, .int .i64 1, .int .i64 0, .bool false, .func (.func 78) #[] #[], .nilFunc, .nilFunc, .nilFunc, .nilFunc]
  | 11 => [.int .i64 1, .int .i64 1, .int .i64 1, .int .i64 0, .bool false, .func (.func 78) #[] #[], .nilFunc, .nilFunc, .nilFunc, .nilFunc]
  | 12 => [.int .i64 1, .int .i64 1, .int .i64 1, .int .i64 0, .bool false, .func (.func 78) #[] #[], .nilFunc, .nilFunc, .nilFunc, .nilFunc]
  | 13 => [.int .i64 1, .int .i64 1, .int .i64 1, .int .i64 0, .bool false, .func (.func 78) #[] #[], .nilFunc, .nilFunc, .nilFunc, .nilFunc]
  | 14 => [.int .i64 1, .int .i64 1, .int .i64 1, .int .i64 0, .bool false, .func (.func 78) #[] #[], .nilFunc, .nilFunc, .nilFunc, .nilFunc]
  | 15 => [.int .i64 1, .int .i64 1, .int .i64 0, .int .i64 0, .bool false, .func (.func 77) #[] #[], .nilFunc, .nilFunc, .nilFunc, .nilFunc]
  | 16 => [.int .i64 1, .int .i64 1, .int .i64 0, .int .i64 0, .bool false, .func (.func 77) #[] #[], .nilFunc, .nilFunc, .nilFunc, .nilFunc]
  | 17 => [.int .i64 1, .int .i64 1, .int .i64 0, .int .i64 0, .bool false, .func (.func 77) #[] #[], .nilFunc, .nilFunc, .nilFunc, .nilFunc]
  | 18 => [.int .i64 0, .int .i64 0, .int .i64 0, .int .i64 6, .bool false, .nilFunc, .func (.func 86) #[] #[], .nilFunc, .nilFunc, .nilFunc]
  | 19 => [.int .i64 2, .int .i64 1, .int .i64 1, .int .i64 0, .bool false, .func (.func 79) #[] #[], .func (.func 80) #[] #[], .nilFunc, .nilFunc, .func (.func 81) #[] #[]]
  | 20 => [.int .i64 2, .int .i64 1, .int .i64 1, .int .i64 0, .bool false, .func (.func 79) #[] #[], .func (.func 80) #[] #[], .nilFunc, .nilFunc, .func (.func 81) #[] #[]]
  | 21 => [.int .i64 1, .int .i64 0, .int .i64 2, .int .i64 0, .bool false, .func (.func 76) #[] #[], .func (.func 80) #[] #[], .nilFunc, .nilFunc, .func (.func 81) #[] #[]]
  | 22 => [.int .i64 1, .int .i64 1, .int .i64 1, .int .i64 0, .bool false, .func (.func 82) #[] #[], .nilFunc, .func (.func 83) #[] #[], .func (.func 84) #[] #[], .nilFunc]
  | 23 => [.int .i64 1, .int .i64 1, .int .i64 0, .int .i64 0, .bool false, .func (.func 87) #[] #[], .func (.func 88) #[] #[], .func (.func 89) #[] #[], .nilFunc, .nilFunc]
  | 24 => [.int .i64 1, .int .i64 1, .int .i64 0, .int .i64 0, .bool true, .func (.func 87) #[] #[], .nilFunc, .nilFunc, .func (.func 90) #[] #[], .nilFunc]
  | 25 => [.int .i64 1, .int .i64 0, .int .i64 0, .int .i64 5, .bool false, .func (.func 76) #[] #[], .nilFunc, .nilFunc, .nilFunc, .nilFunc]
  | 26 => [.int .i64 1, .int .i64 0, .int .i64 0, .int .i64 0, .bool false, .func (.func 76) #[] #[], .nilFunc, .nilFunc, .nilFunc, .nilFunc]
  | 27 => [.int .i64 1, .int .i64 0, .int .i64 0, .int .i64 6, .bool false, .func (.func 91) #[] #[], .func (.func 92) #[] #[], .nilFunc, .nilFunc, .func (.func 93) #[] #[]]
  | 28 => [.int .i64 1, .int .i64 0, .int .i64 0, .int .i64 6, .bool false, .func (.func 91) #[] #[], .func (.func 92) #[] #[], .nilFunc, .nilFunc, .nilFunc]
  | 29 => [.int .i64 1, .int .i64 1, .int .i64 0, .int .i64 0, .bool false, .func (.func 77) #[] #[], .nilFunc, .nilFunc, .nilFunc, .nilFunc]
  | 30 => [.int .i64 1, .int .i64 1, .int .i64 1, .int .i64 0, .bool false, .func (.func 82) #[] #[], .nilFunc, .func (.func 83) #[] #[], .func (.func 84) #[] #[], .nilFunc]
  | 31 => [.int .i64 1, .int .i64 1, .int .i64 1, .int .i64 0, .bool false, .func (.func 94) #[] #[], .nilFunc, .func (.func 89) #[] #[], .func (.func 84) #[] #[], .nilFunc]
  | 32 => [.int .i64 1, .int .i64 1, .int .i64 0, .int .i64 0, .bool false, .func (.func 77) #[] #[], .nilFunc, .nilFunc, .nilFunc, .nilFunc]
  | 33 => [.int .i64 1, .int .i64 0, .int .i64 0, .int .i64 0, .bool false, .func (.func 76) #[] #[], .func (.func 88) #[] #[], .nilFunc, .nilFunc, .nilFunc]
  | _ => [.int .i64 0, .int .i64 0, .int .i64 0, .int .i64 0, .bool false, .nilFunc, .nilFunc, .nilFunc, .nilFunc, .nilFunc]
def usC (n j : Nat) : Value := (usRow n).getD j .nilFunc
def usTab : Array Value := Array.ofFn fun i : Fin 640 => usC (i.val / 10) (i.val % 10)
theorem usTab_size : usTab.size = 640 := Array.size_ofFn
theorem usTab_get {n j : Nat} (hn : n < 64) (hj : j < 10) : usTab[10 * n + j]? = some (usC n j) := by
  unfold usTab
  rw [Array.getElem?_ofFn, dif_pos (by omega)]
  have e1 : (10 * n + j) / 10 = n := by omega
  have e2 : (10 * n + j) % 10 = j := by omega
  simp only [e1, e2]
/-- block B holds the table. -/
def UsIn (w : World) (B : Nat) : Prop := ∀ n j, n < 64 → j < 10 → w.cell? ⟨B, 10 * n + j, none⟩ = some (usC n j)
theorem UsIn.keep {w w' : World} {B : Nat} (h : UsIn w B) (hk : w'.heap[B]? = w.heap[B]?) : UsIn w' B := fun n j hn hj => (World.cell?_of_block (a := ⟨B, 10 * n + j, none⟩) hk).trans (h n j hn hj)
def isNilF : Value → Bool
  | .nilFunc => true
  | _ => false
theorem isNilF_eq {v : Value} (h : isNilF v = true) : v = .nilFunc := by
  cases v <;> first | rfl | (simp [isNilF] at h)
end Go.Proofs.YtckapapejfnojaaGreatDoor

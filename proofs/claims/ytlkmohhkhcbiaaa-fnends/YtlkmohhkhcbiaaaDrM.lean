import Derived.Test.YtlkmohhkhcbiaaaDrK
namespace Go.Proofs.Ytlkmohhkhcbiaaa
open Go.RowKit Go.Shelf
set_option linter.unusedVariables false
set_option linter.unusedSimpArgs false
def rep (z : UInt8) (n : Nat) : ByteArray := ⟨Array.replicate n z⟩
theorem rep_size (z : UInt8) (n : Nat) : (rep z n).size = n := by simp [rep, ByteArray.size]
theorem rep_add (z : UInt8) (a b : Nat) : rep z a ++ rep z b = rep z (a + b) := by
  apply ByteArray.ext
  apply Array.ext'
  simp [rep]
set_option maxRecDepth 100000 in
set_option maxHeartbeats 1000000 in
theorem l1Long_in (z : UInt8) : ∀ (n : Nat), n ≤ 2000 → ∀ (w : World), Calls Try.prog 17 #[.int .i64 n, .string (rep z 1)] w fun e w' => e = .returned (.string (rep z n)) ∧ w = w' := by
  intro n
  induction n using Nat.strongRecOn with
  | ind n ih =>
  intro hn w
  by_cases h0 : n = 0
  · subst h0
    go_enter Try.func17, Try.ntmps17
    go_wp2_with fail
    go_loopw [5] (fun s wr => s = .string ⟨#[]⟩ ∧ w = wr) (fun _ _ => 0)
    case atStart => exact ⟨rfl, rfl⟩
    case round =>
      obtain ⟨rfl, rfl⟩ := hrel
      go_wp2_with fail
      go_ret
      exact ⟨rfl, rfl⟩
  · have hpos : (0 : Int) < (n : Int) := by omega
    have ih' : Hid (∀ m, m < n → m ≤ 2000 → ∀ (w : World), Calls Try.prog 17 #[.int .i64 m, .string (rep z 1)] w fun e w' => e = .returned (.string (rep z m)) ∧ w = w') := ih
    clear ih
    go_enter Try.func17, Try.ntmps17
    go_wp2_with fail
    go_loopw [5] (fun s wr => ∃ k : Nat, s = .string (rep z k) ∧ 1 ≤ k ∧ k ≤ n ∧ w = wr) (fun s _ => match s with | .string b => n - b.size | _ => 0)
    case atStart => exact ⟨1, rfl, by omega, by omega, rfl⟩
    case round =>
      obtain ⟨k, rfl, hk1, hk2, rfl⟩ := hrel
      have hsz := rep_size z k
      have hsz2 := rep_size z (k + k)
      have hcat := rep_add z k k
      by_cases hk : k * 2 ≤ n
      · have hkI : (k : Int) * 2 ≤ (n : Int) := by omega
        go_wp2_with fail
        go_roundw
        case rel => exact ⟨k + k, rfl, by omega, by omega, trivial⟩
        case measure => simp [hsz, hsz2, hcat]; omega
      · have hkI : ¬ ((k : Int) * 2 ≤ (n : Int)) := by omega
        by_cases hkn : k < n
        · have hknI : (k : Int) < (n : Int) := by omega
          have hrec := ih'.out (n - k) (by omega) (by omega) w
          rw [show ((n - k : Nat) : Int) = (n : Int) - (k : Int) by omega] at hrec
          have hc2 : rep z k ++ rep z (n - k) = rep z n := by rw [rep_add]; congr 1; omega
          have hs2 := rep_size z (n - k)
          have hs3 := rep_size z n
          replace hrec : Hid _ := hrec
          have hw : IntKind.i64.wrap ((n : Int) - (k : Int)) = (n : Int) - (k : Int) := by simp [IntKind.wrap, IntKind.bits, IntKind.signed]; omega
          go_wp2_with fail
          refine Calls.mono hrec.out ?_
          rintro e w' ⟨rfl, rfl⟩
          go_wp2_with fail
          go_ret
          exact ⟨rfl, rfl⟩
        · obtain rfl : k = n := by omega
          go_wp2_with fail
          go_ret
          exact ⟨rfl, rfl⟩
end Go.Proofs.Ytlkmohhkhcbiaaa

import Derived.Test.YtlkmohhkhcbiaaaDrH2
import Derived.Test.YtlkmohhkhcbiaaaCut
namespace Go.Proofs.Ytlkmohhkhcbiaaa
open Go.RowKit Go.Shelf
set_option linter.unusedVariables false
set_option linter.unusedSimpArgs false
/-- the blocks' words. -/
def blkCat (M : Nat → List Int) : Nat → List Int
  | 0 => []
  | k + 1 => blkCat M k ++ M k
/-- the words that load the first registers. -/
def ldL (a : Int) (i0 : Nat) : Nat → List Int
  | 0 => []
  | k + 1 => ldL a i0 k ++ [pW 1 (i0 + k : Nat) ((a + (i0 + k : Nat)) % 4)]
theorem ldL_len (a : Int) (i0 : Nat) : ∀ k, (ldL a i0 k).length = k
  | 0 => rfl
  | k + 1 => by simp [ldL, ldL_len a i0 k]
/-- the constants. -/
def kcL (c : Sl Int) (p : Nat) : List Value := [.int .i64 2, .int .i64 (tk c (p + 1) 12), .string ⟨#[]⟩, .int .i64 2, .int .i64 (tk c (p + 2) 6 - 2), .string ⟨#[]⟩, .int .i64 2, .int .i64 (tk c (p + 2) 6 + 1), .string ⟨#[]⟩, .int .i64 2, .int .i64 1, .string ⟨#[]⟩, .int .i64 3, .int .i64 0, .string ⟨#[115]⟩, .int .i64 1, .int .i64 1, .string ⟨#[]⟩]
/-- the end of the code. -/
def endL (a : Int) (b : Int) : List Int := if a = 0 ∧ b < 3 then [pI 24 2 511 0, pI 23 0 511 0] else [pI 23 0 (1 + a) 0]
def codeL (c : Sl Int) (p : Nat) (M : Nat → List Int) : List Int :=
  ldL (tk c (p + 1) 12) (tk c (p + 1) 12 % 4).toNat (4 - (tk c (p + 1) 12 % 4).toNat) ++ [pI 6 4 0 0, pW 1 5 4] ++ blkCat M (cnt c) ++ endL (tk c (p + 3 + 4 * cnt c) 6) (tk c (p + 2) 6)
def upL (c : Sl Int) (p : Nat) : Nat → List UD
  | 0 => []
  | k + 1 => upL c p k ++ [⟨true, tk c (p + 4 + 4 * cnt c + k) 4⟩]
theorem upL_len (c : Sl Int) (p : Nat) : ∀ k, (upL c p k).length = k
  | 0 => rfl
  | k + 1 => by simp [upL, upL_len c p k]
end Go.Proofs.Ytlkmohhkhcbiaaa

import Derived.WalkKit
import Derived.Tactics
namespace Go.Proofs.Ytlkmohhkhcbiaaa
set_option linter.unusedVariables false
/-- a piece of code by itself: what it leaves in some slots is forgotten. -/
theorem wp_cut {P : Program} {c : Code} {Q : Exit → Act → World → Prop} {a : Act} {w : World} (ds : List Nat) (G : World → Prop)
    (h : c.wp P (fun x a' w' => x = .normal ∧ (∃ zs : List Value, zs.length = ds.length ∧ a' = { tmps := (ds.zip zs).foldl (fun t d => t.setIfInBounds d.1 d.2) a.tmps, defers := a.defers }) ∧ G w') a w)
    (k : ∀ (zs : List Value) w', zs.length = ds.length → G w' → Q .normal { tmps := (ds.zip zs).foldl (fun t d => t.setIfInBounds d.1 d.2) a.tmps, defers := a.defers } w') : c.wp P Q a w := by
  refine Code.wp_mono ?_ h
  rintro e a' w' ⟨rfl, ⟨zs, h1, rfl⟩, hG⟩
  exact k zs w' h1 hG
end Go.Proofs.Ytlkmohhkhcbiaaa

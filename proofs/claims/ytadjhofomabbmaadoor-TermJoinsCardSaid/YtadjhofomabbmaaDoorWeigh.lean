/-
  slices.Min at []int, and amount.weigh.
-/
import Derived.Test.YtadjhofomabbmaaDoorSum
import Derived.WalkLawsBesides
namespace Go.Proofs.YtadjhofomabbmaaDoor
open Go.RowKit
set_option linter.unusedVariables false

/-- The least of the first numbers, and one more. -/
def minK (l : List Int) : Nat → Int
  | 0 => l.getD 0 0
  | k + 1 => min (minK l k) (l.getD (k + 1) 0)

theorem minK_neg (l : List Int) : ∀ k, minK l k < 0 ↔ ∃ t, t ≤ k ∧ l.getD t 0 < 0
  | 0 => ⟨fun h => ⟨0, Nat.le_refl _, h⟩, fun ⟨t, h1, h2⟩ => by
      have e : t = 0 := by omega
      subst e
      exact h2⟩
  | k + 1 => by
    have ih := minK_neg l k
    simp only [minK]
    constructor
    · intro h
      by_cases c : minK l k < 0
      · obtain ⟨t, h1, h2⟩ := ih.1 c; exact ⟨t, by omega, h2⟩
      · exact ⟨k + 1, Nat.le_refl _, by omega⟩
    · rintro ⟨t, h1, h2⟩
      by_cases c : t = k + 1
      · subst c; omega
      · have := ih.2 ⟨t, by omega, h2⟩; omega

end Go.Proofs.YtadjhofomabbmaaDoor

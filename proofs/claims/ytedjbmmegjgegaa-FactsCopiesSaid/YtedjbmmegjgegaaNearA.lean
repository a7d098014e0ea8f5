/-
  The nearest whole number, as the reference makes it and as MulDiv's contract has it.
-/
import Derived.Test.YtedjbmmegjgegaaRefL
import Derived.Test.YtedjbmmegjgegaaMulDiv
namespace Go.Proofs.Ytedjbmmegjgegaa
open Go.RowKit
set_option linter.unusedVariables false

/-- Does the reference go one up? -/
def upN (X Y : Nat) : Bool := decide (0 < ordZ (2 * (X % Y)) Y) || (decide (ordZ (2 * (X % Y)) Y = 0) && decide ((X / Y) % 2 = 1))
def nearN (X Y : Nat) : Nat := X / Y + (upN X Y).toNat

theorem nearN_nearI (X Y : Nat) : (nearN X Y : Int) = nearI X Y := by
  have e1 : ((X : Int) / (Y : Int)) = ((X / Y : Nat) : Int) := by omega
  have e2 : ((X : Int) % (Y : Int)) = ((X % Y : Nat) : Int) := by omega
  unfold nearN nearI upN
  rw [e1, e2]
  generalize X / Y = q
  generalize X % Y = r
  unfold up ordZ
  by_cases h1 : 2 * r < Y
  · rw [if_pos h1]; simp; omega
  · by_cases h2 : Y < 2 * r
    · rw [if_neg h1, if_pos h2]; simp; omega
    · rw [if_neg h1, if_neg h2]
      by_cases h3 : q % 2 = 1
      · simp [h3]; omega
      · simp [h3]; omega

theorem nearN_zero (Y : Nat) (hY : 0 < Y) : nearN 0 Y = 0 := by
  unfold nearN upN ordZ
  rw [Nat.zero_div, Nat.zero_mod, Nat.mul_zero, if_pos hY]; simp

theorem prod_neg {a b : Int} (ha : a ≠ 0) (hb : b ≠ 0) : decide (a * b < 0) = (decide (a < 0) != decide (b < 0)) := by
  by_cases h1 : a < 0 <;> by_cases h2 : b < 0
  · have := Int.mul_pos_of_neg_of_neg h1 h2
    rw [decide_eq_true h1, decide_eq_true h2, decide_eq_false (by omega)]; rfl
  · have := Int.mul_neg_of_neg_of_pos h1 (show 0 < b by omega)
    rw [decide_eq_true h1, decide_eq_false h2, decide_eq_true (by omega)]; rfl
  · have := Int.mul_neg_of_pos_of_neg (show 0 < a by omega) h2
    rw [decide_eq_false h1, decide_eq_true h2, decide_eq_true (by omega)]; rfl
  · have := Int.mul_pos (show 0 < a by omega) (show 0 < b by omega)
    rw [decide_eq_false h1, decide_eq_false h2, decide_eq_false (by omega)]; rfl

/-- The reference's nearest number is what MulDiv's contract says. -/
theorem near_md (a b c : Int) (hc : c ≠ 0) : sgn ((decide (a * b < 0) != decide (c < 0)) && decide (0 < nearN (a * b).natAbs c.natAbs)) (nearN (a * b).natAbs c.natAbs) = md a b c := by
  unfold md
  have e : absI a * absI b = ((a * b).natAbs : Int) := by unfold absI; rw [Int.natAbs_mul]; simp
  rw [e]
  show _ = sgn (odds a b c) (nearI ((a * b).natAbs : Int) (c.natAbs : Int))
  rw [← nearN_nearI]
  by_cases h0 : nearN (a * b).natAbs c.natAbs = 0
  · rw [h0]; unfold sgn; simp
  · have hX : (a * b).natAbs ≠ 0 := fun g => h0 (by rw [g]; exact nearN_zero _ (by omega))
    have ha : a ≠ 0 := fun g => hX (by rw [g, Int.zero_mul]; rfl)
    have hb : b ≠ 0 := fun g => hX (by rw [g, Int.mul_zero]; rfl)
    rw [decide_eq_true (show 0 < nearN (a * b).natAbs c.natAbs by omega), Bool.and_true, prod_neg ha hb]
    rfl

end Go.Proofs.Ytedjbmmegjgegaa

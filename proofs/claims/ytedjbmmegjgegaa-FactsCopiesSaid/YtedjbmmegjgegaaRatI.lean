/-
  Package ratio: Add, Sub, Mul, Div.
-/
import Derived.Test.YtedjbmmegjgegaaRatH
namespace Go.Proofs.Ytedjbmmegjgegaa
open Go.RowKit
set_option linter.unusedVariables false

/-- What is told of two ratios: an error, or the number. -/
def opN (E : Int) (q : Rat) : Int := if E = 0 then rN q else 0
def opD (E : Int) (q : Rat) : Int := if E = 0 then rD q else 0
def opE (E : Int) (q : Rat) : Int := if E = 0 then rE q else E
def bothE (na da nb db : Int) : Int := firstE (chkE na da) (chkE nb db)
theorem bothE_ok {na da nb db : Int} (h : bothE na da nb db = 0) (na0 : -9223372036854775808 ≤ na) (na1 : na ≤ 9223372036854775807) (da1 : da ≤ 9223372036854775807) (nb0 : -9223372036854775808 ≤ nb) (nb1 : nb ≤ 9223372036854775807) (db1 : db ≤ 9223372036854775807) : OkR na da ∧ OkR nb db := by
  unfold bothE firstE at h
  by_cases g : chkE na da = 0
  · rw [if_pos g] at h
    exact ⟨chkE_zero g na0 na1 da1, chkE_zero h nb0 nb1 db1⟩
  · rw [if_neg g] at h; exact absurd h g
theorem op_ok {E : Int} (h : E = 0) (q : Rat) : tup (opN E q) (opD E q) (opE E q) = fitV q := by unfold opN opD opE fitV; rw [if_pos h, if_pos h, if_pos h]
theorem op_err {E : Int} (h : E ≠ 0) (q : Rat) : opN E q = 0 ∧ opD E q = 0 ∧ opE E q = E := by unfold opN opD opE; rw [if_neg h, if_neg h, if_neg h]; exact ⟨rfl, rfl, rfl⟩

end Go.Proofs.Ytedjbmmegjgegaa

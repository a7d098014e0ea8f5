/-
  What follows for ratios: sums and products do not hang on the order, products of sums, what is undone.
-/
import Derived.Test.YtgeneoamngfomaaGreatDoorRtL
namespace Go.Proofs.YtgeneoamngfomaaGreatDoor
open Go.RowKit
set_option linter.unusedVariables false

theorem op_zero {E : Int} {q : Rat} (h : opE E q = 0) : E = 0 ∧ fitsR q = true ∧ opN E q = q.num ∧ opD E q = ((q.den : Nat) : Int) := by
  by_cases h0 : E = 0
  · by_cases h1 : fitsR q = true
    · obtain ⟨e1, e2, e3⟩ := fit_in h1
      refine ⟨h0, h1, ?_, ?_⟩
      · unfold opN; rw [if_pos h0, e1]
      · unfold opD; rw [if_pos h0, e2]
    · obtain ⟨e1, e2, e3⟩ := fit_out (show fitsR q = false by simpa using h1)
      unfold opE at h; rw [if_pos h0, e3] at h; cases h
  · unfold opE at h; rw [if_neg h0] at h; exact absurd h h0
theorem op_in {E : Int} {q : Rat} (h0 : E = 0) (h1 : fitsR q = true) : opN E q = q.num ∧ opD E q = ((q.den : Nat) : Int) ∧ opE E q = 0 := by
  obtain ⟨e1, e2, e3⟩ := fit_in h1
  unfold opN opD opE; rw [if_pos h0, if_pos h0, if_pos h0]; exact ⟨e1, e2, e3⟩
theorem bothE_zero {na da nb db : Int} (ha : OkR na da) (hb : OkR nb db) : bothE na da nb db = 0 := by
  unfold bothE firstE; rw [if_pos (chkE_ok ha), chkE_ok hb]

/-- Where numbers lie. -/
structure In (n : Int) : Prop where
  lo : -9223372036854775808 ≤ n
  hi : n ≤ 9223372036854775807
theorem both_ok2 {na da nb db : Int} (h : bothE na da nb db = 0) (a : In na) (b : In da) (c : In nb) (d : In db) : OkR na da ∧ OkR nb db := bothE_ok h a.lo a.hi b.hi c.lo c.hi d.hi
theorem fit_bd (q : Rat) : In (rN q) ∧ In (rD q) := by
  by_cases h : fitsR q = true
  · obtain ⟨e1, e2, e3⟩ := fit_in h
    have := okR_of h
    rw [e1, e2]; exact ⟨⟨by have := this.n0; omega, this.n1⟩, ⟨by have := this.d0; omega, this.d1⟩⟩
  · obtain ⟨e1, e2, e3⟩ := fit_out (show fitsR q = false by simpa using h)
    rw [e1, e2]; exact ⟨⟨by omega, by omega⟩, ⟨by omega, by omega⟩⟩
theorem op_bd (E : Int) (q : Rat) : In (opN E q) ∧ In (opD E q) := by
  unfold opN opD
  by_cases h : E = 0
  · rw [if_pos h, if_pos h]; exact fit_bd q
  · rw [if_neg h, if_neg h]; exact ⟨⟨by omega, by omega⟩, ⟨by omega, by omega⟩⟩

/-- An answer without an error: what it is. -/
theorem op_rat {E : Int} {q : Rat} (h : opE E q = 0) : OkR (opN E q) (opD E q) ∧ rat (opN E q) (opD E q) = q := by
  obtain ⟨_, h1, e1, e2⟩ := op_zero h
  rw [e1, e2]; exact ⟨okR_of h1, rat_of q⟩
theorem op_eq {E E' : Int} {q q' : Rat} (h : opE E q = 0) (h' : opE E' q' = 0) (e : q = q') : opN E q = opN E' q' ∧ opD E q = opD E' q' := by
  obtain ⟨_, _, e1, e2⟩ := op_zero h
  obtain ⟨_, _, e3, e4⟩ := op_zero h'
  rw [e1, e2, e3, e4, e]; exact ⟨rfl, rfl⟩

/-- Sub undoes Add, Div undoes Mul. -/
theorem undo_add {na da nb db : Int} (ha : OkR na da) (hb : OkR nb db) {E1 : Int} (h : opE E1 (rat na da + rat nb db) = 0) :
    let A1 := opN E1 (rat na da + rat nb db); let A2 := opD E1 (rat na da + rat nb db)
    opN (bothE A1 A2 nb db) (rat A1 A2 - rat nb db) = na ∧ opD (bothE A1 A2 nb db) (rat A1 A2 - rat nb db) = da ∧ opE (bothE A1 A2 nb db) (rat A1 A2 - rat nb db) = 0 := by
  intro A1 A2
  obtain ⟨hok, hr⟩ := op_rat h
  have e : rat A1 A2 - rat nb db = rat na da := by rw [show rat A1 A2 = rat na da + rat nb db from hr]; exact Rat.add_sub_cancel
  rw [e]
  obtain ⟨e1, e2, e3⟩ := op_in (bothE_zero hok hb) (fitsR_ok ha)
  refine ⟨e1.trans ha.num, e2.trans ha.den, e3⟩
theorem undo_mul {na da nb db : Int} (ha : OkR na da) (hb : OkR nb db) (hn : nb ≠ 0) {E1 : Int} (h : opE E1 (rat na da * rat nb db) = 0) :
    let A1 := opN E1 (rat na da * rat nb db); let A2 := opD E1 (rat na da * rat nb db)
    opN (bothE A1 A2 nb db) (rat A1 A2 / rat nb db) = na ∧ opD (bothE A1 A2 nb db) (rat A1 A2 / rat nb db) = da ∧ opE (bothE A1 A2 nb db) (rat A1 A2 / rat nb db) = 0 := by
  intro A1 A2
  obtain ⟨hok, hr⟩ := op_rat h
  have hz : rat nb db ≠ 0 := fun g => by
    have := hb.num; rw [g] at this; exact hn this.symm
  have e : rat A1 A2 / rat nb db = rat na da := by rw [show rat A1 A2 = rat na da * rat nb db from hr]; exact Rat.mul_div_cancel hz
  rw [e]
  obtain ⟨e1, e2, e3⟩ := op_in (bothE_zero hok hb) (fitsR_ok ha)
  refine ⟨e1.trans ha.num, e2.trans ha.den, e3⟩

end Go.Proofs.YtgeneoamngfomaaGreatDoor

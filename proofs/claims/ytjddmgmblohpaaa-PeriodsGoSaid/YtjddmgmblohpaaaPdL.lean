/-
  Locks one behind the other at the last day; where something is booked: no program but PdB's words.
-/
import Derived.Test.YtjddmgmblohpaaaPdS
namespace Go.Proofs.Ytjddmgmblohpaaa
open Go.RowKit Go.Lib
set_option linter.unusedVariables false
set_option linter.unusedSimpArgs false

theorem last_up {s : Nat} (h1 : 1 ≤ s) (h4 : s ≤ 400) : 182 ≤ lastP s := by
  rw [lastP_div]
  have : 182 ≤ (73048 : Int) / (s : Int) := (Int.le_ediv_iff_mul_le (by omega)).2 (by omega)
  exact this
theorem lkE_up {s l : Nat} (h1 : 1 ≤ s) (h4 : s ≤ 400) (hl : l ≤ 60) : lkE s l (l : Int) 73048 = 0 := by
  have hL := last_up h1 h4
  have A := span_in (s := s) (X := (l : Int)) h1 h4 (by omega) (by omega)
  obtain ⟨_, _, n3⟩ := A.lt (by omega)
  have ht := A.t
  have hm : (l : Int) * (s : Int) ≤ 60 * 400 := Int.mul_le_mul (by omega) (by omega) (by omega) (by omega)
  unfold lkE
  rw [if_neg (by omega), if_neg (by omega), if_neg (by omega), if_neg (by rw [ht]; omega)]
theorem eaE_up {s l : Nat} (h1 : 1 ≤ s) (h4 : s ≤ 400) (hl : l ≤ 60) : eaE s l = 0 ∧ eaV s l = (l : Int) := by
  have hL := last_up h1 h4
  unfold eaE eaV
  rw [if_neg (by omega), if_neg (by omega)]
  exact ⟨rfl, rfl⟩
/-- Where something of a day is booked. -/
structure Bk (s l : Nat) (d x v : Int) : Prop where
  o : ofV s d = x
  oe : ofE d = 0
  bv : bkV s l d = v
  e : bkE s l d = 0
  xv : x ≤ v
  lv : (l : Int) ≤ v
  lt : x < (l : Int) → v = (l : Int)
  ge : ¬ x < (l : Int) → v = x
theorem bk_in {s l : Nat} {d : Int} (h1 : 1 ≤ s) (h4 : s ≤ 400) (hl : l ≤ 60) (d0 : 0 ≤ d) (d1 : d ≤ 73048) : Bk s l d (d / (s : Int)) (if d / (s : Int) < (l : Int) then (l : Int) else d / (s : Int)) := by
  have A := own_in (s := s) (a := d) h1 h4 d0 d1
  obtain ⟨e1, e2⟩ := eaE_up (s := s) h1 h4 hl
  refine ⟨A.v, A.e, by unfold bkV; rw [if_pos A.e, if_pos e1, A.v], by unfold bkE; rw [if_pos A.e, e1], ?_, ?_, fun h => by rw [if_pos h], fun h => by rw [if_neg h]⟩
  · split <;> omega
  · split <;> omega
theorem bk_no {s l : Nat} {d : Int} (h : d < 0 ∨ 73048 < d) : bkE s l d = 18 := by
  have e : ofE d = 18 := by unfold ofE; rw [if_pos h]
  unfold bkE
  rw [e, if_neg (by decide)]
theorem bk_or {s l : Nat} {d : Int} (h1 : 1 ≤ s) (h4 : s ≤ 400) (hl : l ≤ 60) : bkE s l d = 0 ∨ bkE s l d = 18 := by
  by_cases h : d < 0 ∨ 73048 < d
  · exact .inr (bk_no h)
  · exact .inl (bk_in h1 h4 hl (by omega) (by omega)).e
theorem bk_rise {s l : Nat} {a b x y u v : Int} (h1 : 1 ≤ s) (A : Bk s l a x u) (B : Bk s l b y v) (h : x ≤ y) : u ≤ v := by
  have a1 := A.lt; have a2 := A.ge; have b1 := B.lt; have b2 := B.ge
  by_cases c : x < (l : Int)
  · rw [a1 c]; exact B.lv
  · rw [a2 c, b2 (by omega)]; exact h

end Go.Proofs.Ytjddmgmblohpaaa

/-
  Periods that there are, and the period of a day: no program but PdA's words.
-/
import Derived.Test.YtjddmgmblohpaaaPdB
namespace Go.Proofs.Ytjddmgmblohpaaa
open Go.RowKit Go.Lib
set_option linter.unusedVariables false
set_option linter.unusedSimpArgs false

theorem day_in {s : Nat} {a : Int} (h1 : 1 ≤ s) : a / (s : Int) * (s : Int) ≤ a ∧ a < a / (s : Int) * (s : Int) + s := by
  have h := Int.emod_add_mul_ediv a (s : Int)
  have p0 := Int.emod_nonneg a (show (s : Int) ≠ 0 by omega)
  have p1 := Int.emod_lt_of_pos a (show (0 : Int) < (s : Int) by omega)
  rw [Int.mul_comm] at h
  omega
theorem step_le {s : Nat} {x y : Int} (h : x < y) : x * (s : Int) + s ≤ y * (s : Int) := by
  have h2 := Int.mul_le_mul_of_nonneg_right (show x + 1 ≤ y by omega) (show (0 : Int) ≤ (s : Int) by omega)
  rw [Int.add_mul, Int.one_mul] at h2
  exact h2
/-- A period that there is. -/
structure Span (s : Nat) (X m T : Int) : Prop where
  f : spF s X = m
  t : spT s X = T
  e : spE s X = 0
  m0 : 0 ≤ m
  mT : m ≤ T
  sz : T - m < s
  T0 : T ≤ 73048
  x0 : 0 ≤ X
  xL : X ≤ lastP s
  lt : X < lastP s → spE s (X + 1) = 0 ∧ spF s (X + 1) = T + 1 ∧ T - m + 1 = s
  eq : X = lastP s → spE s (X + 1) = 10 ∧ spF s (X + 1) = 0 ∧ T = 73048
theorem span_in {s : Nat} {X : Int} (h1 : 1 ≤ s) (h4 : s ≤ 400) (x0 : 0 ≤ X) (xL : X ≤ lastP s) : Span s X (X * s) (min (X * s + s - 1) 73048) := by
  obtain ⟨b0, b1⟩ := sp_bd h1 x0 xL
  have e0 : ¬ (X < 0 ∨ lastP s < X) := by omega
  have hL := day_in (s := s) (a := 73048) h1
  rw [← lastP_div] at hL
  have hm := step_le (s := s) (x := X) (y := X + 1) (by omega)
  refine ⟨by unfold spF; rw [if_neg e0], by unfold spT; rw [if_neg e0], by unfold spE; rw [if_neg e0], b0, by omega, by omega, by omega, x0, xL, fun h => ?_, fun h => ?_⟩
  · have hs := step_le (s := s) h
    have e1 : ¬ (X + 1 < 0 ∨ lastP s < X + 1) := by omega
    refine ⟨by unfold spE; rw [if_neg e1], ?_, by omega⟩
    unfold spF; rw [if_neg e1, Int.add_mul, Int.one_mul]; omega
  · have e1 : X + 1 < 0 ∨ lastP s < X + 1 := by omega
    refine ⟨by unfold spE; rw [if_pos e1], by unfold spF; rw [if_pos e1], ?_⟩
    rw [← h] at hL; omega
/-- The period of a day. -/
structure Own13 (s : Nat) (a X m T : Int) : Prop where
  v : ofV s a = X
  e : ofE a = 0
  sp : Span s X m T
  lo : m ≤ a
  hi : a ≤ T
theorem own_in {s : Nat} {a : Int} (h1 : 1 ≤ s) (h4 : s ≤ 400) (a0 : 0 ≤ a) (a1 : a ≤ 73048) : Own13 s a (a / (s : Int)) (a / (s : Int) * s) (min (a / (s : Int) * s + s - 1) 73048) := by
  have e0 : ¬ (a < 0 ∨ 73048 < a) := by omega
  have hd := day_in (s := s) (a := a) h1
  have hL : a / (s : Int) ≤ lastP s := by rw [lastP_div]; exact Int.ediv_le_ediv (by omega) a1
  exact ⟨by unfold ofV; rw [if_neg e0], by unfold ofE; rw [if_neg e0], span_in h1 h4 (Int.ediv_nonneg a0 (by omega)) hL, hd.1, by omega⟩
theorem own_lt {s : Nat} {a b X m T Y m' T' : Int} (h : Own13 s a X m T) (h' : Own13 s b Y m' T') (hx : X < Y) : T < b := by
  have hs := step_le (s := s) hx
  have f1 := h.sp.f; have f2 := h'.sp.f; have t1 := h.sp.t
  unfold spF at f1 f2; unfold spT at t1
  have x0 := h.sp.x0; have xL := h.sp.xL; have y0 := h'.sp.x0; have yL := h'.sp.xL
  rw [if_neg (by omega)] at f1 f2 t1
  have := h'.lo
  omega
theorem own_same {s : Nat} {a b X m T m' T' : Int} (h : Own13 s a X m T) (h' : Own13 s b X m' T') : m ≤ b ∧ b ≤ T := by
  have f1 := h.sp.f; have f2 := h'.sp.f; have t1 := h.sp.t; have t2 := h'.sp.t
  have := h'.lo; have := h'.hi
  constructor <;> omega
theorem own_gt {s : Nat} {a b X m T Y m' T' : Int} (h : Own13 s a X m T) (h' : Own13 s b Y m' T') (hx : Y < X) : b < m := by
  have hs := step_le (s := s) hx
  have f1 := h.sp.f; have f2 := h'.sp.f; have t2 := h'.sp.t
  unfold spF at f1 f2; unfold spT at t2
  have x0 := h.sp.x0; have xL := h.sp.xL; have y0 := h'.sp.x0; have yL := h'.sp.xL
  rw [if_neg (by omega)] at f1 f2 t2
  have := h'.hi
  omega

end Go.Proofs.Ytjddmgmblohpaaa

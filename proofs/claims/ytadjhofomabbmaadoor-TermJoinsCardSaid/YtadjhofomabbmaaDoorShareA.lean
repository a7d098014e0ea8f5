/-
  Plain numbers: a total's parts by weights, rounded down, what is cut off, and what is left. No program.
-/
import Derived.Test.YtadjhofomabbmaaDoorWeigh
import Derived.Test.YtadjhofomabbmaaDoorMulDiv
namespace Go.Proofs.YtadjhofomabbmaaDoor
open Go.RowKit
set_option linter.unusedVariables false

def qF (T S : Int) (l : List Int) (t : Nat) : Int := T * l.getD t 0 / S
def rF (T S : Int) (l : List Int) (t : Nat) : Int := T * l.getD t 0 % S
def sumF (f : Nat → Int) : Nat → Int
  | 0 => 0
  | k + 1 => sumF f k + f k

def NonNeg (l : List Int) : Prop := ∀ t, 0 ≤ l.getD t 0
theorem NonNeg.of {l : List Int} (h : ∀ t, t < l.length → 0 ≤ l.getD t 0) : NonNeg l := fun t => by
  by_cases c : t < l.length
  · exact h t c
  · rw [List.getD_eq_getElem?_getD, List.getElem?_eq_none (by omega)]; exact Int.le_refl _

theorem sumK_mono {l : List Int} (h : NonNeg l) {j k : Nat} (hjk : j ≤ k) : sumK l j ≤ sumK l k := by
  induction k with
  | zero => obtain rfl : j = 0 := by omega
            exact Int.le_refl _
  | succ k ih =>
    by_cases e : j = k + 1
    · subst e; exact Int.le_refl _
    · have := ih (by omega); have := h k; simp only [sumK]; omega
theorem sumK_nonneg {l : List Int} (h : NonNeg l) (k : Nat) : 0 ≤ sumK l k := sumK_mono h (Nat.zero_le k)
theorem getD_le_sum {l : List Int} (h : NonNeg l) {t : Nat} (ht : t < l.length) : l.getD t 0 ≤ sumL l := by
  have h1 : sumK l (t + 1) ≤ sumL l := sumK_mono h ht
  have h2 := sumK_nonneg h t
  simp only [sumK] at h1; omega

theorem parts_eq (T S : Int) (l : List Int) (k : Nat) : S * sumF (qF T S l) k + sumF (rF T S l) k = T * sumK l k := by
  induction k with
  | zero => simp [sumF, sumK]
  | succ k ih =>
    have h := Int.mul_ediv_add_emod (T * l.getD k 0) S
    simp only [sumF, sumK, Int.mul_add]
    show S * sumF (qF T S l) k + S * (T * l.getD k 0 / S) + (sumF (rF T S l) k + T * l.getD k 0 % S) = _
    omega

theorem rF_bd {T S : Int} {l : List Int} (hS : 0 < S) (t : Nat) : 0 ≤ rF T S l t ∧ rF T S l t < S := ⟨Int.emod_nonneg _ (by omega), Int.emod_lt_of_pos _ hS⟩
theorem sumr_bd {T S : Int} {l : List Int} (hS : 0 < S) : ∀ k : Nat, 0 ≤ sumF (rF T S l) k ∧ sumF (rF T S l) k ≤ S * k - k
  | 0 => by simp [sumF]
  | k + 1 => by
    have := sumr_bd (T := T) (l := l) hS k; have := rF_bd (T := T) (l := l) hS k
    simp only [sumF, Int.natCast_add, Int.mul_add]; omega
theorem qF_nonneg {T S : Int} {l : List Int} (hT : 0 ≤ T) (hS : 0 < S) (h : NonNeg l) (t : Nat) : 0 ≤ qF T S l t := Int.ediv_nonneg (Int.mul_nonneg hT (h t)) (by omega)
theorem sumq_mono {T S : Int} {l : List Int} (hT : 0 ≤ T) (hS : 0 < S) (h : NonNeg l) {j k : Nat} (hjk : j ≤ k) : sumF (qF T S l) j ≤ sumF (qF T S l) k := by
  induction k with
  | zero => obtain rfl : j = 0 := by omega
            exact Int.le_refl _
  | succ k ih =>
    by_cases e : j = k + 1
    · subst e; exact Int.le_refl _
    · have := ih (by omega); have := qF_nonneg hT hS h k; simp only [sumF]; omega
theorem sumq_le {T : Int} {l : List Int} (hT : 0 ≤ T) (hS : 0 < sumL l) (h : NonNeg l) {k : Nat} (hk : k ≤ l.length) : 0 ≤ sumF (qF T (sumL l) l) k ∧ sumF (qF T (sumL l) l) k ≤ T := by
  refine ⟨sumq_mono (k := k) hT hS h (Nat.zero_le k), ?_⟩
  have e := parts_eq T (sumL l) l k
  have r := (sumr_bd (T := T) (l := l) hS k).1
  have m : T * sumK l k ≤ T * sumL l := Int.mul_le_mul_of_nonneg_left (sumK_mono h hk) hT
  have : sumL l * sumF (qF T (sumL l) l) k ≤ sumL l * T := by rw [Int.mul_comm (sumL l) T]; omega
  exact Int.le_of_mul_le_mul_left this hS
/-- What is left is less than there are parts. -/
theorem left_lt {T : Int} {l : List Int} (hT : 0 ≤ T) (hS : 0 < sumL l) (h : NonNeg l) (h0 : 0 < l.length) : 0 ≤ T - sumF (qF T (sumL l) l) l.length ∧ T - sumF (qF T (sumL l) l) l.length < l.length := by
  refine ⟨by have := (sumq_le hT hS h (Nat.le_refl l.length)).2; omega, ?_⟩
  have e := parts_eq T (sumL l) l l.length
  have r := (sumr_bd (T := T) (l := l) hS l.length).2
  have e2 : sumL l * (T - sumF (qF T (sumL l) l) l.length) = sumF (rF T (sumL l) l) l.length := by
    rw [Int.mul_sub, Int.mul_comm (sumL l) T]
    have : T * sumK l l.length = T * sumL l := rfl
    omega
  apply Int.lt_of_mul_lt_mul_left (a := sumL l) _ (by omega)
  rw [e2]; omega

end Go.Proofs.YtadjhofomabbmaaDoor

/-
  amount.Sum, slices.Min and amount.weigh: what they tell of a slice of numbers.
-/
import Derived.Test.YtedjbmmegjgegaaBits
import Derived.CellFam
namespace Go.Proofs.Ytedjbmmegjgegaa
open Go.RowKit
set_option linter.unusedVariables false

/-- A slice of numbers lies in memory. -/
def Row (w : World) (b o : Nat) (l : List Int) : Prop := ∀ t, t < l.length → w.cell? ⟨b, o + t, none⟩ = some (.int .i64 (l.getD t 0))
def InI (l : List Int) : Prop := ∀ t, -9223372036854775808 ≤ l.getD t 0 ∧ l.getD t 0 ≤ 9223372036854775807
/-- The sum of the first numbers. -/
def sumK (l : List Int) : Nat → Int
  | 0 => 0
  | k + 1 => sumK l k + l.getD k 0
def sumL (l : List Int) : Int := sumK l l.length

theorem sumK_bd {l : List Int} (h : InI l) : ∀ k : Nat, -9223372036854775808 * (k : Int) ≤ sumK l k ∧ sumK l k ≤ 9223372036854775807 * (k : Int)
  | 0 => by simp [sumK]
  | k + 1 => by have := sumK_bd h k; have := h k; simp only [sumK]; omega

def loW (s : Int) : Int := s % 18446744073709551616
def hiW (s : Int) : Int := s / 18446744073709551616 % 18446744073709551616
theorem loW_bd (s : Int) : 0 ≤ loW s ∧ loW s ≤ 18446744073709551615 := by unfold loW; omega
theorem hiW_bd (s : Int) : 0 ≤ hiW s ∧ hiW s ≤ 18446744073709551615 := by unfold hiW; omega

theorem num_eqS {k : IntKind} {a b : Int} (h : a = b) : Value.int k a = Value.int k b := by rw [h]
theorem hi_neg (S x c : Int) (hx : x < 0) (hx0 : -9223372036854775808 ≤ x) (hc : c = (loW S + (x + 18446744073709551616)) / 18446744073709551616) :
    IntKind.u64.wrap (hiW S + IntKind.u64.wrap (18446744073709551615 + c)) = hiW (S + x) := by
  rw [IntKind.wrap_u64, IntKind.wrap_u64]; unfold hiW; unfold loW at hc; omega
theorem hi_pos (S x c : Int) (hx : 0 ≤ x) (hx1 : x ≤ 9223372036854775807) (hc : c = (loW S + x) / 18446744073709551616) :
    IntKind.u64.wrap (hiW S + c) = hiW (S + x) := by
  rw [IntKind.wrap_u64]; unfold hiW; unfold loW at hc; omega

end Go.Proofs.Ytedjbmmegjgegaa

/-
  The contract of math/bits.Div64, walked.
-/
import Derived.Test.YtedjbmmegjgegaaDiv
import Derived.Deep.Draws
namespace Go.Proofs.Ytedjbmmegjgegaa
open Go.RowKit
set_option linter.unusedVariables false

theorem shr_nat (a s : Nat) : ((a / 2 ^ s : Nat) : Int) = (a : Int) / 2 ^ s := by rw [Int.natCast_ediv, Int.natCast_pow]; rfl
theorem num_eq {k : IntKind} {a b : Int} (h : a = b) : Value.int k a = Value.int k b := by rw [h]

/-- A guess of a digit, on its way down. -/
def Guess (U y1 Q q r : Nat) : Prop := q * y1 + r = U ∧ Q ≤ q ∧ q ≤ 4294967297 ∧ r < 4294967296

def GuessI (U y1 Q : Nat) (q r : Int) : Prop := ∃ qn rn : Nat, q = qn ∧ r = rn ∧ Guess U y1 Q qn rn

theorem Guess.down {U Y y1 y0 d Q q r : Nat} (h : Guess U y1 Q q r) (HY : Hid (Y = y1 * 4294967296 + y0)) (hUY : U < Y) (hd : d < 4294967296) (HQ : Hid (Q = (U * 4294967296 + d) / Y))
    (ht : 4294967296 ≤ q ∨ 4294967296 * r + d < q * y0) : 0 < q ∧ Q ≤ q - 1 ∧ (q - 1) * y1 + (r + y1) = U := by
  have := DivA.guess_down q r U d y1 y0 4294967296 h.1 (by rw [← HY.out]; exact hUY) hd (by rw [← HY.out, ← HQ.out]; exact h.2.1) ht
  rw [← HY.out, ← HQ.out] at this
  exact this

theorem Guess.next {U Y y1 y0 d Q q r : Nat} (h : Guess U y1 Q q r) (HY : Hid (Y = y1 * 4294967296 + y0)) (hUY : U < Y) (hd : d < 4294967296) (HQ : Hid (Q = (U * 4294967296 + d) / Y))
    (ht : 4294967296 ≤ q ∨ 4294967296 * r + d < q * y0) (hr : r + y1 < 4294967296) : Guess U y1 Q (q - 1) (r + y1) := by
  obtain ⟨a, b, c⟩ := h.down HY hUY hd HQ ht
  have := h.2.2.1
  exact ⟨c, b, by omega, hr⟩

theorem Guess.last {U Y y1 y0 d Q q r : Nat} (h : Guess U y1 Q q r) (HY : Hid (Y = y1 * 4294967296 + y0)) (hUY : U < Y) (hd : d < 4294967296) (HQ : Hid (Q = (U * 4294967296 + d) / Y))
    (b3 : y0 < 4294967296) (ht : 4294967296 ≤ q ∨ 4294967296 * r + d < q * y0) (hr : 4294967296 ≤ r + y1) : q - 1 = Q := by
  obtain ⟨a, b, c⟩ := h.down HY hUY hd HQ ht
  have := h.2.2.1
  have hp : (q - 1) * y0 ≤ 4294967296 * 4294967295 := Nat.mul_le_mul (by omega) (by omega)
  have e := DivA.guess_done (q - 1) (r + y1) U d y1 y0 4294967296 c (by rw [← HY.out]; omega) (by rw [← HY.out, ← HQ.out]; exact b) (by omega)
  rw [← HY.out, ← HQ.out] at e
  exact e

theorem Guess.done {U Y y1 y0 d Q q r : Nat} (h : Guess U y1 Q q r) (HY : Hid (Y = y1 * 4294967296 + y0)) (hUY : U < Y) (HQ : Hid (Q = (U * 4294967296 + d) / Y))
    (ht : q * y0 ≤ 4294967296 * r + d) : q = Q := by
  have e := DivA.guess_done q r U d y1 y0 4294967296 h.1 (by rw [← HY.out]; omega) (by rw [← HY.out, ← HQ.out]; exact h.2.1) ht
  rw [← HY.out, ← HQ.out] at e
  exact e

theorem split_low (U L u : Nat) (h : U * 18446744073709551616 + L = u) : U * (4294967296 * 4294967296) + L / 4294967296 * 4294967296 + L % 4294967296 = u := by
  subst h
  rw [show (4294967296 * 4294967296 : Nat) = 18446744073709551616 from rfl]
  rw [Nat.add_assoc, Nat.div_add_mod' L 4294967296]

end Go.Proofs.Ytedjbmmegjgegaa

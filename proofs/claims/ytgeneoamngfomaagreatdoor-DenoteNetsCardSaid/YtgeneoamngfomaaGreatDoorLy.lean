/-
  slices.Min at []int, and amount.weigh.
-/
import Derived.Test.YtgeneoamngfomaaGreatDoorLo
import Derived.WalkLawsBesides
import Derived.Test.YtgeneoamngfomaaGreatDoorDv
import Derived.Sort.Row
import Derived.Sort.LotA
import Derived.CellFam
import Derived.BigGuard
import Derived.BigCall
import Derived.RegionTactic
import Derived.BigRegion
import Derived.Deep.Draws
import Derived.Deep.QuietTactic
import Derived.BigQuiet
import Derived.Deep.CutBlock
import Derived.Deep.Cut
import Derived.Deep.CutRange
import Derived.Deep.DeepCutAuto
import Derived.Deep.OwnRows
import Derived.Below
import Derived.WalkMore
import Derived.Deep.LoopGhost
namespace Go.Proofs.YtgeneoamngfomaaGreatDoor
open Go.RowKit
set_option linter.unusedVariables false

end Go.Proofs.YtgeneoamngfomaaGreatDoor

namespace Go.Proofs.YtgeneoamngfomaaGreatDoor
open Go.RowKit
set_option linter.unusedVariables false

end Go.Proofs.YtgeneoamngfomaaGreatDoor

namespace Go.Proofs.YtgeneoamngfomaaGreatDoor
open Go.RowKit Go.Sort
set_option linter.unusedVariables false

end Go.Proofs.YtgeneoamngfomaaGreatDoor

namespace Go.Proofs.YtgeneoamngfomaaGreatDoor
open Go.Sort
set_option linter.unusedVariables false

/-- Two ranges of a row, exchanged place by place. -/
def swpRange (d : Array Int) (a b : Nat) : Nat → Array Int
  | 0 => d
  | n + 1 => swp (swpRange d a b n) (a + n) (b + n)

theorem size_swpRange (d : Array Int) (a b : Nat) : ∀ n, (swpRange d a b n).size = d.size
  | 0 => rfl
  | n + 1 => by rw [swpRange, size_swp, size_swpRange d a b n]

theorem swpRange_at (d : Array Int) (a b : Nat) : ∀ n, a + n ≤ b → b + n ≤ d.size → ∀ t,
    (swpRange d a b n)[t]! = d[if a ≤ t ∧ t < a + n then t + (b - a) else if b ≤ t ∧ t < b + n then t - (b - a) else t]!
  | 0, _, _, t => by rw [swpRange, if_neg (by omega), if_neg (by omega)]
  | n + 1, h1, h2, t => by
    have ih := swpRange_at d a b n (by omega) (by omega)
    have hs := size_swpRange d a b n
    rw [swpRange]
    by_cases e1 : t = b + n
    · subst e1
      rw [swp_right _ _ _ (by omega), ih, if_neg (by omega), if_neg (by omega), if_neg (by omega), if_pos (by omega)]
      congr 1; omega
    · by_cases e2 : t = a + n
      · subst e2
        rw [swp_left _ _ _ (by omega) (by omega), ih, if_neg (by omega), if_neg (by omega), if_pos (by omega)]
        congr 1; omega
      · rw [swp_other _ _ _ _ e2 e1, ih]
        congr 1
        repeat' split
        all_goals omega

/-- Where a place's value was, ahead of the turn of two blocks. -/
def rotIx (a m b t : Nat) : Nat := if t < a ∨ b ≤ t then t else if t < a + (b - m) then m + (t - a) else t - (b - m)

/-- d' is d, the blocks [a, m) and [m, b) the other way round. -/
def RotOf (a m b : Nat) (d d' : Array Int) : Prop := d'.size = d.size ∧ ∀ t, d'[t]! = d[rotIx a m b t]!

theorem RotOf.left {d d' : Array Int} {m i j : Nat} (hji : j < i) (hj : 0 < j) (hi : i ≤ m) (hb : m + j ≤ d.size)
    (h : RotOf (m - (i - j)) m (m + j) (swpRange d (m - i) m j) d') : RotOf (m - i) m (m + j) d d' := by
  refine ⟨h.1.trans (size_swpRange _ _ _ _), fun t => ?_⟩
  rw [h.2 t, swpRange_at d (m - i) m j (by omega) hb]
  congr 1
  unfold rotIx
  repeat' split
  all_goals omega

theorem RotOf.right {d d' : Array Int} {m i j : Nat} (hij : i < j) (hi0 : 0 < i) (hi : i ≤ m) (hb : m + j ≤ d.size)
    (h : RotOf (m - i) m (m + (j - i)) (swpRange d (m - i) (m + j - i) i) d') : RotOf (m - i) m (m + j) d d' := by
  refine ⟨h.1.trans (size_swpRange _ _ _ _), fun t => ?_⟩
  rw [h.2 t, swpRange_at d (m - i) (m + j - i) i (by omega) (by omega)]
  congr 1
  unfold rotIx
  repeat' split
  all_goals omega

/-- The order: by a key, falling, then by the number itself. -/
def pr (κ : Int → Int) (x y : Int) : Prop := κ y < κ x ∨ (κ x = κ y ∧ x < y)
theorem pr_trans {κ : Int → Int} {x y z : Int} (h : pr κ x y) (g : pr κ y z) : pr κ x z := by unfold pr at *; omega
def SrtM (κ : Int → Int) (a b : Nat) (d : Array Int) : Prop := ∀ i j, a ≤ i → i < j → j < b → pr κ d[i]! d[j]!
/-- Numbers of the first part are less than those of the second. -/
def Apt (a m b : Nat) (d : Array Int) : Prop := ∀ i j, a ≤ i → i < m → m ≤ j → j < b → d[i]! < d[j]!
theorem SrtM.le {κ : Int → Int} {a b : Nat} {d : Array Int} (h : SrtM κ a b d) {i j : Nat} (hi : a ≤ i) (hij : i ≤ j) (hj : j < b) {z : Int} (hz : pr κ d[j]! z) : pr κ d[i]! z := by
  by_cases e : i = j
  · subst e; exact hz
  · exact pr_trans (h i j hi (by omega) hj) hz
/-- What the search between two sorted parts found, and the row behind the turn. -/
structure Sym (κ : Int → Int) (a m b st : Nat) (d d1 : Array Int) : Prop where
  am : a < m
  mb : m < b
  s1 : SrtM κ a m d
  s2 : SrtM κ m b d
  ap : Apt a m b d
  big : (a + b) / 2 < m → (a + b) / 2 + m - b ≤ st ∧ st ≤ (a + b) / 2
  small : m ≤ (a + b) / 2 → a ≤ st ∧ st ≤ m
  hl : (m ≤ (a + b) / 2 ∧ st = a) ∨ ((a + b) / 2 < m ∧ st = (a + b) / 2 + m - b) ∨ (1 ≤ st ∧ a ≤ st - 1 ∧ ¬ κ d[st - 1]! < κ d[(a + b) / 2 + m - st]!)
  hr : (m ≤ (a + b) / 2 ∧ st = m) ∨ ((a + b) / 2 < m ∧ st = (a + b) / 2) ∨ κ d[st]! < κ d[(a + b) / 2 + m - 1 - st]!
  rot : RotOf st m ((a + b) / 2 + m - st) d d1

namespace Sym
variable {κ : Int → Int} {a m b st : Nat} {d d1 : Array Int}
theorem bounds (h : Sym κ a m b st d d1) : a ≤ st ∧ st ≤ m ∧ st ≤ (a + b) / 2 ∧ m ≤ (a + b) / 2 + m - st ∧ (a + b) / 2 + m - st ≤ b ∧ (a + b) / 2 ≤ (a + b) / 2 + m - st ∧ a ≤ (a + b) / 2 ∧ (a + b) / 2 < b := by
  have := h.am; have := h.mb
  by_cases c : (a + b) / 2 < m
  · have := h.big c; omega
  · have := h.small (by omega); omega
theorem at1 (h : Sym κ a m b st d d1) {t : Nat} (ht : t < st) : d1[t]! = d[t]! := by
  rw [h.rot.2]; congr 1; unfold rotIx; rw [if_pos (by omega)]
theorem at2 (h : Sym κ a m b st d d1) {t : Nat} (h1 : st ≤ t) (h2 : t < (a + b) / 2) : d1[t]! = d[m + (t - st)]! := by
  have := h.bounds
  rw [h.rot.2]; congr 1; unfold rotIx; rw [if_neg (by omega), if_pos (by omega)]
theorem at3 (h : Sym κ a m b st d d1) {t : Nat} (h1 : (a + b) / 2 ≤ t) (h2 : t < (a + b) / 2 + m - st) : d1[t]! = d[t - ((a + b) / 2 - st)]! := by
  have := h.bounds
  rw [h.rot.2]; congr 1; unfold rotIx; rw [if_neg (by omega), if_neg (by omega)]; omega
theorem at4 (h : Sym κ a m b st d d1) {t : Nat} (h1 : (a + b) / 2 + m - st ≤ t) : d1[t]! = d[t]! := by
  rw [h.rot.2]; congr 1; unfold rotIx; rw [if_pos (by omega)]

theorem f1 (h : Sym κ a m b st d d1) : SrtM κ a st d1 := fun i j h1 h2 h3 => by
  have := h.bounds
  rw [h.at1 (by omega), h.at1 (by omega)]; exact h.s1 _ _ h1 h2 (by omega)
theorem f2 (h : Sym κ a m b st d d1) : SrtM κ st ((a + b) / 2) d1 := fun i j h1 h2 h3 => by
  have := h.bounds
  rw [h.at2 h1 (by omega), h.at2 (by omega) h3]; exact h.s2 _ _ (by omega) (by omega) (by omega)
theorem f3 (h : Sym κ a m b st d d1) : Apt a st ((a + b) / 2) d1 := fun i j h1 h2 h3 h4 => by
  have := h.bounds
  rw [h.at1 h2, h.at2 h3 h4]; exact h.ap _ _ h1 (by omega) (by omega) (by omega)
theorem g1 (h : Sym κ a m b st d d1) : SrtM κ ((a + b) / 2) ((a + b) / 2 + m - st) d1 := fun i j h1 h2 h3 => by
  have := h.bounds
  rw [h.at3 h1 (by omega), h.at3 (by omega) h3]; exact h.s1 _ _ (by omega) (by omega) (by omega)
theorem g2 (h : Sym κ a m b st d d1) : SrtM κ ((a + b) / 2 + m - st) b d1 := fun i j h1 h2 h3 => by
  have := h.bounds
  rw [h.at4 h1, h.at4 (by omega)]; exact h.s2 _ _ (by omega) h2 h3
theorem g3 (h : Sym κ a m b st d d1) : Apt ((a + b) / 2) ((a + b) / 2 + m - st) b d1 := fun i j h1 h2 h3 h4 => by
  have := h.bounds
  rw [h.at3 h1 h2, h.at4 h3]; exact h.ap _ _ (by omega) (by omega) (by omega) h4

end Sym

end Go.Proofs.YtgeneoamngfomaaGreatDoor

namespace Go.Proofs.YtgeneoamngfomaaGreatDoor
open Go.RowKit Go.Sort
set_option linter.unusedVariables false

end Go.Proofs.YtgeneoamngfomaaGreatDoor

namespace Go.Proofs.YtgeneoamngfomaaGreatDoor
open Go.RowKit Go.Sort
set_option linter.unusedVariables false

theorem RotOf.up {a k : Nat} {d dk : Array Int} (h : RotOf a (a + 1) (k + 1) d dk) (hk : a ≤ k) (hs : k + 1 < d.size) : RotOf a (a + 1) (k + 2) d (swp dk k (k + 1)) := by
  refine ⟨by rw [size_swp]; exact h.1, fun t => ?_⟩
  have hs1 := h.1
  by_cases e1 : t = k + 1
  · subst e1
    rw [swp_right _ _ _ (by omega), h.2]; congr 1; unfold rotIx; repeat' split
    all_goals omega
  · by_cases e2 : t = k
    · subst e2
      rw [swp_left _ _ _ (by omega) (by omega), h.2]; congr 1; unfold rotIx; repeat' split
      all_goals omega
    · rw [swp_other _ _ _ _ e2 e1, h.2]; congr 1; unfold rotIx; repeat' split
      all_goals omega
theorem RotOf.down {k m : Nat} {d dk : Array Int} (h : RotOf k m (m + 1) d dk) (hk : k ≤ m) (hk0 : 0 < k) (hs : m < d.size) : RotOf (k - 1) m (m + 1) d (swp dk k (k - 1)) := by
  refine ⟨by rw [size_swp]; exact h.1, fun t => ?_⟩
  have hs1 := h.1
  by_cases e1 : t = k - 1
  · subst e1
    rw [swp_right _ _ _ (by omega), h.2]; congr 1; unfold rotIx; repeat' split
    all_goals omega
  · by_cases e2 : t = k
    · subst e2
      rw [swp_left _ _ _ (by omega) (by omega), h.2]; congr 1; unfold rotIx; repeat' split
      all_goals omega
    · rw [swp_other _ _ _ _ e2 e1, h.2]; congr 1; unfold rotIx; repeat' split
      all_goals omega

end Go.Proofs.YtgeneoamngfomaaGreatDoor

namespace Go.Proofs.YtgeneoamngfomaaGreatDoor
open Go.RowKit Go.Sort
set_option linter.unusedVariables false

end Go.Proofs.YtgeneoamngfomaaGreatDoor

namespace Go.Proofs.YtgeneoamngfomaaGreatDoor
open Go.RowKit Go.Sort
set_option linter.unusedVariables false

end Go.Proofs.YtgeneoamngfomaaGreatDoor

namespace Go.Proofs.YtgeneoamngfomaaGreatDoor
open Go.Sort
set_option linter.unusedVariables false

end Go.Proofs.YtgeneoamngfomaaGreatDoor

namespace Go.Proofs.YtgeneoamngfomaaGreatDoor
open Go.RowKit Go.Sort
set_option linter.unusedVariables false

end Go.Proofs.YtgeneoamngfomaaGreatDoor

namespace Go.Proofs.YtgeneoamngfomaaGreatDoor
open Go.RowKit Go.Sort
set_option linter.unusedVariables false

end Go.Proofs.YtgeneoamngfomaaGreatDoor

namespace Go.Proofs.YtgeneoamngfomaaGreatDoor
open Go.RowKit Go.Sort
set_option linter.unusedVariables false

end Go.Proofs.YtgeneoamngfomaaGreatDoor

namespace Go.Proofs.YtgeneoamngfomaaGreatDoor
open Go.RowKit Go.Sort
set_option linter.unusedVariables false

theorem SrtM.ne {κ : Int → Int} {a b : Nat} {d : Array Int} (h : SrtM κ a b d) {i j : Nat} (h1 : a ≤ i) (h2 : i < j) (h3 : j < b) : d[i]! ≠ d[j]! := fun e => by
  have := h i j h1 h2 h3; rw [e] at this; unfold pr at this; omega

end Go.Proofs.YtgeneoamngfomaaGreatDoor

namespace Go.Proofs.YtgeneoamngfomaaGreatDoor
open Go.RowKit Go.Sort
set_option linter.unusedVariables false

end Go.Proofs.YtgeneoamngfomaaGreatDoor

namespace Go.Proofs.YtgeneoamngfomaaGreatDoor
open Go.RowKit Go.Sort
set_option linter.unusedVariables false

end Go.Proofs.YtgeneoamngfomaaGreatDoor

namespace Go.Proofs.YtgeneoamngfomaaGreatDoor
open Go.RowKit Go.Sort
set_option linter.unusedVariables false

end Go.Proofs.YtgeneoamngfomaaGreatDoor

/-
  slices.insertionSortCmpFunc at []int, by giveAway's own order: it is the plain insertion sort of the row; nothing else turns but draws.
-/
import Derived.Test.YtadjhofomabbmaaDoorSmall
import Derived.Sort.Row
import Derived.Sort.LotA
import Derived.CellFam
import Derived.BigGuard
import Derived.BigCall
import Derived.RegionTactic
import Derived.BigRegion
import Derived.Deep.Draws
import Derived.Deep.QuietTactic
import Derived.BigQuiet
namespace Go.Proofs.YtadjhofomabbmaaDoor
open Go.RowKit Go.Sort
set_option linter.unusedVariables false

/-- The world with the row laid, so many draws on. -/
def rowW (w : World) (blk off n : Nat) (d : Array Int) : World := putRow (Value.int .i64) (Sort.ahead w n) blk off d

theorem rowW_start {w : World} {blk off : Nat} {d : Array Int} (h : Holds (Value.int .i64) w blk off d) : w = rowW w blk off 0 d := (putRow_self _ _ _ _ _ h).symm
theorem rowW_cell {w : World} {blk off n : Nat} {d d' : Array Int} (h : Holds (Value.int .i64) w blk off d) (hs : d'.size = d.size) (t : Nat) (ht : t < d.size) :
    (rowW w blk off n d').cell? ⟨blk, off + t, none⟩ = some (.int .i64 d'[t]!) := cell?_putRow _ _ _ _ d d' (holds_ahead _ _ _ _ _ _ h) hs t (by omega)
theorem rowW_frozen {w : World} {blk off n : Nat} {d d' : Array Int} (h : Holds (Value.int .i64) w blk off d) (t : Nat) (ht : t < d.size) :
    (rowW w blk off n d').frozen? ⟨blk, off + t, none⟩ = false := by unfold rowW; rw [frozen?_putRow]; exact ((holds_ahead _ _ n _ _ _ h) t ht).2
theorem rowW_drewN (w : World) (blk off n q : Nat) (d : Array Int) : (rowW w blk off n d).drewN q = rowW w blk off (n + q) d := by
  show Sort.ahead (putRow _ (Sort.ahead w n) blk off d) q = _
  unfold rowW
  rw [putRow_ahead _ w n, ahead_ahead, ← putRow_ahead]
theorem rowW_swap (w : World) (blk off n q : Nat) (d : Array Int) (j k : Nat) (hj : j < d.size) (hk : k < d.size) :
    (((rowW w blk off n d).drewN q).setCell ⟨blk, off + j, none⟩ (.int .i64 d[k]!)).setCell ⟨blk, off + k, none⟩ (.int .i64 d[j]!) = rowW w blk off (n + q) (swp d j k) := by
  rw [rowW_drewN]
  exact putRow_swp (Value.int .i64) _ blk off d j k hj hk

def ltC (cf : Int → Int → Int) (x y : Int) : Bool := decide (cf x y < 0)

theorem insInner_goI (lt : Int → Int → Bool) (a j : Nat) (d : Array Int) (hj : a < j) (hl : lt d[j]! d[j - 1]! = true) : insInner lt a j d = insInner lt a (j - 1) (swp d j (j - 1)) := by
  obtain ⟨k, rfl⟩ : ∃ k, j = k + 1 := ⟨j - 1, by omega⟩
  rw [insInner]
  simp only [Nat.add_sub_cancel] at hl ⊢
  simp [hj, hl]
theorem insInner_stopI (lt : Int → Int → Bool) (a j : Nat) (d : Array Int) (h : j ≤ a ∨ lt d[j]! d[j - 1]! = false) : insInner lt a j d = d := by
  cases j with
  | zero => rw [insInner]
  | succ k =>
    rw [insInner]
    simp only [Nat.add_sub_cancel] at h
    rcases h with h | h
    · simp [show ¬ k + 1 > a by omega]
    · simp [h]

theorem insOuter_goI (lt : Int → Int → Bool) (a b i : Nat) (d : Array Int) (h : i < b) : insOuter lt a b i d = insOuter lt a b (i + 1) (insInner lt a i d) := by rw [insOuter, if_pos h]
theorem swp_all {V : Int → Prop} {d : Array Int} {N i j : Nat} (hN : d.size = N) (h : ∀ t, t < N → V d[t]!) (hi : i < N) (hj : j < N) : ∀ t, t < N → V (swp d i j)[t]! := by
  intro t ht
  by_cases h1 : t = j
  · subst h1; rw [swp_right d i t (by omega)]; exact h i hi
  · by_cases h2 : t = i
    · subst h2; rw [swp_left d t j (by omega) h1]; exact h j hj
    · rw [swp_other d i j t h2 h1]; exact h t ht

end Go.Proofs.YtadjhofomabbmaaDoor

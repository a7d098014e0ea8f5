/-
  amount.Split: what it answers.
-/
import Derived.Test.YtadjhofomabbmaaDoorShare
namespace Go.Proofs.YtadjhofomabbmaaDoor
open Go.RowKit Go.Sort
set_option linter.unusedVariables false

/-- Where the turning of signs stands. -/
structure TurnInv (p : Nat → Int) (w w1 : World) (n k : Nat) (wx : World) : Prop where
  below : Below w.heap.size w wx
  size : w.heap.size < wx.heap.size
  par : ∀ t, t < n → wx.cell? ⟨w.heap.size, 0 + t, none⟩ = some (.int .i64 (if t < k then -(p t) else p t))
  frz : ∀ t, t < n → wx.frozen? ⟨w.heap.size, 0 + t, none⟩ = false

theorem TurnInv.step {p : Nat → Int} {w w1 wx : World} {n k : Nat} (h : TurnInv p w w1 n k wx) (hk : k < n) : TurnInv p w w1 n (k + 1) (wx.setCell ⟨w.heap.size, k, none⟩ (.int .i64 (-(p k)))) := by
  refine ⟨h.below.setCell (Nat.le_refl _) _, by simpa using h.size, fun t ht => ?_, fun t ht => ?_⟩
  · rw [Nat.zero_add]
    have := h.par t ht
    rw [Nat.zero_add] at this
    by_cases e : t = k
    · subst e; rw [cell_same this, if_pos (by omega)]
    · rw [cell_other (addr_ne_off (by omega)), this]
      by_cases c : t < k
      · rw [if_pos c, if_pos (by omega)]
      · rw [if_neg c, if_neg (by omega)]
  · rw [World.frozen?_setCell]; exact h.frz t ht

end Go.Proofs.YtadjhofomabbmaaDoor

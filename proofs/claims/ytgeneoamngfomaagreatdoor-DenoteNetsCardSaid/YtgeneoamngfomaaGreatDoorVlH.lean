/-
  chattellaw08: awake; facts that are told, as lists whose ratios may be.
-/
import Derived.Test.YtgeneoamngfomaaGreatDoorVlG
import Derived.Test.YtgeneoamngfomaaGreatDoorJnA
namespace Go.Proofs.YtgeneoamngfomaaGreatDoor
open Go.RowKit Go.Lib Go.Shelf Go.Maps
set_option linter.unusedVariables false
set_option linter.unusedSimpArgs false

/-- The lists of what is told hold ratios that may be. -/
theorem plF_ok (L : List Tol) (hok : ∀ t ∈ L, t.Ok) : OkL (plF L) := by
  have key : ∀ (L : List Tol), (∀ t ∈ L, t.Ok) → ∀ a, OkL a → OkL (L.foldl (fun a t => if t.c = true then a else if tolE t = 0 then putL a ⟨t.k, t.d, t.x, t.y, 0⟩ else a) a) := by
    intro L
    induction L with
    | nil => exact fun _ a h => h
    | cons x L ih =>
      intro hL a h
      rw [List.foldl_cons]
      refine ih (fun t ht => hL t (by simp [ht])) _ ?_
      by_cases hc : x.c = true
      · rw [if_pos hc]; exact h
      · rw [if_neg hc]
        by_cases he : tolE x = 0
        · rw [if_pos he]
          intro t ht
          rcases mem_put.1 ht with rfl | ⟨ht, _⟩
          · obtain ⟨_, _, hx, hy, _⟩ := hL x (by simp)
            unfold tolE at he
            rw [if_neg hc] at he
            unfold fixE at he
            by_cases hp : plcE x.k x.d = 0
            · rw [if_pos hp] at he
              exact chkE_zero he hx.1 hx.2 hy.2
            · rw [if_neg hp] at he; exact absurd he hp
          · exact h t ht
        · rw [if_neg he]; exact h
  exact key L hok [] (fun t h => by cases h)
theorem ok_mem {L : List Tol} (h : ∀ j, j < L.length → (L.getD j default).Ok) : ∀ t ∈ L, t.Ok := fun t ht => by
  obtain ⟨i, hi, rfl⟩ := List.mem_iff_getElem.1 ht
  have := h i hi
  rw [List.getD_eq_getElem?_getD, List.getElem?_eq_getElem hi] at this
  exact this
end Go.Proofs.YtgeneoamngfomaaGreatDoor

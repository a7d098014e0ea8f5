/-
  Package days: there, leapsAhead, firstOf, Month, Bounds, Weekday: what they answer.
-/
import Derived.Test.YtfeaopaglhlojaaDoorDayA
import Derived.Test.YtfeaopaglhlojaaDoorProg
import Derived.WalkKit
import Derived.PlainAid
import Derived.Below
import Derived.Outline
import Derived.WalkSmall
import Derived.BigQuiet
import Derived.Deep.QuietTactic
import Derived.RegionTactic
namespace Go.Proofs.YtfeaopaglhlojaaDoor
open Go.RowKit Go.Lib
set_option linter.unusedVariables false

/-- The table of months' lengths. -/
structure LenW (w : World) : Prop where
  at_ : ∀ k, k < 12 → w.cell? ⟨1, k, none⟩ = some (.int .i64 (lenT.getD k 0))
theorem cell_lt {w : World} {b i : Nat} {v : Value} (h : w.cell? ⟨b, i, none⟩ = some v) : b < w.heap.size := by
  rcases Nat.lt_or_ge b w.heap.size with g | g
  · exact g
  · simp [World.cell?, Array.getElem?_eq_none g] at h
theorem LenW.keep {w w' : World} (h : LenW w) (hb : Below w.heap.size w w') : LenW w' :=
  ⟨fun k hk => (hb.cell (p := ⟨_, k, none⟩) (cell_lt (h.at_ k hk))).trans (h.at_ k hk)⟩
theorem below_drew (w : World) (n : Nat) : Below w.heap.size w (w.drewN n) := ⟨rfl, rfl, rfl, Nat.le_refl _, fun _ _ => rfl⟩
theorem LenW.drewN {w : World} (h : LenW w) (n : Nat) : LenW (w.drewN n) := h.keep (below_drew w n)

theorem dthere_yes (d : Nat) (w : World) (h : d < 73049) : Calls Tryd.prog 52 #[.int .i64 d] w fun e w' => e = .returned (.bool true) ∧ w = w' := by
  have h0 : (0 : Int) ≤ (d : Int) := by omega
  have h1 : (d : Int) ≤ 73048 := by omega
  go_enter Tryd.func52, Tryd.ntmps52
  go_wp2_with fail
  go_ret
  exact ⟨rfl, rfl⟩
theorem dthere_no (d : Int) (w : World) (h : d < 0 ∨ 73048 < d) : Calls Tryd.prog 52 #[.int .i64 d] w fun e w' => e = .returned (.bool false) ∧ w = w' := by
  rcases h with h | h
  · go_enter Tryd.func52, Tryd.ntmps52
    go_wp2_with fail
    go_ret
    exact ⟨rfl, rfl⟩
  · have h0 : 0 ≤ d := by omega
    have h1 : ¬ d ≤ 73048 := by omega
    go_enter Tryd.func52, Tryd.ntmps52
    go_wp2_with fail
    go_ret
    exact ⟨rfl, rfl⟩

theorem ret_int {a b : Int} (h : a = b) : Ending.returned (.int .i64 a) = .returned (.int .i64 b) := by rw [h]
theorem ediv_of {a b : Int} (h : 0 ≤ a) : a.tdiv b = a / b := Int.tdiv_eq_ediv_of_nonneg h
theorem leaps_any (y : Nat) (hy : y ≤ 1000) (w : World) : Calls Tryd.prog 69 #[.int .i64 y] w fun e w' => e = .returned (.int .i64 (lpN y)) ∧ w = w' := by
  have h1 : ((y : Int) + 3).tdiv 4 = ((y : Int) + 3) / 4 := ediv_of (by omega)
  have h2 : ((y : Int) + 99).tdiv 100 = ((y : Int) + 99) / 100 := ediv_of (by omega)
  have h3 : ((y : Int) + 399).tdiv 400 = ((y : Int) + 399) / 400 := ediv_of (by omega)
  have hl : ((lpN y : Nat) : Int) = ((y : Int) + 3) / 4 - ((y : Int) + 99) / 100 + ((y : Int) + 399) / 400 := by unfold lpN; omega
  rw [hl]
  clear hl
  go_enter Tryd.func69, Tryd.ntmps69
  go_wp2_with fail
  go_ret
  exact ⟨ret_int (by omega), rfl⟩

end Go.Proofs.YtfeaopaglhlojaaDoor

/-
  Plain lists of bits, the least one first: what they are worth, and the one list without noughts at its end. No program.
-/
import Derived.Test.YtjafbfepdmgjnaaGreatDoorLo
import Derived.WalkSpells
import Derived.Deep.DeepCutAuto
import Derived.Deep.LoopGhost
import Derived.StillTailTactics
import Derived.Deep.RegionWith
import Derived.Deep.RegionHeld3
import Derived.OwnWalk
import Derived.Laws.OwnMore
import Derived.Test.YtjafbfepdmgjnaaGreatDoorDv
namespace Go.Proofs.YtjafbfepdmgjnaaGreatDoor
set_option linter.unusedVariables false

def val : List Int → Nat
  | [] => 0
  | x :: l => x.toNat + 2 * val l
end Go.Proofs.YtjafbfepdmgjnaaGreatDoor

namespace Go.Proofs.YtjafbfepdmgjnaaGreatDoor
open Go.RowKit
set_option linter.unusedVariables false

/-- A slice of numbers, wherever it lies; nil too. -/
def SLF (w : World) (a : Option Addr) (l : List Int) : Prop := l = [] ∨ ∃ b o, a = some ⟨b, o, none⟩ ∧ b < w.heap.size ∧ Row w b o l
def SL (w : World) (v : Value) (l : List Int) : Prop := ∃ a cap, v = .slice a l.length cap ∧ l.length ≤ cap ∧ cap ≤ 9223372036854775807 ∧ SLF w a l

theorem SLF.keep {w w' : World} {a : Option Addr} {l : List Int} (h : SLF w a l) (hb : Below w.heap.size w w') : SLF w' a l := by
  rcases h with h | ⟨b, o, rfl, h1, h2⟩
  · exact Or.inl h
  · exact Or.inr ⟨b, o, rfl, Nat.lt_of_lt_of_le h1 hb.size, fun t ht => by rw [hb.cell (p := ⟨b, o + t, none⟩) h1]; exact h2 t ht⟩
theorem SL.keep {w w' : World} {v : Value} {l : List Int} (h : SL w v l) (hb : Below w.heap.size w w') : SL w' v l := by
  obtain ⟨a, cap, rfl, h1, h2, h3⟩ := h
  exact ⟨a, cap, rfl, h1, h2, h3.keep hb⟩
theorem SLF.cell {w : World} {a : Option Addr} {l : List Int} (h : SLF w a l) {t : Nat} (ht : t < l.length) : ∃ b o, a = some ⟨b, o, none⟩ ∧ b < w.heap.size ∧ Row w b o l := by
  rcases h with h | h
  · rw [h] at ht; simp at ht
  · exact h
theorem Own.sl {w : World} {base : Nat} {v : Value} {l : List Int} (h : Own w base v l) : SL w v l := by
  obtain ⟨h1, h2⟩ := h
  have hr := Own.reads ⟨h1, h2⟩
  rcases h2 with ⟨rfl, hn⟩ | ⟨g, cap, cur, rfl, hb, hc, h3, h4, h5, h6⟩
  · have e : l = [] := List.length_eq_zero_iff.1 hn
    subst e
    exact ⟨none, 0, rfl, Nat.le_refl _, by omega, Or.inl rfl⟩
  · unfold maxLen at h4
    refine ⟨some ⟨g, 0, none⟩, cap, rfl, h3, h4, ?_⟩
    rcases hr with ⟨e, _⟩ | ⟨g', cap', e, _, h7, h8⟩
    · cases e
    · simp at e
      obtain ⟨rfl, _⟩ := e
      exact Or.inr ⟨g, 0, rfl, h7, h8⟩

end Go.Proofs.YtjafbfepdmgjnaaGreatDoor

namespace Go.Proofs.YtjafbfepdmgjnaaGreatDoor
open Go.RowKit
set_option linter.unusedVariables false

end Go.Proofs.YtjafbfepdmgjnaaGreatDoor

namespace Go.Proofs.YtjafbfepdmgjnaaGreatDoor
open Go.RowKit
set_option linter.unusedVariables false

theorem Own.setCell {w : World} {base : Nat} {v : Value} {l : List Int} (h : Own w base v l) {p : Addr} (hp : p.block < base) (u : Value) : Own (w.setCell p u) base v l := by
  obtain ⟨h1, h2⟩ := h
  refine ⟨h1, ?_⟩
  rcases h2 with h2 | ⟨g, cap, cur, rfl, hb, hc, h3⟩
  · exact Or.inl h2
  · exact Or.inr ⟨g, cap, cur, rfl, hb, by rw [Below.heap_setCell _ _ _ _ (by omega)]; exact hc, h3⟩

end Go.Proofs.YtjafbfepdmgjnaaGreatDoor

namespace Go.Proofs.YtjafbfepdmgjnaaGreatDoor
open Go.RowKit
set_option linter.unusedVariables false

/-- A store into a cell that holds no number leaves a slice of numbers as it was. -/
theorem SL.setCell {w : World} {v : Value} {l : List Int} (h : SL w v l) {p : Addr} {u : Value} (hu : w.cell? p = some u) (hn : ∀ n, u ≠ .int .i64 n) (x : Value) : SL (w.setCell p x) v l := by
  obtain ⟨a, c, rfl, h1, h2, h3⟩ := h
  refine ⟨a, c, rfl, h1, h2, ?_⟩
  rcases h3 with h3 | ⟨b, o, rfl, h4, h5⟩
  · exact Or.inl h3
  · refine Or.inr ⟨b, o, rfl, by simpa using h4, fun t ht => ?_⟩
    rw [cell_other (fun e => ?_)]
    · exact h5 t ht
    · have := h5 t ht
      rw [← e, hu] at this
      simp at this
      exact hn _ this

end Go.Proofs.YtjafbfepdmgjnaaGreatDoor

namespace Go.Proofs.YtjafbfepdmgjnaaGreatDoor
open Go.RowKit
set_option linter.unusedVariables false

end Go.Proofs.YtjafbfepdmgjnaaGreatDoor

namespace Go.Proofs.YtjafbfepdmgjnaaGreatDoor
open Go.RowKit
set_option linter.unusedVariables false

theorem Own.base {w : World} {b b' : Nat} {v : Value} {l : List Int} (h : Own w b v l) (hb : b' ≤ b) : Own w b' v l := by
  obtain ⟨h1, h2⟩ := h
  refine ⟨h1, ?_⟩
  rcases h2 with h2 | ⟨g, cap, cur, e, hg, h3⟩
  · exact Or.inl h2
  · exact Or.inr ⟨g, cap, cur, e, Nat.le_trans hb hg, h3⟩

end Go.Proofs.YtjafbfepdmgjnaaGreatDoor

namespace Go.Proofs.YtjafbfepdmgjnaaGreatDoor
open Go.RowKit
set_option linter.unusedVariables false

end Go.Proofs.YtjafbfepdmgjnaaGreatDoor

namespace Go.Proofs.YtjafbfepdmgjnaaGreatDoor
open Go.RowKit

end Go.Proofs.YtjafbfepdmgjnaaGreatDoor

namespace Go.Proofs.YtjafbfepdmgjnaaGreatDoor
open Go.RowKit
set_option linter.unusedVariables false

end Go.Proofs.YtjafbfepdmgjnaaGreatDoor

namespace Go.Proofs.YtjafbfepdmgjnaaGreatDoor
open Go.RowKit
set_option linter.unusedVariables false

end Go.Proofs.YtjafbfepdmgjnaaGreatDoor

namespace Go.Proofs.YtjafbfepdmgjnaaGreatDoor
open Go.RowKit
set_option linter.unusedVariables false

end Go.Proofs.YtjafbfepdmgjnaaGreatDoor

namespace Go.Proofs.YtjafbfepdmgjnaaGreatDoor
open Go.RowKit
set_option linter.unusedVariables false

theorem SL.len {w : World} {a : Option Addr} {n c : Nat} {l : List Int} (h : SL w (.slice a n c) l) : n = l.length ∧ SLF w a l := by
  obtain ⟨a', c', e, h1, h2, h3⟩ := h
  injection e with e1 e2 e3
  subst e1
  exact ⟨e2, h3⟩
end Go.Proofs.YtjafbfepdmgjnaaGreatDoor

namespace Go.Proofs.YtjafbfepdmgjnaaGreatDoor
open Go.RowKit
set_option linter.unusedVariables false

end Go.Proofs.YtjafbfepdmgjnaaGreatDoor

namespace Go.Proofs.YtjafbfepdmgjnaaGreatDoor
open Go.RowKit
set_option linter.unusedVariables false

end Go.Proofs.YtjafbfepdmgjnaaGreatDoor

namespace Go.Proofs.YtjafbfepdmgjnaaGreatDoor
open Go.RowKit
set_option linter.unusedVariables false

end Go.Proofs.YtjafbfepdmgjnaaGreatDoor

/-
  slices.stableCmpFunc at []int, from 20 to 64 numbers (see Stable).
-/
import Derived.Test.YtadjhofomabbmaaDoorStable
namespace Go.Proofs.YtadjhofomabbmaaDoor
open Go.RowKit Go.Sort
set_option linter.unusedVariables false

/-- A row on its way: how long it is, what its numbers are. -/
def Way (V : Int → Prop) (N : Nat) (d : Array Int) : Prop := d.size = N ∧ ∀ t, t < N → V d[t]!
/-- All from here on stand at their own places. -/
def Idt (N c : Nat) (d : Array Int) : Prop := ∀ t, c ≤ t → t < N → d[t]! = (t : Int)
def Same (a b : Nat) (d d' : Array Int) : Prop := ∀ t, t < a ∨ b ≤ t → d'[t]! = d[t]!
theorem Idt.keep {N a b c : Nat} {d d' : Array Int} (h : Idt N c d) (hs : Same a b d d') (hb : b ≤ c) : Idt N c d' := fun t h1 h2 => by rw [hs t (Or.inr (by omega))]; exact h t h1 h2
theorem Idt.on {N c c' : Nat} {d : Array Int} (h : Idt N c d) (hc : c ≤ c') : Idt N c' d := fun t h1 h2 => h t (by omega) h2
theorem Seg.keep {κ : Int → Int} {a b p q : Nat} {d d' : Array Int} (h : Seg κ p q d) (hs : Same a b d d') (hb : q ≤ a ∨ b ≤ p) : Seg κ p q d' := h.of_eq (fun t h1 h2 => hs t (by omega))

/-- What a step leaves, by names. -/
def StepP (κ : Int → Int) (V : Int → Prop) (w : World) (blk off N a b : Nat) (d : Array Int) (e : Ending) (w' : World) : Prop :=
  e = .returned (.tuple #[]) ∧ ∃ q d', w' = rowW w blk off q d' ∧ Way V N d' ∧ Seg κ a b d' ∧ Same a b d d'
theorem stepP {κ : Int → Int} {V : Int → Prop} {w : World} {blk off N a b : Nat} {d : Array Int} {e : Ending} {w' : World} (h : StepPost κ V w blk off N a b d e w') : StepP κ V w blk off N a b d e w' := by
  obtain ⟨rfl, q, d', rfl, h1, h2, h3, h4⟩ := h
  exact ⟨rfl, q, d', rfl, ⟨h1, h2⟩, h3, h4⟩

end Go.Proofs.YtadjhofomabbmaaDoor

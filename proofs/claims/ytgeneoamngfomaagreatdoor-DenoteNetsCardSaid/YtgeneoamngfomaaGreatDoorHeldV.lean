/-
  Blocks of values that are kept; numbers' shapes.
-/
import Derived.Test.YtgeneoamngfomaaGreatDoorRf
import Derived.Deep.RegionHeld3
namespace Go.Proofs.YtgeneoamngfomaaGreatDoor
open Go.RowKit
set_option linter.unusedVariables false

/-- Blocks that hold values. -/
structure HeldV (w wx : World) (L : List (Nat × List Value)) : Prop where
  bel : Below w.heap.size w wx
  all : ∀ t ∈ L, t.1 < wx.heap.size ∧ w.heap.size ≤ t.1 ∧ ∀ i v, t.2[i]? = some v → wx.cell? ⟨t.1, i, none⟩ = some v ∧ wx.frozen? ⟨t.1, i, none⟩ = false
theorem HeldV.nil (w : World) : HeldV w w [] := ⟨Below.refl _ _, fun _ h => by cases h⟩
theorem HeldV.keep {w wx w1 : World} {L : List (Nat × List Value)} (h : HeldV w wx L) (hb : Below wx.heap.size wx w1) : HeldV w w1 L :=
  ⟨h.bel.trans (hb.mono h.bel.size), fun t ht => by
    obtain ⟨h1, h0, h2⟩ := h.all t ht
    exact ⟨Nat.lt_of_lt_of_le h1 hb.size, h0, fun i v hv => ⟨(hb.cell (p := ⟨t.1, i, none⟩) h1).trans (h2 i v hv).1, (hb.frozen (p := ⟨t.1, i, none⟩) h1).trans (h2 i v hv).2⟩⟩⟩
theorem HeldV.push {w wx : World} {L : List (Nat × List Value)} (h : HeldV w wx L) (l : List Value) (e : TypeId) : HeldV w (wx.alloc (.cells l.toArray e)) ((wx.heap.size, l) :: L) := by
  have hb : Below wx.heap.size wx (wx.alloc (.cells l.toArray e)) := Below.alloc (Below.refl _ _) (Nat.le_refl _) _
  have h' := h.keep hb
  refine ⟨h'.bel, fun t ht => ?_⟩
  rcases List.mem_cons.1 ht with rfl | ht
  · refine ⟨by simp, h.bel.size, fun i v hv => ⟨?_, World.frozen?_alloc_at _ _ _ _ rfl⟩⟩
    rw [World.cell?_alloc_at _ _ _ _ rfl]; simpa using hv
  · exact h'.all t ht
theorem HeldV.get {w wx : World} {L : List (Nat × List Value)} (h : HeldV w wx L) (i : Nat) {Q : Nat} {l : List Value} (hi : L[i]? = some (Q, l)) (j : Nat) {v : Value} (hj : l[j]? = some v) : wx.cell? ⟨Q, j, none⟩ = some v ∧ wx.frozen? ⟨Q, j, none⟩ = false :=
  (h.all _ (List.mem_of_getElem? hi)).2.2 j v hj
theorem HeldV.lt {w wx : World} {L : List (Nat × List Value)} (h : HeldV w wx L) (i : Nat) {Q : Nat} {l : List Value} (hi : L[i]? = some (Q, l)) : Q < wx.heap.size := (h.all _ (List.mem_of_getElem? hi)).1

/-- A number's shape. -/
theorem BigV.shape {w : World} {v : Value} {z : Int} (h : BigV w v z) : ∃ s a n c, v = .agg #[.bool s, .slice a n c] ∧ BigV w (.agg #[.bool s, .slice a n c]) z := by
  obtain ⟨a, c, e, _⟩ := h.open
  exact ⟨_, a, _, c, e, e ▸ h⟩
/-- Stores of bools and slices keep what numbers read. -/
theorem BigV.set {w : World} {v : Value} {z : Int} (h : BigV w v z) {p : Addr} {u : Value} (hu : w.cell? p = some u) (hn : ∀ n, u ≠ .int .i64 n) (x : Value) : BigV (w.setCell p x) v z := by
  obtain ⟨s, e, hs⟩ := h
  exact ⟨s, e, hs.setCell hu hn x⟩
theorem HeldV.two (w : World) (l l' : List Value) (e e' : TypeId) : HeldV w ((w.alloc (.cells l.toArray e)).alloc (.cells l'.toArray e')) [(w.heap.size + 1, l'), (w.heap.size, l)] := by
  have h := ((HeldV.nil w).push l e).push l' e'
  have z1 : (w.alloc (.cells l.toArray e)).heap.size = w.heap.size + 1 := by simp
  rw [z1] at h
  exact h
theorem undrewB {w w' : World} (h : Below w.drew.heap.size w.drew w') : Below w.heap.size w w' := ⟨h.os, h.tape, h.output, h.size, h.block⟩

theorem lim_up {k m x : Nat} (h : k ≤ m) (l : x < 2 ^ k) : x < 2 ^ m := Nat.lt_of_lt_of_le l (Nat.pow_le_pow_right (by decide) h)
end Go.Proofs.YtgeneoamngfomaaGreatDoor

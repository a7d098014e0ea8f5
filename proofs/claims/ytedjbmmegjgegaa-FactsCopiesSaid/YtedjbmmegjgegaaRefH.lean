/-
  chattellaw01's fits; chattelref01's Sum.
-/
import Derived.Test.YtedjbmmegjgegaaRefG
namespace Go.Proofs.Ytedjbmmegjgegaa
open Go.RowKit

/-- The cells that Sum keeps its number in, and those of its result. -/
structure SumI (w wx : World) (z : Int) (sg : Bool) (a : Option Addr) (n c : Nat) : Prop where
  r0 : wx.cell? ⟨w.heap.size, 0, none⟩ = some (.bool false)
  r1 : wx.cell? ⟨w.heap.size, 1, none⟩ = some (.slice none 0 0)
  f0 : wx.frozen? ⟨w.heap.size, 0, none⟩ = false
  f1 : wx.frozen? ⟨w.heap.size, 1, none⟩ = false
  o0 : wx.cell? ⟨w.heap.size + 1, 0, none⟩ = some (.bool sg)
  o1 : wx.cell? ⟨w.heap.size + 1, 1, none⟩ = some (.slice a n c)
  g0 : wx.frozen? ⟨w.heap.size + 1, 0, none⟩ = false
  g1 : wx.frozen? ⟨w.heap.size + 1, 1, none⟩ = false
  big : BigV wx (.agg #[.bool sg, .slice a n c]) z
  bel : Below w.heap.size w wx
  sz : w.heap.size + 2 ≤ wx.heap.size
theorem SumI.keep {w wx w1 : World} {z : Int} {sg : Bool} {a : Option Addr} {n c : Nat} (h : SumI w wx z sg a n c) (hb : Below wx.heap.size wx w1) : SumI w w1 z sg a n c := by
  have hs := h.sz
  have hs1 := hb.size
  have hc : ∀ b i, b ≤ w.heap.size + 1 → w1.cell? ⟨b, i, none⟩ = wx.cell? ⟨b, i, none⟩ := fun b i hb' => hb.cell (p := ⟨b, i, none⟩) (show b < wx.heap.size by omega)
  have hf : ∀ b i, b ≤ w.heap.size + 1 → w1.frozen? ⟨b, i, none⟩ = wx.frozen? ⟨b, i, none⟩ := fun b i hb' => hb.frozen (p := ⟨b, i, none⟩) (show b < wx.heap.size by omega)
  exact ⟨(hc _ _ (by omega)).trans h.r0, (hc _ _ (by omega)).trans h.r1, (hf _ _ (by omega)).trans h.f0, (hf _ _ (by omega)).trans h.f1, (hc _ _ (by omega)).trans h.o0, (hc _ _ (by omega)).trans h.o1, (hf _ _ (by omega)).trans h.g0, (hf _ _ (by omega)).trans h.g1, h.big.keep hb, h.bel.trans (hb.mono (by omega)), by omega⟩
theorem bigv_sign {w : World} {sg : Bool} {v : Value} {z : Int} (h : BigV w (.agg #[.bool sg, v]) z) : sg = decide (z < 0) ∧ SL w v (bitsN z.natAbs) := by
  obtain ⟨s, e, hs⟩ := h
  simp at e
  obtain ⟨e1, e2⟩ := e
  subst e2
  exact ⟨e1, hs⟩
theorem SumI.store {w w1 : World} {z z' : Int} {sg sg' : Bool} {a a' : Option Addr} {n c n' c' : Nat} (h : SumI w w1 z sg a n c) (hb : BigV w1 (.agg #[.bool sg', .slice a' n' c']) z') :
    SumI w ((w1.setCell ⟨w.heap.size + 1, 0, none⟩ (.bool sg')).setCell ⟨w.heap.size + 1, 1, none⟩ (.slice a' n' c')) z' sg' a' n' c' := by
  have hs := h.sz
  obtain ⟨e1, e2⟩ := bigv_sign hb
  refine ⟨?_, ?_, ?_, ?_, ?_, ?_, ?_, ?_, big_stored e1 e2 h.o0 h.o1, Below.setCell (Below.setCell h.bel (show w.heap.size ≤ w.heap.size + 1 by omega) _) (show w.heap.size ≤ w.heap.size + 1 by omega) _, by simpa using hs⟩
  · rw [cell_other (by intro e; simp at e), cell_other (by intro e; simp at e)]; exact h.r0
  · rw [cell_other (by intro e; simp at e), cell_other (by intro e; simp at e)]; exact h.r1
  · simpa using h.f0
  · simpa using h.f1
  · rw [cell_other (by intro e; simp at e)]; exact cell_same h.o0
  · exact cell_same (u := .slice a n c) (by rw [cell_other (by intro e; simp at e)]; exact h.o1)
  · simpa using h.g0
  · simpa using h.g1

theorem pow_big (k : Nat) (hk : 80 ≤ k) {n : Nat} (hn : n < 1208925819614629174706176) : n < 2 ^ k := by
  have h2 : (2 : Nat) ^ 80 ≤ 2 ^ k := Nat.pow_le_pow_right (by omega) hk
  have h3 : (2 : Nat) ^ 80 = 1208925819614629174706176 := by decide
  rw [h3] at h2
  exact Nat.lt_of_lt_of_le hn h2
theorem sum_lim {l : List Int} (h : InI l) {k : Nat} (hk : k ≤ 1000) : (sumK l k).natAbs < 2 ^ 1000 := by
  have h1 := sumK_bd h k
  exact pow_big 1000 (by decide) (by omega)
theorem int_lim {n : Int} (b0 : -9223372036854775808 ≤ n) (b1 : n ≤ 9223372036854775807) : n.natAbs < 2 ^ 1000 := pow_big 1000 (by decide) (by omega)

end Go.Proofs.Ytedjbmmegjgegaa

/-
  chattelref01's Near: the cells that it keeps.
-/
import Derived.Test.YtedjbmmegjgegaaNearA
namespace Go.Proofs.Ytedjbmmegjgegaa
open Go.RowKit
set_option linter.unusedVariables false

/-- The cells that Near keeps: its arguments, its result, the quotient (at Q) and what is left (behind it). -/
structure NearW (w wx : World) (Q : Nat) (sa sb : Bool) (b : Option Addr) (m d : Nat) (sq : Bool) (qa : Option Addr) (qn qc : Nat) (ra : Option Addr) (rn rc : Nat) (N R : Nat) : Prop where
  a0 : wx.cell? ⟨w.heap.size, 0, none⟩ = some (.bool sa)
  b0 : wx.cell? ⟨w.heap.size + 1, 0, none⟩ = some (.bool sb)
  b1 : wx.cell? ⟨w.heap.size + 1, 1, none⟩ = some (.slice b m d)
  r0 : wx.cell? ⟨w.heap.size + 1 + 1, 0, none⟩ = some (.bool false)
  r1 : wx.cell? ⟨w.heap.size + 1 + 1, 1, none⟩ = some (.slice none 0 0)
  f0 : wx.frozen? ⟨w.heap.size + 1 + 1, 0, none⟩ = false
  f1 : wx.frozen? ⟨w.heap.size + 1 + 1, 1, none⟩ = false
  q0 : wx.cell? ⟨Q, 0, none⟩ = some (.bool sq)
  q1 : wx.cell? ⟨Q, 1, none⟩ = some (.slice qa qn qc)
  g0 : wx.frozen? ⟨Q, 0, none⟩ = false
  g1 : wx.frozen? ⟨Q, 1, none⟩ = false
  t1 : wx.cell? ⟨Q + 1, 1, none⟩ = some (.slice ra rn rc)
  bq : SL wx (.slice qa qn qc) (bitsN N)
  br : SL wx (.slice ra rn rc) (bitsN R)
  bel : Below w.heap.size w wx
  lq : w.heap.size + 3 ≤ Q
  sz : Q + 2 ≤ wx.heap.size

theorem NearW.keep {w wx w1 : World} {Q : Nat} {sa sb : Bool} {b : Option Addr} {m d : Nat} {sq : Bool} {qa : Option Addr} {qn qc : Nat} {ra : Option Addr} {rn rc N R : Nat} (h : NearW w wx Q sa sb b m d sq qa qn qc ra rn rc N R) (hb : Below wx.heap.size wx w1) : NearW w w1 Q sa sb b m d sq qa qn qc ra rn rc N R := by
  have hs := h.sz
  have hl := h.lq
  have hs1 := hb.size
  have hc : ∀ b i, b < Q + 2 → w1.cell? ⟨b, i, none⟩ = wx.cell? ⟨b, i, none⟩ := fun b i hb' => hb.cell (p := ⟨b, i, none⟩) (show b < wx.heap.size by omega)
  have hf : ∀ b i, b < Q + 2 → w1.frozen? ⟨b, i, none⟩ = wx.frozen? ⟨b, i, none⟩ := fun b i hb' => hb.frozen (p := ⟨b, i, none⟩) (show b < wx.heap.size by omega)
  exact ⟨(hc _ _ (by omega)).trans h.a0, (hc _ _ (by omega)).trans h.b0, (hc _ _ (by omega)).trans h.b1, (hc _ _ (by omega)).trans h.r0, (hc _ _ (by omega)).trans h.r1, (hf _ _ (by omega)).trans h.f0, (hf _ _ (by omega)).trans h.f1,
    (hc _ _ (by omega)).trans h.q0, (hc _ _ (by omega)).trans h.q1, (hf _ _ (by omega)).trans h.g0, (hf _ _ (by omega)).trans h.g1, (hc _ _ (by omega)).trans h.t1, h.bq.keep hb, h.br.keep hb, h.bel.trans (hb.mono (by omega)), h.lq, by omega⟩

/-- The quotient, stored anew. -/
theorem NearW.store {w wx : World} {Q : Nat} {sa sb : Bool} {b : Option Addr} {m d : Nat} {sq : Bool} {qa : Option Addr} {qn qc : Nat} {ra : Option Addr} {rn rc N R : Nat} (h : NearW w wx Q sa sb b m d sq qa qn qc ra rn rc N R) (s : Bool) {pa : Option Addr} {pn pc N' : Nat} (hp : SL wx (.slice pa pn pc) (bitsN N')) :
    NearW w ((wx.setCell ⟨Q, 0, none⟩ (.bool s)).setCell ⟨Q, 1, none⟩ (.slice pa pn pc)) Q sa sb b m d s pa pn pc ra rn rc N' R := by
  have hl := h.lq
  have ne : ∀ (b i : Nat), b ≠ Q → ((wx.setCell ⟨Q, 0, none⟩ (.bool s)).setCell ⟨Q, 1, none⟩ (.slice pa pn pc)).cell? ⟨b, i, none⟩ = wx.cell? ⟨b, i, none⟩ := fun b i hb => by
    rw [cell_other (by intro e; injection e with e; exact hb e.symm), cell_other (by intro e; injection e with e; exact hb e.symm)]
  have e1 : (wx.setCell ⟨Q, 0, none⟩ (.bool s)).cell? ⟨Q, 1, none⟩ = some (.slice qa qn qc) := by rw [cell_other (by intro e; simp at e)]; exact h.q1
  have keep : ∀ v l, SL wx v l → SL ((wx.setCell ⟨Q, 0, none⟩ (.bool s)).setCell ⟨Q, 1, none⟩ (.slice pa pn pc)) v l := fun v l hv =>
    (hv.setCell h.q0 (by intro n; simp) _).setCell (u := .slice qa qn qc) e1 (by intro n; simp) _
  refine ⟨(ne _ _ (by omega)).trans h.a0, (ne _ _ (by omega)).trans h.b0, (ne _ _ (by omega)).trans h.b1, (ne _ _ (by omega)).trans h.r0, (ne _ _ (by omega)).trans h.r1, by simpa using h.f0, by simpa using h.f1, ?_, ?_, by simpa using h.g0, by simpa using h.g1, (ne _ _ (by omega)).trans h.t1, keep _ _ hp, keep _ _ h.br, Below.setCell (Below.setCell h.bel (show w.heap.size ≤ Q by omega) _) (show w.heap.size ≤ Q by omega) _, h.lq, by simpa using h.sz⟩
  · rw [cell_other (by intro e; simp at e)]; exact cell_same h.q0
  · exact cell_same e1
/-- The sign, stored. -/
theorem NearW.sign {w wx : World} {Q : Nat} {sa sb : Bool} {b : Option Addr} {m d : Nat} {sq : Bool} {qa : Option Addr} {qn qc : Nat} {ra : Option Addr} {rn rc N R : Nat} (h : NearW w wx Q sa sb b m d sq qa qn qc ra rn rc N R) (s : Bool) :
    NearW w (wx.setCell ⟨Q, 0, none⟩ (.bool s)) Q sa sb b m d s qa qn qc ra rn rc N R := by
  have hl := h.lq
  have ne : ∀ (b i : Nat), b ≠ Q → (wx.setCell ⟨Q, 0, none⟩ (.bool s)).cell? ⟨b, i, none⟩ = wx.cell? ⟨b, i, none⟩ := fun b i hb => cell_other (by intro e; injection e with e; exact hb e.symm)
  refine ⟨(ne _ _ (by omega)).trans h.a0, (ne _ _ (by omega)).trans h.b0, (ne _ _ (by omega)).trans h.b1, (ne _ _ (by omega)).trans h.r0, (ne _ _ (by omega)).trans h.r1, by simpa using h.f0, by simpa using h.f1, cell_same h.q0, ?_, by simpa using h.g0, by simpa using h.g1, (ne _ _ (by omega)).trans h.t1, h.bq.setCell h.q0 (by intro n; simp) _, h.br.setCell h.q0 (by intro n; simp) _, Below.setCell h.bel (show w.heap.size ≤ Q by omega) _, h.lq, by simpa using h.sz⟩
  rw [cell_other (by intro e; simp at e)]; exact h.q1

theorem bigv_nat {w : World} {v : Value} {x : Nat} (h : BigV w v (x : Int)) : ∃ a n c, v = .agg #[.bool false, .slice a n c] ∧ SL w (.slice a n c) (bitsN x) := by
  obtain ⟨s, rfl, hs⟩ := h
  rw [Int.natAbs_natCast] at hs
  obtain ⟨a, c, rfl, h1⟩ := id hs
  exact ⟨a, _, c, by rw [show decide ((x : Int) < 0) = false from decide_eq_false (by omega)], hs⟩

/-- What Near's cells are behind the call of Parts. -/
theorem near_start {w w1 : World} {sa sb : Bool} {a : Option Addr} {n c : Nat} {b : Option Addr} {m d : Nat} {e e' : TypeId} {qa : Option Addr} {qn qc : Nat} {ra : Option Addr} {rn rc N R : Nat}
    (hb : Below (((w.alloc (.cells #[.bool sa, .slice a n c] e)).alloc (.cells #[.bool sb, .slice b m d] e)).alloc (.cells #[.bool false, .slice none 0 0] e)).heap.size (((w.alloc (.cells #[.bool sa, .slice a n c] e)).alloc (.cells #[.bool sb, .slice b m d] e)).alloc (.cells #[.bool false, .slice none 0 0] e)) w1)
    (hq : SL w1 (.slice qa qn qc) (bitsN N)) (hr : SL w1 (.slice ra rn rc) (bitsN R)) :
    NearW w ((w1.alloc (.cells #[.bool false, .slice qa qn qc] e')).alloc (.cells #[.bool false, .slice ra rn rc] e')) w1.heap.size sa sb b m d false qa qn qc ra rn rc N R := by
  obtain ⟨k0, k1, k2, k3, k4, k5, k6, k7, k8⟩ := after3p hb
  have hw : Below w.heap.size w w1 := (drewN_below3 w _ _ _ 0).trans (hb.mono (by simp; omega))
  have z1 : (w1.alloc (.cells #[.bool false, .slice qa qn qc] e')).heap.size = w1.heap.size + 1 := by simp
  have b2 : Below w1.heap.size w1 ((w1.alloc (.cells #[.bool false, .slice qa qn qc] e')).alloc (.cells #[.bool false, .slice ra rn rc] e')) := Below.alloc (Below.alloc (Below.refl _ _) (Nat.le_refl _) _) (by simp) _
  have hc : ∀ b i, b < w1.heap.size → ((w1.alloc (.cells #[.bool false, .slice qa qn qc] e')).alloc (.cells #[.bool false, .slice ra rn rc] e')).cell? ⟨b, i, none⟩ = w1.cell? ⟨b, i, none⟩ := fun b i h => b2.cell (p := ⟨b, i, none⟩) h
  have hf : ∀ b i, b < w1.heap.size → ((w1.alloc (.cells #[.bool false, .slice qa qn qc] e')).alloc (.cells #[.bool false, .slice ra rn rc] e')).frozen? ⟨b, i, none⟩ = w1.frozen? ⟨b, i, none⟩ := fun b i h => b2.frozen (p := ⟨b, i, none⟩) h
  refine ⟨(hc _ _ (by omega)).trans k0, (hc _ _ (by omega)).trans k2, (hc _ _ (by omega)).trans k3, (hc _ _ (by omega)).trans k4, (hc _ _ (by omega)).trans k5, (hf _ _ (by omega)).trans k6, (hf _ _ (by omega)).trans k7, ?_, ?_, ?_, ?_, ?_, hq.keep b2, hr.keep b2, hw.trans (b2.mono hw.size), k8, by simp⟩
  · rw [World.cell?_alloc_past _ _ _ (by rw [z1]; show w1.heap.size < w1.heap.size + 1; omega)]; exact new_at rfl
  · rw [World.cell?_alloc_past _ _ _ (by rw [z1]; show w1.heap.size < w1.heap.size + 1; omega)]; exact new_at rfl
  · rw [World.frozen?_alloc_past _ _ _ (by rw [z1]; show w1.heap.size < w1.heap.size + 1; omega)]; exact World.frozen?_alloc_at _ _ _ _ rfl
  · rw [World.frozen?_alloc_past _ _ _ (by rw [z1]; show w1.heap.size < w1.heap.size + 1; omega)]; exact World.frozen?_alloc_at _ _ _ _ rfl
  · rw [← z1]; exact new_at rfl

end Go.Proofs.Ytedjbmmegjgegaa

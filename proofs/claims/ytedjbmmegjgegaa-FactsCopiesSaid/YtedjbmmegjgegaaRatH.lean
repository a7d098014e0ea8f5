/-
  Package ratio: the closures of Add, Sub, Mul, Div.
-/
import Derived.Test.YtedjbmmegjgegaaRatG
namespace Go.Proofs.Ytedjbmmegjgegaa
open Go.RowKit
set_option linter.unusedVariables false

theorem OkR.opp {n d : Int} (h : OkR n d) : OkR (-n) d := ⟨h.d0, h.d1, by have := h.n1; omega, by have := h.n0; omega, by rw [Int.gcd_comm, Int.gcd_neg, Int.gcd_comm]; exact h.g⟩
theorem rat_opp (n d : Int) : rat (-n) d = -rat n d := (Rat.neg_divInt n d).symm
theorem OkR.inv {n d : Int} (h : OkR n d) (hn : n ≠ 0) : OkR (sgn (decide (n < 0)) d) (absI n) := by
  obtain ⟨d0, d1, n0, n1, g⟩ := h
  have e : Int.gcd (sgn (decide (n < 0)) d) (absI n) = Int.gcd n d := by
    rw [Int.gcd_comm n d]
    unfold sgn absI Int.gcd
    split <;> simp
  refine ⟨by unfold absI; omega, by unfold absI; omega, ?_, ?_, by rw [e]; exact g⟩
  · unfold sgn; split <;> omega
  · unfold sgn; split <;> omega
theorem rat_inv {n d : Int} : rat (sgn (decide (n < 0)) d) (absI n) = (rat n d)⁻¹ := by
  unfold rat
  rw [Rat.inv_divInt]
  by_cases h : n < 0
  · rw [decide_eq_true h, absI_neg h]; exact Rat.neg_divInt_neg _ _
  · rw [decide_eq_false h, absI_nonneg (by omega)]; rfl

/-- A closure's cells: two ratios that it captured, and its result in a new block. -/
structure Cl2 (w wx : World) (A B : Nat) (na da nb db : Int) : Prop where
  a0 : wx.cell? ⟨A, 0, none⟩ = some (.int .i64 na)
  a1 : wx.cell? ⟨A, 1, none⟩ = some (.int .i64 da)
  b0 : wx.cell? ⟨B, 0, none⟩ = some (.int .i64 nb)
  b1 : wx.cell? ⟨B, 1, none⟩ = some (.int .i64 db)
  r0 : wx.cell? ⟨w.heap.size, 0, none⟩ = some (.int .i64 0)
  r1 : wx.cell? ⟨w.heap.size, 1, none⟩ = some (.int .i64 0)
  f0 : wx.frozen? ⟨w.heap.size, 0, none⟩ = false
  f1 : wx.frozen? ⟨w.heap.size, 1, none⟩ = false
  bel : Below w.heap.size w wx
  la : A < w.heap.size
  lb : B < w.heap.size
  sz : w.heap.size + 1 ≤ wx.heap.size
theorem Cl2.keep {w wx w1 : World} {A B : Nat} {na da nb db : Int} (h : Cl2 w wx A B na da nb db) (hb : Below wx.heap.size wx w1) : Cl2 w w1 A B na da nb db := by
  have hs := h.sz
  have hs1 := hb.size
  have la := h.la
  have lb := h.lb
  have hc : ∀ b i, b < w.heap.size + 1 → w1.cell? ⟨b, i, none⟩ = wx.cell? ⟨b, i, none⟩ := fun b i hb' => hb.cell (p := ⟨b, i, none⟩) (show b < wx.heap.size by omega)
  have hf : ∀ b i, b < w.heap.size + 1 → w1.frozen? ⟨b, i, none⟩ = wx.frozen? ⟨b, i, none⟩ := fun b i hb' => hb.frozen (p := ⟨b, i, none⟩) (show b < wx.heap.size by omega)
  exact ⟨(hc _ _ (by omega)).trans h.a0, (hc _ _ (by omega)).trans h.a1, (hc _ _ (by omega)).trans h.b0, (hc _ _ (by omega)).trans h.b1, (hc _ _ (by omega)).trans h.r0, (hc _ _ (by omega)).trans h.r1, (hf _ _ (by omega)).trans h.f0, (hf _ _ (by omega)).trans h.f1, h.bel.trans (hb.mono (by omega)), la, lb, by omega⟩
theorem Cl2.start {w : World} {A B : Nat} {na da nb db : Int} (e : TypeId) (la : A < w.heap.size) (lb : B < w.heap.size) (a0 : w.cell? ⟨A, 0, none⟩ = some (.int .i64 na)) (a1 : w.cell? ⟨A, 1, none⟩ = some (.int .i64 da)) (b0 : w.cell? ⟨B, 0, none⟩ = some (.int .i64 nb)) (b1 : w.cell? ⟨B, 1, none⟩ = some (.int .i64 db)) :
    Cl2 w (w.alloc (.cells #[.int .i64 0, .int .i64 0] e)) A B na da nb db :=
  ⟨by rw [World.cell?_alloc_past _ _ _ la]; exact a0, by rw [World.cell?_alloc_past _ _ _ la]; exact a1, by rw [World.cell?_alloc_past _ _ _ lb]; exact b0, by rw [World.cell?_alloc_past _ _ _ lb]; exact b1, by rw [World.cell?_alloc_at _ _ _ _ rfl]; rfl, by rw [World.cell?_alloc_at _ _ _ _ rfl]; rfl, World.frozen?_alloc_at _ _ _ _ rfl, World.frozen?_alloc_at _ _ _ _ rfl, Below.alloc (Below.refl _ _) (Nat.le_refl _) _, la, lb, by simp⟩
theorem Cl2.done {w wx : World} {A B : Nat} {na da nb db : Int} (h : Cl2 w wx A B na da nb db) (x y : Value) : Below w.heap.size w ((wx.setCell ⟨w.heap.size, 0, none⟩ x).setCell ⟨w.heap.size, 1, none⟩ y) :=
  Below.setCell (Below.setCell h.bel (Nat.le_refl _) _) (Nat.le_refl _) _

end Go.Proofs.Ytedjbmmegjgegaa

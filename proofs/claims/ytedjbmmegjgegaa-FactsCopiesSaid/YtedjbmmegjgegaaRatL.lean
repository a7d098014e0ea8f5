/-
  Package ratio: Compare.
-/
import Derived.Test.YtedjbmmegjgegaaRatK
namespace Go.Proofs.Ytedjbmmegjgegaa
open Go.RowKit
set_option linter.unusedVariables false

/-- Two ratios in two new blocks. -/
structure BoxAB (w wx : World) (na da nb db : Int) : Prop where
  a0 : wx.cell? ⟨w.heap.size, 0, none⟩ = some (.int .i64 na)
  a1 : wx.cell? ⟨w.heap.size, 1, none⟩ = some (.int .i64 da)
  b0 : wx.cell? ⟨w.heap.size + 1, 0, none⟩ = some (.int .i64 nb)
  b1 : wx.cell? ⟨w.heap.size + 1, 1, none⟩ = some (.int .i64 db)
  bel : Below w.heap.size w wx
  sz : w.heap.size + 2 ≤ wx.heap.size
theorem BoxAB.keep {w wx w1 : World} {na da nb db : Int} (h : BoxAB w wx na da nb db) (hb : Below wx.heap.size wx w1) : BoxAB w w1 na da nb db := by
  have hs := h.sz
  have hs1 := hb.size
  have hc : ∀ b i, b < w.heap.size + 2 → w1.cell? ⟨b, i, none⟩ = wx.cell? ⟨b, i, none⟩ := fun b i hb' => hb.cell (p := ⟨b, i, none⟩) (show b < wx.heap.size by omega)
  exact ⟨(hc _ _ (by omega)).trans h.a0, (hc _ _ (by omega)).trans h.a1, (hc _ _ (by omega)).trans h.b0, (hc _ _ (by omega)).trans h.b1, h.bel.trans (hb.mono (by omega)), by omega⟩
theorem BoxAB.start (w : World) (na da nb db : Int) (e : TypeId) : BoxAB w ((w.alloc (.cells #[.int .i64 na, .int .i64 da] e)).alloc (.cells #[.int .i64 nb, .int .i64 db] e)) na da nb db := by
  have z1 : (w.alloc (.cells #[.int .i64 na, .int .i64 da] e)).heap.size = w.heap.size + 1 := by simp
  have at0 : ∀ (x : World) (c : Array Value) (i : Nat) (v : Value), c[i]? = some v → (x.alloc (.cells c e)).cell? ⟨x.heap.size, i, none⟩ = some v := fun x c i v h => by rw [World.cell?_alloc_at _ _ _ _ rfl]; exact h
  refine ⟨?_, ?_, ?_, ?_, Below.alloc (Below.alloc (Below.refl _ w) (Nat.le_refl _) _) (by simp) _, by simp⟩
  · rw [World.cell?_alloc_past _ _ _ (by rw [z1]; show w.heap.size < w.heap.size + 1; omega)]; exact at0 _ _ _ _ rfl
  · rw [World.cell?_alloc_past _ _ _ (by rw [z1]; show w.heap.size < w.heap.size + 1; omega)]; exact at0 _ _ _ _ rfl
  · rw [← z1]; exact at0 _ _ _ _ rfl
  · rw [← z1]; exact at0 _ _ _ _ rfl

/-- Which of two ratios is greater. -/
def cmpS (na da nb db : Int) : Int := (na * db - nb * da).sign
theorem cross_sign {na da nb db : Int} (ha : OkR na da) (hb : OkR nb db) : (crossZ na da (-nb) db).sign = cmpS na da nb db := by
  have hg := crossG_pos (da := da) hb.d0
  have e : na * db - nb * da = crossG da db * crossZ na da (-nb) db := by
    unfold crossZ crossG
    have h1 : db = ((Int.gcd da db : Nat) : Int) * db.tdiv (Int.gcd da db : Nat) := (Int.mul_tdiv_cancel' (Int.gcd_dvd_right da db)).symm
    have h2 : da = ((Int.gcd da db : Nat) : Int) * da.tdiv (Int.gcd da db : Nat) := (Int.mul_tdiv_cancel' (Int.gcd_dvd_left da db)).symm
    have p1 : na * db = ((Int.gcd da db : Nat) : Int) * (na * db.tdiv (Int.gcd da db : Nat)) := by
      conv => lhs; rw [h1]
      rw [← Int.mul_assoc, ← Int.mul_assoc, Int.mul_comm na]
    have p2 : nb * da = ((Int.gcd da db : Nat) : Int) * (nb * da.tdiv (Int.gcd da db : Nat)) := by
      conv => lhs; rw [h2]
      rw [← Int.mul_assoc, ← Int.mul_assoc, Int.mul_comm nb]
    rw [p1, p2, ← Int.mul_sub, Int.sub_eq_add_neg, Int.neg_mul]
  unfold cmpS
  rw [e, Int.sign_mul, Int.sign_eq_one_of_pos hg, Int.one_mul]

/-- The wide number, in a block of its own. -/
def CmpCut (w wx : World) (t : Value) (z g : Int) : Prop := ∃ Q : Nat, t = .pointer (some ⟨Q, 0, none⟩) ∧ wx.cell? ⟨Q, 0, none⟩ = some (.int .u64 (wH z)) ∧ wx.cell? ⟨Q, 1, none⟩ = some (.int .u64 (wL z)) ∧ Below w.heap.size w wx

structure Cap2 (w wx : World) (A B : Nat) (na da nb db : Int) : Prop where
  a0 : wx.cell? ⟨A, 0, none⟩ = some (.int .i64 na)
  a1 : wx.cell? ⟨A, 1, none⟩ = some (.int .i64 da)
  b0 : wx.cell? ⟨B, 0, none⟩ = some (.int .i64 nb)
  b1 : wx.cell? ⟨B, 1, none⟩ = some (.int .i64 db)
  bel : Below w.heap.size w wx
  la : A < w.heap.size
  lb : B < w.heap.size
theorem Cap2.keep {w wx w1 : World} {A B : Nat} {na da nb db : Int} (h : Cap2 w wx A B na da nb db) (hb : Below wx.heap.size wx w1) : Cap2 w w1 A B na da nb db := by
  have la := h.la
  have lb := h.lb
  have hs := h.bel.size
  have hc : ∀ b i, b < w.heap.size → w1.cell? ⟨b, i, none⟩ = wx.cell? ⟨b, i, none⟩ := fun b i hb' => hb.cell (p := ⟨b, i, none⟩) (show b < wx.heap.size by omega)
  exact ⟨(hc _ _ la).trans h.a0, (hc _ _ la).trans h.a1, (hc _ _ lb).trans h.b0, (hc _ _ lb).trans h.b1, h.bel.trans (hb.mono hs), la, lb⟩

end Go.Proofs.Ytedjbmmegjgegaa

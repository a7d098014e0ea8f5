/-
  Package ratio: cross.
-/
import Derived.Test.YtedjbmmegjgegaaRatD
import Derived.Deep.RegionWith
import Derived.Deep.DeepCutAuto
namespace Go.Proofs.Ytedjbmmegjgegaa
open Go.RowKit
set_option linter.unusedVariables false

/-- What two ratios, multiplied crosswise, come to. -/
def crossG (da db : Int) : Int := ((Int.gcd da db : Nat) : Int)
def crossZ (na da nb db : Int) : Int := na * db.tdiv (crossG da db) + nb * da.tdiv (crossG da db)

theorem crossG_pos {da db : Int} (hd : 0 < db) : 0 < crossG da db := by unfold crossG; have := Int.gcd_pos_of_ne_zero_right da (show db ≠ 0 by omega); omega

theorem prod_lim {x y : Int} (x0 : -9223372036854775807 ≤ x) (x1 : x ≤ 9223372036854775807) (y0 : -9223372036854775807 ≤ y) (y1 : y ≤ 9223372036854775807) : -85070591730234615847396907784232501249 ≤ x * y ∧ x * y ≤ 85070591730234615847396907784232501249 := by
  have h1 : x.natAbs ≤ 9223372036854775807 := by omega
  have h2 : y.natAbs ≤ 9223372036854775807 := by omega
  have h3 : (x * y).natAbs ≤ 9223372036854775807 * 9223372036854775807 := by rw [Int.natAbs_mul]; exact Nat.mul_le_mul h1 h2
  omega
theorem crossZ_lim {na da nb db : Int} (ha : OkR na da) (hb : OkR nb db) : -170141183460469231731687303715884105728 ≤ crossZ na da nb db ∧ crossZ na da nb db < 170141183460469231731687303715884105728 := by
  obtain ⟨da0, da1, na0, na1, _⟩ := ha
  obtain ⟨db0, db1, nb0, nb1, _⟩ := hb
  have hp := crossG_pos (da := da) db0
  obtain ⟨x1, y1⟩ := tdiv_bd hp (show -9223372036854775807 ≤ da by omega) da1
  obtain ⟨x2, y2⟩ := tdiv_bd hp (show -9223372036854775807 ≤ db by omega) db1
  have p1 := prod_lim na0 na1 x2 y2
  have p2 := prod_lim nb0 nb1 x1 y1
  unfold crossZ; omega

theorem cellOther {w : World} {b b' o o' : Nat} {v : Value} (h : b ≠ b' ∨ o ≠ o') : (w.setCell ⟨b, o, none⟩ v).cell? ⟨b', o', none⟩ = w.cell? ⟨b', o', none⟩ := by
  apply World.cell?_setCell_other
  intro e; injection e with e1 e2
  rcases h with h | h
  · exact h e1
  · exact h e2
theorem cellSame {w : World} {b o : Nat} {v u : Value} (h : w.cell? ⟨b, o, none⟩ = some u) : (w.setCell ⟨b, o, none⟩ v).cell? ⟨b, o, none⟩ = some v := by apply World.cell?_setCell_same; exact h

/-- The cells that cross keeps: two ratios, the result, the wide number and what both Dens share. -/
structure CrossW (w wx : World) (na da nb db z g : Int) : Prop where
  a0 : wx.cell? ⟨w.heap.size, 0, none⟩ = some (.int .i64 na)
  a1 : wx.cell? ⟨w.heap.size, 1, none⟩ = some (.int .i64 da)
  b0 : wx.cell? ⟨w.heap.size + 1, 0, none⟩ = some (.int .i64 nb)
  b1 : wx.cell? ⟨w.heap.size + 1, 1, none⟩ = some (.int .i64 db)
  r0 : wx.cell? ⟨w.heap.size + 1 + 1, 0, none⟩ = some (.int .u64 0)
  r1 : wx.cell? ⟨w.heap.size + 1 + 1, 1, none⟩ = some (.int .u64 0)
  r2 : wx.cell? ⟨w.heap.size + 1 + 1, 2, none⟩ = some (.int .i64 0)
  f0 : wx.frozen? ⟨w.heap.size + 1 + 1, 0, none⟩ = false
  f1 : wx.frozen? ⟨w.heap.size + 1 + 1, 1, none⟩ = false
  f2 : wx.frozen? ⟨w.heap.size + 1 + 1, 2, none⟩ = false
  c0 : wx.cell? ⟨w.heap.size + 1 + 1 + 1, 0, none⟩ = some (.int .u64 (wH z))
  c1 : wx.cell? ⟨w.heap.size + 1 + 1 + 1, 1, none⟩ = some (.int .u64 (wL z))
  c2 : wx.cell? ⟨w.heap.size + 1 + 1 + 1, 2, none⟩ = some (.int .i64 g)
  g0 : wx.frozen? ⟨w.heap.size + 1 + 1 + 1, 0, none⟩ = false
  g1 : wx.frozen? ⟨w.heap.size + 1 + 1 + 1, 1, none⟩ = false
  bel : Below w.heap.size w wx
  sz : w.heap.size + 4 ≤ wx.heap.size
theorem CrossW.keep {w wx w1 : World} {na da nb db z g : Int} (h : CrossW w wx na da nb db z g) (hb : Below wx.heap.size wx w1) : CrossW w w1 na da nb db z g := by
  have hs := h.sz
  have hs1 := hb.size
  have hc : ∀ b i, b < w.heap.size + 4 → w1.cell? ⟨b, i, none⟩ = wx.cell? ⟨b, i, none⟩ := fun b i hb' => hb.cell (p := ⟨b, i, none⟩) (show b < wx.heap.size by omega)
  have hf : ∀ b i, b < w.heap.size + 4 → w1.frozen? ⟨b, i, none⟩ = wx.frozen? ⟨b, i, none⟩ := fun b i hb' => hb.frozen (p := ⟨b, i, none⟩) (show b < wx.heap.size by omega)
  exact ⟨(hc _ _ (by omega)).trans h.a0, (hc _ _ (by omega)).trans h.a1, (hc _ _ (by omega)).trans h.b0, (hc _ _ (by omega)).trans h.b1, (hc _ _ (by omega)).trans h.r0, (hc _ _ (by omega)).trans h.r1, (hc _ _ (by omega)).trans h.r2, (hf _ _ (by omega)).trans h.f0, (hf _ _ (by omega)).trans h.f1, (hf _ _ (by omega)).trans h.f2,
    (hc _ _ (by omega)).trans h.c0, (hc _ _ (by omega)).trans h.c1, (hc _ _ (by omega)).trans h.c2, (hf _ _ (by omega)).trans h.g0, (hf _ _ (by omega)).trans h.g1, h.bel.trans (hb.mono (by omega)), by omega⟩
theorem CrossW.add {w wx : World} {na da nb db z g : Int} (h : CrossW w wx na da nb db z g) (t : Int) : CrossW w ((wx.setCell ⟨w.heap.size + 1 + 1 + 1, 1, none⟩ (.int .u64 (wL t))).setCell ⟨w.heap.size + 1 + 1 + 1, 0, none⟩ (.int .u64 (wH t))) na da nb db t g := by
  have ne : ∀ (b i : Nat), b < w.heap.size + 3 → ((wx.setCell ⟨w.heap.size + 1 + 1 + 1, 1, none⟩ (.int .u64 (wL t))).setCell ⟨w.heap.size + 1 + 1 + 1, 0, none⟩ (.int .u64 (wH t))).cell? ⟨b, i, none⟩ = wx.cell? ⟨b, i, none⟩ := fun b i hb => by
    rw [cellOther (Or.inl (by omega)), cellOther (Or.inl (by omega))]
  refine ⟨(ne _ _ (by omega)).trans h.a0, (ne _ _ (by omega)).trans h.a1, (ne _ _ (by omega)).trans h.b0, (ne _ _ (by omega)).trans h.b1, (ne _ _ (by omega)).trans h.r0, (ne _ _ (by omega)).trans h.r1, (ne _ _ (by omega)).trans h.r2, by simpa using h.f0, by simpa using h.f1, by simpa using h.f2, ?_, ?_, ?_, by simpa using h.g0, by simpa using h.g1, Below.setCell (Below.setCell h.bel (show w.heap.size ≤ w.heap.size + 1 + 1 + 1 by omega) _) (show w.heap.size ≤ w.heap.size + 1 + 1 + 1 by omega) _, by simpa using h.sz⟩
  · refine cellSame (u := .int .u64 (wH z)) ?_
    rw [cellOther (Or.inr (by decide))]; exact h.c0
  · rw [cellOther (Or.inr (by decide))]; exact cellSame h.c1
  · rw [cellOther (Or.inr (by decide)), cellOther (Or.inr (by decide))]; exact h.c2

theorem CrossW.start (w : World) (na da nb db g : Int) (e e' : TypeId) (n : Nat) : CrossW w (((((w.alloc (.cells #[.int .i64 na, .int .i64 da] e)).alloc (.cells #[.int .i64 nb, .int .i64 db] e)).alloc (.cells #[.int .u64 0, .int .u64 0, .int .i64 0] e')).drewN n).alloc (.cells #[.int .u64 0, .int .u64 0, .int .i64 g] e')) na da nb db 0 g := by
  have z1 : (w.alloc (.cells #[.int .i64 na, .int .i64 da] e)).heap.size = w.heap.size + 1 := by simp
  have z2 : ((w.alloc (.cells #[.int .i64 na, .int .i64 da] e)).alloc (.cells #[.int .i64 nb, .int .i64 db] e)).heap.size = w.heap.size + 1 + 1 := by simp
  have z3 : ((((w.alloc (.cells #[.int .i64 na, .int .i64 da] e)).alloc (.cells #[.int .i64 nb, .int .i64 db] e)).alloc (.cells #[.int .u64 0, .int .u64 0, .int .i64 0] e')).drewN n).heap.size = w.heap.size + 1 + 1 + 1 := by show (((w.alloc _).alloc _).alloc _).heap.size = _; simp
  have at0 : ∀ (x : World) (c : Array Value) (e : TypeId) (i : Nat) (v : Value), c[i]? = some v → (x.alloc (.cells c e)).cell? ⟨x.heap.size, i, none⟩ = some v := fun x c e i v h => by rw [World.cell?_alloc_at _ _ _ _ rfl]; exact h
  have dr : ∀ (x : World) (p : Addr), (x.drewN n).cell? p = x.cell? p := fun _ _ => rfl
  have df : ∀ (x : World) (p : Addr), (x.drewN n).frozen? p = x.frozen? p := fun _ _ => rfl
  have up3 : ∀ b i, b < w.heap.size + 3 → (((((w.alloc (.cells #[.int .i64 na, .int .i64 da] e)).alloc (.cells #[.int .i64 nb, .int .i64 db] e)).alloc (.cells #[.int .u64 0, .int .u64 0, .int .i64 0] e')).drewN n).alloc (.cells #[.int .u64 0, .int .u64 0, .int .i64 g] e')).cell? ⟨b, i, none⟩ = (((w.alloc (.cells #[.int .i64 na, .int .i64 da] e)).alloc (.cells #[.int .i64 nb, .int .i64 db] e)).alloc (.cells #[.int .u64 0, .int .u64 0, .int .i64 0] e')).cell? ⟨b, i, none⟩ := fun b i h => by
    rw [World.cell?_alloc_past _ _ _ (by rw [z3]; exact h), dr]
  have uf3 : ∀ b i, b < w.heap.size + 3 → (((((w.alloc (.cells #[.int .i64 na, .int .i64 da] e)).alloc (.cells #[.int .i64 nb, .int .i64 db] e)).alloc (.cells #[.int .u64 0, .int .u64 0, .int .i64 0] e')).drewN n).alloc (.cells #[.int .u64 0, .int .u64 0, .int .i64 g] e')).frozen? ⟨b, i, none⟩ = (((w.alloc (.cells #[.int .i64 na, .int .i64 da] e)).alloc (.cells #[.int .i64 nb, .int .i64 db] e)).alloc (.cells #[.int .u64 0, .int .u64 0, .int .i64 0] e')).frozen? ⟨b, i, none⟩ := fun b i h => by
    rw [World.frozen?_alloc_past _ _ _ (by rw [z3]; exact h), df]
  refine ⟨?_, ?_, ?_, ?_, ?_, ?_, ?_, ?_, ?_, ?_, ?_, ?_, ?_, ?_, ?_, ?_, ?_⟩
  · rw [up3 _ _ (by omega), World.cell?_alloc_past _ _ _ (by rw [z2]; show w.heap.size < w.heap.size + 1 + 1; omega), World.cell?_alloc_past _ _ _ (by rw [z1]; show w.heap.size < w.heap.size + 1; omega)]; exact at0 _ _ _ _ _ rfl
  · rw [up3 _ _ (by omega), World.cell?_alloc_past _ _ _ (by rw [z2]; show w.heap.size < w.heap.size + 1 + 1; omega), World.cell?_alloc_past _ _ _ (by rw [z1]; show w.heap.size < w.heap.size + 1; omega)]; exact at0 _ _ _ _ _ rfl
  · rw [up3 _ _ (by omega), World.cell?_alloc_past _ _ _ (by rw [z2]; show w.heap.size + 1 < w.heap.size + 1 + 1; omega), ← z1]; exact at0 _ _ _ _ _ rfl
  · rw [up3 _ _ (by omega), World.cell?_alloc_past _ _ _ (by rw [z2]; show w.heap.size + 1 < w.heap.size + 1 + 1; omega), ← z1]; exact at0 _ _ _ _ _ rfl
  · rw [up3 _ _ (by omega), ← z2]; exact at0 _ _ _ _ _ rfl
  · rw [up3 _ _ (by omega), ← z2]; exact at0 _ _ _ _ _ rfl
  · rw [up3 _ _ (by omega), ← z2]; exact at0 _ _ _ _ _ rfl
  · rw [uf3 _ _ (by omega)]; exact World.frozen?_alloc_at _ _ _ _ z2.symm
  · rw [uf3 _ _ (by omega)]; exact World.frozen?_alloc_at _ _ _ _ z2.symm
  · rw [uf3 _ _ (by omega)]; exact World.frozen?_alloc_at _ _ _ _ z2.symm
  · rw [← z3]; exact at0 _ _ _ _ _ rfl
  · rw [← z3]; exact at0 _ _ _ _ _ rfl
  · rw [← z3]; exact at0 _ _ _ _ _ rfl
  · exact World.frozen?_alloc_at _ _ _ _ z3.symm
  · exact World.frozen?_alloc_at _ _ _ _ z3.symm
  · exact Below.alloc ((Below.alloc (Below.alloc (Below.alloc (Below.refl _ w) (Nat.le_refl _) _) (by simp) _) (by simp; omega) _).trans ((drewN_belowR _ n).mono (by simp; omega))) (by rw [z3]; omega) _
  · simp

end Go.Proofs.Ytedjbmmegjgegaa

/-
  Package ratio: cross.
-/
import Derived.Test.YtbjjogbnndmmmaaDoorRatD
import Derived.Deep.RegionWith
import Derived.Deep.DeepCutAuto
namespace Go.Proofs.YtbjjogbnndmmmaaDoor
open Go.RowKit
set_option linter.unusedVariables false

/-- What two ratios, multiplied crosswise, come to. -/
def crossG (da db : Int) : Int := ((Int.gcd da db : Nat) : Int)
def crossZ (na da nb db : Int) : Int := na * db.tdiv (crossG da db) + nb * da.tdiv (crossG da db)

theorem crossG_pos {da db : Int} (hd : 0 < db) : 0 < crossG da db := by unfold crossG; have := Int.gcd_pos_of_ne_zero_right da (show db ≠ 0 by omega); omega

theorem prod_lim {x y : Int} (x0 : -9223372036854775807 ≤ x) (x1 : x ≤ 9223372036854775807) (y0 : -9223372036854775807 ≤ y) (y1 : y ≤ 9223372036854775807) : -85070591730234615847396907784232501249 ≤ x * y ∧ x * y ≤ 85070591730234615847396907784232501249 := by
  have h1 : x.natAbs ≤ 9223372036854775807 := by omega
  have h2 : y.natAbs ≤ 9223372036854775807 := by omega
  have h3 : (x * y).natAbs ≤ 9223372036854775807 * 9223372036854775807 := by rw [Int.natAbs_mul]; exact Nat.mul_le_mul h1 h2
  omega
theorem crossZ_lim {na da nb db : Int} (ha : OkR na da) (hb : OkR nb db) : -170141183460469231731687303715884105728 ≤ crossZ na da nb db ∧ crossZ na da nb db < 170141183460469231731687303715884105728 := by
  obtain ⟨da0, da1, na0, na1, _⟩ := ha
  obtain ⟨db0, db1, nb0, nb1, _⟩ := hb
  have hp := crossG_pos (da := da) db0
  obtain ⟨x1, y1⟩ := tdiv_bd hp (show -9223372036854775807 ≤ da by omega) da1
  obtain ⟨x2, y2⟩ := tdiv_bd hp (show -9223372036854775807 ≤ db by omega) db1
  have p1 := prod_lim na0 na1 x2 y2
  have p2 := prod_lim nb0 nb1 x1 y1
  unfold crossZ; omega

theorem cellOther {w : World} {b b' o o' : Nat} {v : Value} (h : b ≠ b' ∨ o ≠ o') : (w.setCell ⟨b, o, none⟩ v).cell? ⟨b', o', none⟩ = w.cell? ⟨b', o', none⟩ := by
  apply World.cell?_setCell_other
  intro e; injection e with e1 e2
  rcases h with h | h
  · exact h e1
  · exact h e2
theorem cellSame {w : World} {b o : Nat} {v u : Value} (h : w.cell? ⟨b, o, none⟩ = some u) : (w.setCell ⟨b, o, none⟩ v).cell? ⟨b, o, none⟩ = some v := by apply World.cell?_setCell_same; exact h

/-- The cells that cross keeps: two ratios, the result, the wide number and what both Dens share. -/
structure CrossW (w wx : World) (na da nb db z g : Int) : Prop where
  a0 : wx.cell? ⟨w.heap.size, 0, none⟩ = some (.int .i64 na)
  a1 : wx.cell? ⟨w.heap.size, 1, none⟩ = some (.int .i64 da)
  b0 : wx.cell? ⟨w.heap.size + 1, 0, none⟩ = some (.int .i64 nb)
  b1 : wx.cell? ⟨w.heap.size + 1, 1, none⟩ = some (.int .i64 db)
  r0 : wx.cell? ⟨w.heap.size + 1 + 1, 0, none⟩ = some (.int .u64 0)
  r1 : wx.cell? ⟨w.heap.size + 1 + 1, 1, none⟩ = some (.int .u64 0)
  r2 : wx.cell? ⟨w.heap.size + 1 + 1, 2, none⟩ = some (.int .i64 0)
  f0 : wx.frozen? ⟨w.heap.size + 1 + 1, 0, none⟩ = false
  f1 : wx.frozen? ⟨w.heap.size + 1 + 1, 1, none⟩ = false
  f2 : wx.frozen? ⟨w.heap.size + 1 + 1, 2, none⟩ = false
  c0 : wx.cell? ⟨w.heap.size + 1 + 1 + 1, 0, none⟩ = some (.int .u64 (wH z))
  c1 : wx.cell? ⟨w.heap.size + 1 + 1 + 1, 1, none⟩ = some (.int .u64 (wL z))
  c2 : wx.cell? ⟨w.heap.size + 1 + 1 + 1, 2, none⟩ = some (.int .i64 g)
  g0 : wx.frozen? ⟨w.heap.size + 1 + 1 + 1, 0, none⟩ = false
  g1 : wx.frozen? ⟨w.heap.size + 1 + 1 + 1, 1, none⟩ = false
  bel : Below w.heap.size w wx
  sz : w.heap.size + 4 ≤ wx.heap.size
theorem CrossW.keep {w wx w1 : World} {na da nb db z g : Int} (h : CrossW w wx na da nb db z g) (hb : Below wx.heap.size wx w1) : CrossW w w1 na da nb db z g := by
  have hs := h.sz
  have hs1 := hb.size
  have hc : ∀ b i, b < w.heap.size + 4 → w1.cell? ⟨b, i, none⟩ = wx.cell? ⟨b, i, none⟩ := fun b i hb' => hb.cell (p := ⟨b, i, none⟩) (show b < wx.heap.size by omega)
  have hf : ∀ b i, b < w.heap.size + 4 → w1.frozen? ⟨b, i, none⟩ = wx.frozen? ⟨b, i, none⟩ := fun b i hb' => hb.frozen (p := ⟨b, i, none⟩) (show b < wx.heap.size by omega)
  exact ⟨(hc _ _ (by omega)).trans h.a0, (hc _ _ (by omega)).trans h.a1, (hc _ _ (by omega)).trans h.b0, (hc _ _ (by omega)).trans h.b1, (hc _ _ (by omega)).trans h.r0, (hc _ _ (by omega)).trans h.r1, (hc _ _ (by omega)).trans h.r2, (hf _ _ (by omega)).trans h.f0, (hf _ _ (by omega)).trans h.f1, (hf _ _ (by omega)).trans h.f2,
    (hc _ _ (by omega)).trans h.c0, (hc _ _ (by omega)).trans h.c1, (hc _ _ (by omega)).trans h.c2, (hf _ _ (by omega)).trans h.g0, (hf _ _ (by omega)).trans h.g1, h.bel.trans (hb.mono (by omega)), by omega⟩
theorem CrossW.add {w wx : World} {na da nb db z g : Int} (h : CrossW w wx na da nb db z g) (t : Int) : CrossW w ((wx.setCell ⟨w.heap.size + 1 + 1 + 1, 1, none⟩ (.int .u64 (wL t))).setCell ⟨w.heap.size + 1 + 1 + 1, 0, none⟩ (.int .u64 (wH t))) na da nb db t g := by
  have ne : ∀ (b i : Nat), b < w.heap.size + 3 → ((wx.setCell ⟨w.heap.size + 1 + 1 + 1, 1, none⟩ (.int .u64 (wL t))).setCell ⟨w.heap.size + 1 + 1 + 1, 0, none⟩ (.int .u64 (wH t))).cell? ⟨b, i, none⟩ = wx.cell? ⟨b, i, none⟩ := fun b i hb => by
    rw [cellOther (Or.inl (by omega)), cellOther (Or.inl (by omega))]
  refine ⟨(ne _ _ (by omega)).trans h.a0, (ne _ _ (by omega)).trans h.a1, (ne _ _ (by omega)).trans h.b0, (ne _ _ (by omega)).trans h.b1, (ne _ _ (by omega)).trans h.r0, (ne _ _ (by omega)).trans h.r1, (ne _ _ (by omega)).trans h.r2, by simpa using h.f0, by simpa using h.f1, by simpa using h.f2, ?_, ?_, ?_, by simpa using h.g0, by simpa using h.g1, Below.setCell (Below.setCell h.bel (show w.heap.size ≤ w.heap.size + 1 + 1 + 1 by omega) _) (show w.heap.size ≤ w.heap.size + 1 + 1 + 1 by omega) _, by simpa using h.sz⟩
  · refine cellSame (u := .int .u64 (wH z)) ?_
    rw [cellOther (Or.inr (by decide))]; exact h.c0
  · rw [cellOther (Or.inr (by decide))]; exact cellSame h.c1
  · rw [cellOther (Or.inr (by decide)), cellOther (Or.inr (by decide))]; exact h.c2

theorem CrossW.start (w : World) (na da nb db g : Int) (e e' : TypeId) (n : Nat) : CrossW w (((((w.alloc (.cells #[.int .i64 na, .int .i64 da] e)).alloc (.cells #[.int .i64 nb, .int .i64 db] e)).alloc (.cells #[.int .u64 0, .int .u64 0, .int .i64 0] e')).drewN n).alloc (.cells #[.int .u64 0, .int .u64 0, .int .i64 g] e')) na da nb db 0 g := by
  have z1 : (w.alloc (.cells #[.int .i64 na, .int .i64 da] e)).heap.size = w.heap.size + 1 := by simp
  have z2 : ((w.alloc (.cells #[.int .i64 na, .int .i64 da] e)).alloc (.cells #[.int .i64 nb, .int .i64 db] e)).heap.size = w.heap.size + 1 + 1 := by simp
  have z3 : ((((w.alloc (.cells #[.int .i64 na, .int .i64 da] e)).alloc (.cells #[.int .i64 nb, .int .i64 db] e)).alloc (.cells #[.int .u64 0, .int .u64 0, .int .i64 0] e')).drewN n).heap.size = w.heap.size + 1 + 1 + 1 := by show (((w.alloc _).alloc _).alloc _).heap.size = _; simp
  have at0 : ∀ (x : World) (c : Array Value) (e : TypeId) (i : Nat) (v : Value), c[i]? = some v → (x.alloc (.cells c e)).cell? ⟨x.heap.size, i, none⟩ = some v := fun x c e i v h => by rw [World.cell?_alloc_at _ _ _ _ rfl]; exact h
  have dr : ∀ (x : World) (p : Addr), (x.drewN n).cell? p = x.cell? p := fun _ _ => rfl
  have df : ∀ (x : World) (p : Addr), (x.drewN n).frozen? p = x.frozen? p := fun _ _ => rfl
  have up3 : ∀ b i, b < w.heap.size + 3 → (((((w.alloc (.cells #[.int .i64 na, .int .i64 da] e)).alloc (.cells #[.int .i64 nb, .int .i64 db] e)).alloc (.cells #[.int .u64 0, .int .u64 0, .int .i64 0] e')).drewN n).alloc (.cells #[.int .u64 0, .int .u64 0, .int .i64 g] e')).cell? ⟨b, i, none⟩ = (((w.alloc (.cells #[.int .i64 na, .int .i64 da] e)).alloc (.cells #[.int .i64 nb, .int .i64 db] e)).alloc (.cells #[.int .u64 0, .int .u64 0, .int .i64 0] e')).cell? ⟨b, i, none⟩ := fun b i h => by
    rw [World.cell?_alloc_past _ _ _ (by rw [z3]; exact h), dr]
  have uf3 : ∀ b i, b < w.heap.size + 3 → (((((w.alloc (.cells #[.int .i64 na, .int .i64 da] e)).alloc (.cells #[.int .i64 nb, .int .i64 db] e)).alloc (.cells #[.int .u64 0, .int .u64 0, .int .i64 0] e')).drewN n).alloc (.cells #[.int .u64 0, .int .u64 0, .int .i64 g] e')).frozen? ⟨b, i, none⟩ = (((w.alloc (.cells #[.int .i64 na, .int .i64 da] e)).alloc (.cells #[.int .i64 nb, .int .i64 db] e)).alloc (.cells #[.int .u64 0, .int .u64 0, .int .i64 0] e')).frozen? ⟨b, i, none⟩ := fun b i h => by
    rw [World.frozen?_alloc_past _ _ _ (by rw [z3]; exact h), df]
  refine ⟨?_, ?_, ?_, ?_, ?_, ?_, ?_, ?_, ?_, ?_, ?_, ?_, ?_, ?_, ?_, ?_, ?_⟩
  · rw [up3 _ _ (by omega), World.cell?_alloc_past _ _ _ (by rw [z2]; show w.heap.size < w.heap.size + 1 + 1; omega), World.cell?_alloc_past _ _ _ (by rw [z1]; show w.heap.size < w.heap.size + 1; omega)]; exact at0 _ _ _ _ _ rfl
  · rw [up3 _ _ (by omega), World.cell?_alloc_past _ _ _ (by rw [z2]; show w.heap.size < w.heap.size + 1 + 1; omega), World.cell?_alloc_past _ _ _ (by rw [z1]; show w.heap.size < w.heap.size + 1; omega)]; exact at0 _ _ _ _ _ rfl
  · rw [up3 _ _ (by omega), World.cell?_alloc_past _ _ _ (by rw [z2]; show w.heap.size + 1 < w.heap.size + 1 + 1; omega), ← z1]; exact at0 _ _ _ _ _ rfl
  · rw [up3 _ _ (by omega), World.cell?_alloc_past _ _ _ (by rw [z2]; show w.heap.size + 1 < w.heap.size + 1 + 1; omega), ← z1]; exact at0 _ _ _ _ _ rfl
  · rw [up3 _ _ (by omega), ← z2]; exact at0 _ _ _ _ _ rfl
  · rw [up3 _ _ (by omega), ← z2]; exact at0 _ _ _ _ _ rfl
  · rw [up3 _ _ (by omega), ← z2]; exact at0 _ _ _ _ _ rfl
  · rw [uf3 _ _ (by omega)]; exact World.frozen?_alloc_at _ _ _ _ z2.symm
  · rw [uf3 _ _ (by omega)]; exact World.frozen?_alloc_at _ _ _ _ z2.symm
  · rw [uf3 _ _ (by omega)]; exact World.frozen?_alloc_at _ _ _ _ z2.symm
  · rw [← z3]; exact at0 _ _ _ _ _ rfl
  · rw [← z3]; exact at0 _ _ _ _ _ rfl
  · rw [← z3]; exact at0 _ _ _ _ _ rfl
  · exact World.frozen?_alloc_at _ _ _ _ z3.symm
  · exact World.frozen?_alloc_at _ _ _ _ z3.symm
  · exact Below.alloc ((Below.alloc (Below.alloc (Below.alloc (Below.refl _ w) (Nat.le_refl _) _) (by simp) _) (by simp; omega) _).trans ((drewN_belowR _ n).mono (by simp; omega))) (by rw [z3]; omega) _
  · simp

set_option maxHeartbeats 2000000 in
set_option maxRecDepth 100000 in
theorem cross_any (na da nb db : Int) (w : World) (ha : OkR na da) (hb : OkR nb db) :
    Calls Tryd.prog 69 #[.agg #[.int .i64 na, .int .i64 da], .agg #[.int .i64 nb, .int .i64 db]] w fun e w' => e = .returned (.agg #[.int .u64 (wH (crossZ na da nb db)), .int .u64 (wL (crossZ na da nb db)), .int .i64 (crossG da db)]) ∧ Below w.heap.size w w' := by
  obtain ⟨da0, da1, na0, na1, _⟩ := id ha
  obtain ⟨db0, db1, nb0, nb1, _⟩ := id hb
  have hp := crossG_pos (da := da) db0
  have hg : crossG da db ≤ db := gcd_le_right db0
  have HC := Lib.hid (fun w => common_any da db w (by omega) (by omega) (by omega) (by omega) (by show crossG da db ≤ _; omega))
  change Hid (∀ w, Calls _ _ _ w fun e w' => e = .returned (.int .i64 (crossG da db)) ∧ _) at HC
  have HZ : Hid (crossZ na da nb db = na * db.tdiv (crossG da db) + nb * da.tdiv (crossG da db)) := Lib.hid rfl
  generalize crossZ na da nb db = z at *
  generalize crossG da db = g at *
  obtain ⟨x1, y1⟩ := tdiv_bd hp (show -9223372036854775807 ≤ da by omega) da1
  obtain ⟨x2, y2⟩ := tdiv_bd hp (show -9223372036854775807 ≤ db by omega) db1
  have w1 := IntWalk.i64_in (da.tdiv g) (by omega)
  have w2 := IntWalk.i64_in (db.tdiv g) (by omega)
  have zb : (g == 0) = false := by simp; omega
  clear ha hb
  go_enter Tryd.func69, Tryd.ntmps69
  go_wp2_with fail
  refine (HC.out _).mono ?_
  rintro e w' ⟨rfl, n, rfl⟩
  go_wp2_with fail
  have HW := Lib.hid (CrossW.start w na da nb db g 23 108 n)
  generalize (((((w.alloc (.cells #[.int .i64 na, .int .i64 da] 23)).alloc (.cells #[.int .i64 nb, .int .i64 db] 23)).alloc (.cells #[.int .u64 0, .int .u64 0, .int .i64 0] 108)).drewN n).alloc (.cells #[.int .u64 0, .int .u64 0, .int .i64 g] 108)) = W at HW ⊢
  obtain ⟨a0, a1, b0, b1, r0, r1, r2, f0, f1, f2, c0, c1, c2, g0, g1, _, _⟩ := id HW.out
  have ha := wadd_any (w.heap.size + 1 + 1 + 1) 0 na (db.tdiv g) W.drew (by omega) (by omega) (by omega) (by omega) c0 c1 g0 g1
  obtain ⟨p1, hp1⟩ : ∃ p1, p1 = 0 + na * db.tdiv g := ⟨_, rfl⟩
  rw [← hp1] at ha
  have HA := Lib.hid ha
  have HP1 := Lib.hid hp1
  clear ha hp1
  go_cut [] (fun wx => CrossW w wx na da nb db p1 g)
  case first =>
    go_region_with (go_at_call 101; refine HA.out.mono ?_; rintro e w' ⟨rfl, rfl⟩)
    all_goals go_wp2
    all_goals go_meet
    all_goals exact (HW.out.add _).keep (Below.drew (Below.refl _ _))
  case rest =>
    rename_i wc
    have HW2 := Lib.hid hcut
    clear a0 a1 b0 b1 r0 r1 r2 f0 f1 f2 c0 c1 c2 g0 g1 HW HA
    obtain ⟨a0, a1, b0, b1, r0, r1, r2, f0, f1, f2, c0, c1, c2, g0, g1, _, _⟩ := hcut
    have ha := wadd_any (w.heap.size + 1 + 1 + 1) p1 nb (da.tdiv g) wc.drew (by omega) (by omega) (by omega) (by omega) c0 c1 g0 g1
    rw [show p1 + nb * da.tdiv g = z by rw [HP1.out, HZ.out]; omega] at ha
    have HA := Lib.hid ha
    clear ha
    go_upto_region 3 with fail
    go_cut [] (fun wx => CrossW w wx na da nb db z g)
    case first =>
      go_region_with (go_at_call 101; refine HA.out.mono ?_; rintro e w' ⟨rfl, rfl⟩)
      all_goals go_wp2
      all_goals go_meet
      all_goals exact (HW2.out.add _).keep (Below.drew (Below.refl _ _))
    case rest =>
      rename_i wd
      have HW3 := Lib.hid hcut
      clear a0 a1 b0 b1 r0 r1 r2 f0 f1 f2 c0 c1 c2 g0 g1 HW2 HA HZ HP1
      obtain ⟨a0, a1, b0, b1, r0, r1, r2, f0, f1, f2, c0, c1, c2, g0, g1, _, _⟩ := hcut
      go_wp2
      have hl : w.heap.size ≤ w.heap.size + 1 + 1 := by omega
      exact bodyPost_ret (v := .agg #[.int .u64 (wH z), .int .u64 (wL z), .int .i64 g]) (by simp [results, Tryd.results69, go_sem, r0, r1, r2]) rfl ⟨rfl, Below.setCell (Below.setCell (Below.setCell HW3.out.bel hl _) hl _) hl _⟩

end Go.Proofs.YtbjjogbnndmmmaaDoor

/-
  Package ratio: product.
-/
import Derived.Test.YtdmdgoeacafpiaaGreatDoorRtA
import Derived.Test.YtdmdgoeacafpiaaGreatDoorWide
import Derived.Deep.RegionWith
import Derived.Deep.DeepCutAuto
namespace Go.Proofs.YtdmdgoeacafpiaaGreatDoor
open Go.RowKit
set_option linter.unusedVariables false

theorem tdiv_bd {n g : Int} (hg : 0 < g) (n0 : -9223372036854775807 ≤ n) (n1 : n ≤ 9223372036854775807) : -9223372036854775807 ≤ n.tdiv g ∧ n.tdiv g ≤ 9223372036854775807 := by
  have h : (n.tdiv g).natAbs ≤ n.natAbs := by rw [Int.natAbs_tdiv]; exact Nat.div_le_self _ _
  omega
theorem mul_low {na da nb db : Int} (ha : OkR na da) (hb : OkR nb db) :
    lowV (fitN (na.tdiv (Int.gcd na db : Nat) * nb.tdiv (Int.gcd nb da : Nat))) (fitN (da.tdiv (Int.gcd nb da : Nat) * db.tdiv (Int.gcd na db : Nat))) (firstE (fitE (na.tdiv (Int.gcd na db : Nat) * nb.tdiv (Int.gcd nb da : Nat))) (fitE (da.tdiv (Int.gcd nb da : Nat) * db.tdiv (Int.gcd na db : Nat)))) = fitV (rat na da * rat nb db) := by
  obtain ⟨h1, h2⟩ := mul_parts (rat na da) (rat nb db)
  rw [ha.num, hb.num, ha.denN, hb.denN] at h1 h2
  refine low_fit _ _ _ h1 ?_
  rw [h2]
  obtain ⟨A, rfl⟩ := Int.eq_ofNat_of_zero_le (show 0 ≤ da by have := ha.d0; omega)
  obtain ⟨B, rfl⟩ := Int.eq_ofNat_of_zero_le (show 0 ≤ db by have := hb.d0; omega)
  show _ = ((A / Int.gcd nb A : Nat) : Int) * ((B / Int.gcd na B : Nat) : Int)
  rw [Int.natCast_mul]; rfl

end Go.Proofs.YtdmdgoeacafpiaaGreatDoor

namespace Go.Proofs.YtdmdgoeacafpiaaGreatDoor
open Go.RowKit
set_option linter.unusedVariables false

theorem hl_bd (z : Int) (z0 : -170141183460469231731687303715884105728 ≤ z) (z1 : z < 170141183460469231731687303715884105728) : 0 ≤ mulHi (absI z) 1 ∧ mulHi (absI z) 1 ≤ 18446744073709551615 ∧ 0 ≤ mulLo (absI z) 1 ∧ mulLo (absI z) 1 ≤ 18446744073709551615 ∧ mulHi (absI z) 1 * 18446744073709551616 + mulLo (absI z) 1 = absI z := by
  unfold mulHi mulLo absI; omega

theorem tdiv_sign (z y : Int) (y0 : 0 < y) : z.tdiv y = z.sign * (absI z / y) := by
  unfold absI
  rcases Int.lt_trichotomy z 0 with h | h | h
  · rw [Int.sign_eq_neg_one_of_neg h]
    obtain ⟨k, rfl⟩ : ∃ k : Nat, z = -(k : Int) := ⟨z.natAbs, by omega⟩
    rw [Int.neg_tdiv, Int.tdiv_eq_ediv_of_nonneg (by omega), Int.natAbs_neg, Int.natAbs_natCast]; omega
  · subst h; simp
  · rw [Int.sign_eq_one_of_pos h, Int.tdiv_eq_ediv_of_nonneg (by omega), Int.one_mul]
    congr 1; omega
theorem tdiv_abs (z y : Int) (y0 : 0 < y) : absI (z.tdiv y) = absI z / y := by
  rw [tdiv_sign z y y0]
  have h : 0 ≤ absI z / y := Int.ediv_nonneg (by unfold absI; omega) (by omega)
  rcases Int.lt_trichotomy z 0 with g | g | g
  · rw [Int.sign_eq_neg_one_of_neg g]; unfold absI at *; omega
  · subst g; simp [absI]
  · rw [Int.sign_eq_one_of_pos g]; unfold absI at *; omega
theorem inS_abs (n : Int) : inS n = decide (absI n ≤ 9223372036854775807) := by
  unfold inS absI
  rw [Bool.eq_iff_iff, decide_eq_true_iff, decide_eq_true_iff]; omega

end Go.Proofs.YtdmdgoeacafpiaaGreatDoor

namespace Go.Proofs.YtdmdgoeacafpiaaGreatDoor
open Go.RowKit
set_option linter.unusedVariables false

/-- What two ratios, multiplied crosswise, come to. -/
def crossG (da db : Int) : Int := ((Int.gcd da db : Nat) : Int)
def crossZ (na da nb db : Int) : Int := na * db.tdiv (crossG da db) + nb * da.tdiv (crossG da db)

theorem crossG_pos {da db : Int} (hd : 0 < db) : 0 < crossG da db := by unfold crossG; have := Int.gcd_pos_of_ne_zero_right da (show db ≠ 0 by omega); omega

theorem prod_lim {x y : Int} (x0 : -9223372036854775807 ≤ x) (x1 : x ≤ 9223372036854775807) (y0 : -9223372036854775807 ≤ y) (y1 : y ≤ 9223372036854775807) : -85070591730234615847396907784232501249 ≤ x * y ∧ x * y ≤ 85070591730234615847396907784232501249 := by
  have h1 : x.natAbs ≤ 9223372036854775807 := by omega
  have h2 : y.natAbs ≤ 9223372036854775807 := by omega
  have h3 : (x * y).natAbs ≤ 9223372036854775807 * 9223372036854775807 := by rw [Int.natAbs_mul]; exact Nat.mul_le_mul h1 h2
  omega
theorem crossZ_lim {na da nb db : Int} (ha : OkR na da) (hb : OkR nb db) : -170141183460469231731687303715884105728 ≤ crossZ na da nb db ∧ crossZ na da nb db < 170141183460469231731687303715884105728 := by
  obtain ⟨da0, da1, na0, na1, _⟩ := ha
  obtain ⟨db0, db1, nb0, nb1, _⟩ := hb
  have hp := crossG_pos (da := da) db0
  obtain ⟨x1, y1⟩ := tdiv_bd hp (show -9223372036854775807 ≤ da by omega) da1
  obtain ⟨x2, y2⟩ := tdiv_bd hp (show -9223372036854775807 ≤ db by omega) db1
  have p1 := prod_lim na0 na1 x2 y2
  have p2 := prod_lim nb0 nb1 x1 y1
  unfold crossZ; omega

theorem cellOther {w : World} {b b' o o' : Nat} {v : Value} (h : b ≠ b' ∨ o ≠ o') : (w.setCell ⟨b, o, none⟩ v).cell? ⟨b', o', none⟩ = w.cell? ⟨b', o', none⟩ := by
  apply World.cell?_setCell_other
  intro e; injection e with e1 e2
  rcases h with h | h
  · exact h e1
  · exact h e2
theorem cellSame {w : World} {b o : Nat} {v u : Value} (h : w.cell? ⟨b, o, none⟩ = some u) : (w.setCell ⟨b, o, none⟩ v).cell? ⟨b, o, none⟩ = some v := by apply World.cell?_setCell_same; exact h

/-- The cells that cross keeps: two ratios, the result, the wide number and what both Dens share. -/
structure CrossW (w wx : World) (na da nb db z g : Int) : Prop where
  a0 : wx.cell? ⟨w.heap.size, 0, none⟩ = some (.int .i64 na)
  a1 : wx.cell? ⟨w.heap.size, 1, none⟩ = some (.int .i64 da)
  b0 : wx.cell? ⟨w.heap.size + 1, 0, none⟩ = some (.int .i64 nb)
  b1 : wx.cell? ⟨w.heap.size + 1, 1, none⟩ = some (.int .i64 db)
  r0 : wx.cell? ⟨w.heap.size + 1 + 1, 0, none⟩ = some (.int .u64 0)
  r1 : wx.cell? ⟨w.heap.size + 1 + 1, 1, none⟩ = some (.int .u64 0)
  r2 : wx.cell? ⟨w.heap.size + 1 + 1, 2, none⟩ = some (.int .i64 0)
  f0 : wx.frozen? ⟨w.heap.size + 1 + 1, 0, none⟩ = false
  f1 : wx.frozen? ⟨w.heap.size + 1 + 1, 1, none⟩ = false
  f2 : wx.frozen? ⟨w.heap.size + 1 + 1, 2, none⟩ = false
  c0 : wx.cell? ⟨w.heap.size + 1 + 1 + 1, 0, none⟩ = some (.int .u64 (wH z))
  c1 : wx.cell? ⟨w.heap.size + 1 + 1 + 1, 1, none⟩ = some (.int .u64 (wL z))
  c2 : wx.cell? ⟨w.heap.size + 1 + 1 + 1, 2, none⟩ = some (.int .i64 g)
  g0 : wx.frozen? ⟨w.heap.size + 1 + 1 + 1, 0, none⟩ = false
  g1 : wx.frozen? ⟨w.heap.size + 1 + 1 + 1, 1, none⟩ = false
  bel : Below w.heap.size w wx
  sz : w.heap.size + 4 ≤ wx.heap.size
theorem CrossW.keep {w wx w1 : World} {na da nb db z g : Int} (h : CrossW w wx na da nb db z g) (hb : Below wx.heap.size wx w1) : CrossW w w1 na da nb db z g := by
  have hs := h.sz
  have hs1 := hb.size
  have hc : ∀ b i, b < w.heap.size + 4 → w1.cell? ⟨b, i, none⟩ = wx.cell? ⟨b, i, none⟩ := fun b i hb' => hb.cell (p := ⟨b, i, none⟩) (show b < wx.heap.size by omega)
  have hf : ∀ b i, b < w.heap.size + 4 → w1.frozen? ⟨b, i, none⟩ = wx.frozen? ⟨b, i, none⟩ := fun b i hb' => hb.frozen (p := ⟨b, i, none⟩) (show b < wx.heap.size by omega)
  exact ⟨(hc _ _ (by omega)).trans h.a0, (hc _ _ (by omega)).trans h.a1, (hc _ _ (by omega)).trans h.b0, (hc _ _ (by omega)).trans h.b1, (hc _ _ (by omega)).trans h.r0, (hc _ _ (by omega)).trans h.r1, (hc _ _ (by omega)).trans h.r2, (hf _ _ (by omega)).trans h.f0, (hf _ _ (by omega)).trans h.f1, (hf _ _ (by omega)).trans h.f2,
    (hc _ _ (by omega)).trans h.c0, (hc _ _ (by omega)).trans h.c1, (hc _ _ (by omega)).trans h.c2, (hf _ _ (by omega)).trans h.g0, (hf _ _ (by omega)).trans h.g1, h.bel.trans (hb.mono (by omega)), by omega⟩
theorem CrossW.add {w wx : World} {na da nb db z g : Int} (h : CrossW w wx na da nb db z g) (t : Int) : CrossW w ((wx.setCell ⟨w.heap.size + 1 + 1 + 1, 1, none⟩ (.int .u64 (wL t))).setCell ⟨w.heap.size + 1 + 1 + 1, 0, none⟩ (.int .u64 (wH t))) na da nb db t g := by
  have ne : ∀ (b i : Nat), b < w.heap.size + 3 → ((wx.setCell ⟨w.heap.size + 1 + 1 + 1, 1, none⟩ (.int .u64 (wL t))).setCell ⟨w.heap.size + 1 + 1 + 1, 0, none⟩ (.int .u64 (wH t))).cell? ⟨b, i, none⟩ = wx.cell? ⟨b, i, none⟩ := fun b i hb => by
    rw [cellOther (Or.inl (by omega)), cellOther (Or.inl (by omega))]
  refine ⟨(ne _ _ (by omega)).trans h.a0, (ne _ _ (by omega)).trans h.a1, (ne _ _ (by omega)).trans h.b0, (ne _ _ (by omega)).trans h.b1, (ne _ _ (by omega)).trans h.r0, (ne _ _ (by omega)).trans h.r1, (ne _ _ (by omega)).trans h.r2, by simpa using h.f0, by simpa using h.f1, by simpa using h.f2, ?_, ?_, ?_, by simpa using h.g0, by simpa using h.g1, Below.setCell (Below.setCell h.bel (show w.heap.size ≤ w.heap.size + 1 + 1 + 1 by omega) _) (show w.heap.size ≤ w.heap.size + 1 + 1 + 1 by omega) _, by simpa using h.sz⟩
  · refine cellSame (u := .int .u64 (wH z)) ?_
    rw [cellOther (Or.inr (by decide))]; exact h.c0
  · rw [cellOther (Or.inr (by decide))]; exact cellSame h.c1
  · rw [cellOther (Or.inr (by decide)), cellOther (Or.inr (by decide))]; exact h.c2

theorem CrossW.start (w : World) (na da nb db g : Int) (e e' : TypeId) (n : Nat) : CrossW w (((((w.alloc (.cells #[.int .i64 na, .int .i64 da] e)).alloc (.cells #[.int .i64 nb, .int .i64 db] e)).alloc (.cells #[.int .u64 0, .int .u64 0, .int .i64 0] e')).drewN n).alloc (.cells #[.int .u64 0, .int .u64 0, .int .i64 g] e')) na da nb db 0 g := by
  have z1 : (w.alloc (.cells #[.int .i64 na, .int .i64 da] e)).heap.size = w.heap.size + 1 := by simp
  have z2 : ((w.alloc (.cells #[.int .i64 na, .int .i64 da] e)).alloc (.cells #[.int .i64 nb, .int .i64 db] e)).heap.size = w.heap.size + 1 + 1 := by simp
  have z3 : ((((w.alloc (.cells #[.int .i64 na, .int .i64 da] e)).alloc (.cells #[.int .i64 nb, .int .i64 db] e)).alloc (.cells #[.int .u64 0, .int .u64 0, .int .i64 0] e')).drewN n).heap.size = w.heap.size + 1 + 1 + 1 := by show (((w.alloc _).alloc _).alloc _).heap.size = _; simp
  have at0 : ∀ (x : World) (c : Array Value) (e : TypeId) (i : Nat) (v : Value), c[i]? = some v → (x.alloc (.cells c e)).cell? ⟨x.heap.size, i, none⟩ = some v := fun x c e i v h => by rw [World.cell?_alloc_at _ _ _ _ rfl]; exact h
  have dr : ∀ (x : World) (p : Addr), (x.drewN n).cell? p = x.cell? p := fun _ _ => rfl
  have df : ∀ (x : World) (p : Addr), (x.drewN n).frozen? p = x.frozen? p := fun _ _ => rfl
  have up3 : ∀ b i, b < w.heap.size + 3 → (((((w.alloc (.cells #[.int .i64 na, .int .i64 da] e)).alloc (.cells #[.int .i64 nb, .int .i64 db] e)).alloc (.cells #[.int .u64 0, .int .u64 0, .int .i64 0] e')).drewN n).alloc (.cells #[.int .u64 0, .int .u64 0, .int .i64 g] e')).cell? ⟨b, i, none⟩ = (((w.alloc (.cells #[.int .i64 na, .int .i64 da] e)).alloc (.cells #[.int .i64 nb, .int .i64 db] e)).alloc (.cells #[.int .u64 0, .int .u64 0, .int .i64 0] e')).cell? ⟨b, i, none⟩ := fun b i h => by
    rw [World.cell?_alloc_past _ _ _ (by rw [z3]; exact h), dr]
  have uf3 : ∀ b i, b < w.heap.size + 3 → (((((w.alloc (.cells #[.int .i64 na, .int .i64 da] e)).alloc (.cells #[.int .i64 nb, .int .i64 db] e)).alloc (.cells #[.int .u64 0, .int .u64 0, .int .i64 0] e')).drewN n).alloc (.cells #[.int .u64 0, .int .u64 0, .int .i64 g] e')).frozen? ⟨b, i, none⟩ = (((w.alloc (.cells #[.int .i64 na, .int .i64 da] e)).alloc (.cells #[.int .i64 nb, .int .i64 db] e)).alloc (.cells #[.int .u64 0, .int .u64 0, .int .i64 0] e')).frozen? ⟨b, i, none⟩ := fun b i h => by
    rw [World.frozen?_alloc_past _ _ _ (by rw [z3]; exact h), df]
  refine ⟨?_, ?_, ?_, ?_, ?_, ?_, ?_, ?_, ?_, ?_, ?_, ?_, ?_, ?_, ?_, ?_, ?_⟩
  · rw [up3 _ _ (by omega), World.cell?_alloc_past _ _ _ (by rw [z2]; show w.heap.size < w.heap.size + 1 + 1; omega), World.cell?_alloc_past _ _ _ (by rw [z1]; show w.heap.size < w.heap.size + 1; omega)]; exact at0 _ _ _ _ _ rfl
  · rw [up3 _ _ (by omega), World.cell?_alloc_past _ _ _ (by rw [z2]; show w.heap.size < w.heap.size + 1 + 1; omega), World.cell?_alloc_past _ _ _ (by rw [z1]; show w.heap.size < w.heap.size + 1; omega)]; exact at0 _ _ _ _ _ rfl
  · rw [up3 _ _ (by omega), World.cell?_alloc_past _ _ _ (by rw [z2]; show w.heap.size + 1 < w.heap.size + 1 + 1; omega), ← z1]; exact at0 _ _ _ _ _ rfl
  · rw [up3 _ _ (by omega), World.cell?_alloc_past _ _ _ (by rw [z2]; show w.heap.size + 1 < w.heap.size + 1 + 1; omega), ← z1]; exact at0 _ _ _ _ _ rfl
  · rw [up3 _ _ (by omega), ← z2]; exact at0 _ _ _ _ _ rfl
  · rw [up3 _ _ (by omega), ← z2]; exact at0 _ _ _ _ _ rfl
  · rw [up3 _ _ (by omega), ← z2]; exact at0 _ _ _ _ _ rfl
  · rw [uf3 _ _ (by omega)]; exact World.frozen?_alloc_at _ _ _ _ z2.symm
  · rw [uf3 _ _ (by omega)]; exact World.frozen?_alloc_at _ _ _ _ z2.symm
  · rw [uf3 _ _ (by omega)]; exact World.frozen?_alloc_at _ _ _ _ z2.symm
  · rw [← z3]; exact at0 _ _ _ _ _ rfl
  · rw [← z3]; exact at0 _ _ _ _ _ rfl
  · rw [← z3]; exact at0 _ _ _ _ _ rfl
  · exact World.frozen?_alloc_at _ _ _ _ z3.symm
  · exact World.frozen?_alloc_at _ _ _ _ z3.symm
  · exact Below.alloc ((Below.alloc (Below.alloc (Below.alloc (Below.refl _ w) (Nat.le_refl _) _) (by simp) _) (by simp; omega) _).trans ((drewN_belowR _ n).mono (by simp; omega))) (by rw [z3]; omega) _
  · simp

end Go.Proofs.YtdmdgoeacafpiaaGreatDoor

namespace Go.Proofs.YtdmdgoeacafpiaaGreatDoor
open Go.RowKit
set_option linter.unusedVariables false

/-- What the sum's parts are. -/
def sumBy (na da nb db : Int) : Int := ((Int.gcd (absI (crossZ na da nb db) % crossG da db) (crossG da db) : Nat) : Int)

theorem gcd_rest (z : Int) {g : Int} (hg : 0 < g) : Int.gcd (absI z % g) g = Nat.gcd z.natAbs g.natAbs := by
  obtain ⟨G, rfl⟩ := Int.eq_ofNat_of_zero_le (show 0 ≤ g by omega)
  unfold absI
  show Nat.gcd ((((z.natAbs : Nat) : Int) % (G : Int)).natAbs) G = Nat.gcd z.natAbs G
  rw [show (((z.natAbs : Nat) : Int) % (G : Int)).natAbs = z.natAbs % G from by rw [← Int.natCast_emod, Int.natAbs_natCast]]
  rw [Nat.gcd_comm, Nat.gcd_comm z.natAbs, Nat.gcd_rec G, Nat.mod_mod, ← Nat.gcd_rec]
  
theorem sum_low {na da nb db : Int} (ha : OkR na da) (hb : OkR nb db) :
    lowV (sN ((crossZ na da nb db).tdiv (sumBy na da nb db))) (fitN (da.tdiv (crossG da db) * db.tdiv (sumBy na da nb db))) (firstE (sE ((crossZ na da nb db).tdiv (sumBy na da nb db))) (fitE (da.tdiv (crossG da db) * db.tdiv (sumBy na da nb db)))) = fitV (rat na da + rat nb db) := by
  have hg := crossG_pos (da := da) hb.d0
  have eby : sumBy na da nb db = ((Nat.gcd (crossZ na da nb db).natAbs (Int.gcd da db) : Nat) : Int) := by
    unfold sumBy
    rw [gcd_rest _ hg]; rfl
  obtain ⟨A, hA⟩ := Int.eq_ofNat_of_zero_le (show 0 ≤ da by have := ha.d0; omega)
  obtain ⟨B, hB⟩ := Int.eq_ofNat_of_zero_le (show 0 ≤ db by have := hb.d0; omega)
  have hG : (Int.gcd da db) = Nat.gcd (rat na da).den (rat nb db).den := by rw [ha.denN, hb.denN]; rfl
  have hz : crossZ na da nb db = (rat na da).num * (((rat nb db).den / Int.gcd da db : Nat) : Int) + (rat nb db).num * (((rat na da).den / Int.gcd da db : Nat) : Int) := by
    unfold crossZ crossG
    rw [ha.num, hb.num, ha.denN, hb.denN, hA, hB]
    rfl
  obtain ⟨h1, h2⟩ := add_parts (rat na da) (rat nb db) hG hz
  rw [eby]
  refine low_thr _ _ _ h1 ?_
  rw [h2, ha.denN, hb.denN]
  have d1 : Nat.gcd (crossZ na da nb db).natAbs (Int.gcd da db) ∣ B := by
    refine Nat.dvd_trans (Nat.gcd_dvd_right _ _) ?_
    have : Int.gcd da db = Nat.gcd A B := by rw [hA, hB]; rfl
    rw [this]; exact Nat.gcd_dvd_right _ _
  unfold crossG
  generalize Nat.gcd (crossZ na da nb db).natAbs (Int.gcd da db) = y at *
  generalize Int.gcd da db = G at *
  subst hA hB
  show (((A / G * B / y : Nat)) : Int) = ((A / G : Nat) : Int) * ((B / y : Nat) : Int)
  rw [← Int.natCast_mul, Nat.mul_div_assoc _ d1]

/-- The cells that sum keeps. -/
structure SumW (w wx : World) (Q : Nat) (na da nb db z g : Int) : Prop where
  box : Box2 w wx na da nb db
  c0 : wx.cell? ⟨Q, 0, none⟩ = some (.int .u64 (wH z))
  c1 : wx.cell? ⟨Q, 1, none⟩ = some (.int .u64 (wL z))
  c2 : wx.cell? ⟨Q, 2, none⟩ = some (.int .i64 g)
  lq : Q < wx.heap.size
theorem SumW.keep {w wx w1 : World} {Q : Nat} {na da nb db z g : Int} (h : SumW w wx Q na da nb db z g) (hb : Below wx.heap.size wx w1) : SumW w w1 Q na da nb db z g := by
  have hc : ∀ i, w1.cell? ⟨Q, i, none⟩ = wx.cell? ⟨Q, i, none⟩ := fun i => hb.cell (p := ⟨Q, i, none⟩) h.lq
  exact ⟨h.box.keep hb, (hc _).trans h.c0, (hc _).trans h.c1, (hc _).trans h.c2, Nat.lt_of_lt_of_le h.lq hb.size⟩
theorem SumW.start {w wx w1 : World} {na da nb db z g : Int} {e : TypeId} (h : Box2 w wx na da nb db) (hb : Below wx.heap.size wx w1) : SumW w (w1.alloc (.cells #[.int .u64 (wH z), .int .u64 (wL z), .int .i64 g] e)) w1.heap.size na da nb db z g :=
  ⟨(h.keep hb).keep (Below.alloc (Below.refl _ _) (Nat.le_refl _) _), by rw [World.cell?_alloc_at _ _ _ _ rfl]; rfl, by rw [World.cell?_alloc_at _ _ _ _ rfl]; rfl, by rw [World.cell?_alloc_at _ _ _ _ rfl]; rfl, by simp⟩

end Go.Proofs.YtdmdgoeacafpiaaGreatDoor

namespace Go.Proofs.YtdmdgoeacafpiaaGreatDoor
open Go.RowKit
set_option linter.unusedVariables false

theorem drew_belowR {w w' : World} (h : Below w.drew.heap.size w.drew w') : Below w.heap.size w w' := ⟨h.os, h.tape, h.output, h.size, h.block⟩

end Go.Proofs.YtdmdgoeacafpiaaGreatDoor

namespace Go.Proofs.YtdmdgoeacafpiaaGreatDoor
open Go.RowKit
set_option linter.unusedVariables false

theorem OkR.opp {n d : Int} (h : OkR n d) : OkR (-n) d := ⟨h.d0, h.d1, by have := h.n1; omega, by have := h.n0; omega, by rw [Int.gcd_comm, Int.gcd_neg, Int.gcd_comm]; exact h.g⟩
theorem rat_opp (n d : Int) : rat (-n) d = -rat n d := (Rat.neg_divInt n d).symm
theorem OkR.inv {n d : Int} (h : OkR n d) (hn : n ≠ 0) : OkR (sgn (decide (n < 0)) d) (absI n) := by
  obtain ⟨d0, d1, n0, n1, g⟩ := h
  have e : Int.gcd (sgn (decide (n < 0)) d) (absI n) = Int.gcd n d := by
    rw [Int.gcd_comm n d]
    unfold sgn absI Int.gcd
    split <;> simp
  refine ⟨by unfold absI; omega, by unfold absI; omega, ?_, ?_, by rw [e]; exact g⟩
  · unfold sgn; split <;> omega
  · unfold sgn; split <;> omega
theorem rat_inv {n d : Int} : rat (sgn (decide (n < 0)) d) (absI n) = (rat n d)⁻¹ := by
  unfold rat
  rw [Rat.inv_divInt]
  by_cases h : n < 0
  · rw [decide_eq_true h, absI_neg h]; exact Rat.neg_divInt_neg _ _
  · rw [decide_eq_false h, absI_nonneg (by omega)]; rfl

/-- A closure's cells: two ratios that it captured, and its result in a new block. -/
structure Cl2 (w wx : World) (A B : Nat) (na da nb db : Int) : Prop where
  a0 : wx.cell? ⟨A, 0, none⟩ = some (.int .i64 na)
  a1 : wx.cell? ⟨A, 1, none⟩ = some (.int .i64 da)
  b0 : wx.cell? ⟨B, 0, none⟩ = some (.int .i64 nb)
  b1 : wx.cell? ⟨B, 1, none⟩ = some (.int .i64 db)
  r0 : wx.cell? ⟨w.heap.size, 0, none⟩ = some (.int .i64 0)
  r1 : wx.cell? ⟨w.heap.size, 1, none⟩ = some (.int .i64 0)
  f0 : wx.frozen? ⟨w.heap.size, 0, none⟩ = false
  f1 : wx.frozen? ⟨w.heap.size, 1, none⟩ = false
  bel : Below w.heap.size w wx
  la : A < w.heap.size
  lb : B < w.heap.size
  sz : w.heap.size + 1 ≤ wx.heap.size
theorem Cl2.keep {w wx w1 : World} {A B : Nat} {na da nb db : Int} (h : Cl2 w wx A B na da nb db) (hb : Below wx.heap.size wx w1) : Cl2 w w1 A B na da nb db := by
  have hs := h.sz
  have hs1 := hb.size
  have la := h.la
  have lb := h.lb
  have hc : ∀ b i, b < w.heap.size + 1 → w1.cell? ⟨b, i, none⟩ = wx.cell? ⟨b, i, none⟩ := fun b i hb' => hb.cell (p := ⟨b, i, none⟩) (show b < wx.heap.size by omega)
  have hf : ∀ b i, b < w.heap.size + 1 → w1.frozen? ⟨b, i, none⟩ = wx.frozen? ⟨b, i, none⟩ := fun b i hb' => hb.frozen (p := ⟨b, i, none⟩) (show b < wx.heap.size by omega)
  exact ⟨(hc _ _ (by omega)).trans h.a0, (hc _ _ (by omega)).trans h.a1, (hc _ _ (by omega)).trans h.b0, (hc _ _ (by omega)).trans h.b1, (hc _ _ (by omega)).trans h.r0, (hc _ _ (by omega)).trans h.r1, (hf _ _ (by omega)).trans h.f0, (hf _ _ (by omega)).trans h.f1, h.bel.trans (hb.mono (by omega)), la, lb, by omega⟩
theorem Cl2.start {w : World} {A B : Nat} {na da nb db : Int} (e : TypeId) (la : A < w.heap.size) (lb : B < w.heap.size) (a0 : w.cell? ⟨A, 0, none⟩ = some (.int .i64 na)) (a1 : w.cell? ⟨A, 1, none⟩ = some (.int .i64 da)) (b0 : w.cell? ⟨B, 0, none⟩ = some (.int .i64 nb)) (b1 : w.cell? ⟨B, 1, none⟩ = some (.int .i64 db)) :
    Cl2 w (w.alloc (.cells #[.int .i64 0, .int .i64 0] e)) A B na da nb db :=
  ⟨by rw [World.cell?_alloc_past _ _ _ la]; exact a0, by rw [World.cell?_alloc_past _ _ _ la]; exact a1, by rw [World.cell?_alloc_past _ _ _ lb]; exact b0, by rw [World.cell?_alloc_past _ _ _ lb]; exact b1, by rw [World.cell?_alloc_at _ _ _ _ rfl]; rfl, by rw [World.cell?_alloc_at _ _ _ _ rfl]; rfl, World.frozen?_alloc_at _ _ _ _ rfl, World.frozen?_alloc_at _ _ _ _ rfl, Below.alloc (Below.refl _ _) (Nat.le_refl _) _, la, lb, by simp⟩
theorem Cl2.done {w wx : World} {A B : Nat} {na da nb db : Int} (h : Cl2 w wx A B na da nb db) (x y : Value) : Below w.heap.size w ((wx.setCell ⟨w.heap.size, 0, none⟩ x).setCell ⟨w.heap.size, 1, none⟩ y) :=
  Below.setCell (Below.setCell h.bel (Nat.le_refl _) _) (Nat.le_refl _) _

end Go.Proofs.YtdmdgoeacafpiaaGreatDoor

namespace Go.Proofs.YtdmdgoeacafpiaaGreatDoor
open Go.RowKit
set_option linter.unusedVariables false

/-- What is told of two ratios: an error, or the number. -/
def opN (E : Int) (q : Rat) : Int := if E = 0 then rN q else 0
def opD (E : Int) (q : Rat) : Int := if E = 0 then rD q else 0
def opE (E : Int) (q : Rat) : Int := if E = 0 then rE q else E
def bothE (na da nb db : Int) : Int := firstE (chkE na da) (chkE nb db)
theorem bothE_ok {na da nb db : Int} (h : bothE na da nb db = 0) (na0 : -9223372036854775808 ≤ na) (na1 : na ≤ 9223372036854775807) (da1 : da ≤ 9223372036854775807) (nb0 : -9223372036854775808 ≤ nb) (nb1 : nb ≤ 9223372036854775807) (db1 : db ≤ 9223372036854775807) : OkR na da ∧ OkR nb db := by
  unfold bothE firstE at h
  by_cases g : chkE na da = 0
  · rw [if_pos g] at h
    exact ⟨chkE_zero g na0 na1 da1, chkE_zero h nb0 nb1 db1⟩
  · rw [if_neg g] at h; exact absurd h g
theorem op_ok {E : Int} (h : E = 0) (q : Rat) : tup (opN E q) (opD E q) (opE E q) = fitV q := by unfold opN opD opE fitV; rw [if_pos h, if_pos h, if_pos h]
theorem op_err {E : Int} (h : E ≠ 0) (q : Rat) : opN E q = 0 ∧ opD E q = 0 ∧ opE E q = E := by unfold opN opD opE; rw [if_neg h, if_neg h, if_neg h]; exact ⟨rfl, rfl, rfl⟩

end Go.Proofs.YtdmdgoeacafpiaaGreatDoor

/-
  Package ratio: sum.
-/
import Derived.Test.YtedjbmmegjgegaaRatE
namespace Go.Proofs.Ytedjbmmegjgegaa
open Go.RowKit
set_option linter.unusedVariables false

/-- What the sum's parts are. -/
def sumBy (na da nb db : Int) : Int := ((Int.gcd (absI (crossZ na da nb db) % crossG da db) (crossG da db) : Nat) : Int)

theorem gcd_rest (z : Int) {g : Int} (hg : 0 < g) : Int.gcd (absI z % g) g = Nat.gcd z.natAbs g.natAbs := by
  obtain ⟨G, rfl⟩ := Int.eq_ofNat_of_zero_le (show 0 ≤ g by omega)
  unfold absI
  show Nat.gcd ((((z.natAbs : Nat) : Int) % (G : Int)).natAbs) G = Nat.gcd z.natAbs G
  rw [show (((z.natAbs : Nat) : Int) % (G : Int)).natAbs = z.natAbs % G from by rw [← Int.natCast_emod, Int.natAbs_natCast]]
  rw [Nat.gcd_comm, Nat.gcd_comm z.natAbs, Nat.gcd_rec G, Nat.mod_mod, ← Nat.gcd_rec]
  
theorem sum_low {na da nb db : Int} (ha : OkR na da) (hb : OkR nb db) :
    lowV (sN ((crossZ na da nb db).tdiv (sumBy na da nb db))) (fitN (da.tdiv (crossG da db) * db.tdiv (sumBy na da nb db))) (firstE (sE ((crossZ na da nb db).tdiv (sumBy na da nb db))) (fitE (da.tdiv (crossG da db) * db.tdiv (sumBy na da nb db)))) = fitV (rat na da + rat nb db) := by
  have hg := crossG_pos (da := da) hb.d0
  have eby : sumBy na da nb db = ((Nat.gcd (crossZ na da nb db).natAbs (Int.gcd da db) : Nat) : Int) := by
    unfold sumBy
    rw [gcd_rest _ hg]; rfl
  obtain ⟨A, hA⟩ := Int.eq_ofNat_of_zero_le (show 0 ≤ da by have := ha.d0; omega)
  obtain ⟨B, hB⟩ := Int.eq_ofNat_of_zero_le (show 0 ≤ db by have := hb.d0; omega)
  have hG : (Int.gcd da db) = Nat.gcd (rat na da).den (rat nb db).den := by rw [ha.denN, hb.denN]; rfl
  have hz : crossZ na da nb db = (rat na da).num * (((rat nb db).den / Int.gcd da db : Nat) : Int) + (rat nb db).num * (((rat na da).den / Int.gcd da db : Nat) : Int) := by
    unfold crossZ crossG
    rw [ha.num, hb.num, ha.denN, hb.denN, hA, hB]
    rfl
  obtain ⟨h1, h2⟩ := add_parts (rat na da) (rat nb db) hG hz
  rw [eby]
  refine low_thr _ _ _ h1 ?_
  rw [h2, ha.denN, hb.denN]
  have d1 : Nat.gcd (crossZ na da nb db).natAbs (Int.gcd da db) ∣ B := by
    refine Nat.dvd_trans (Nat.gcd_dvd_right _ _) ?_
    have : Int.gcd da db = Nat.gcd A B := by rw [hA, hB]; rfl
    rw [this]; exact Nat.gcd_dvd_right _ _
  unfold crossG
  generalize Nat.gcd (crossZ na da nb db).natAbs (Int.gcd da db) = y at *
  generalize Int.gcd da db = G at *
  subst hA hB
  show (((A / G * B / y : Nat)) : Int) = ((A / G : Nat) : Int) * ((B / y : Nat) : Int)
  rw [← Int.natCast_mul, Nat.mul_div_assoc _ d1]

/-- The cells that sum keeps. -/
structure SumW (w wx : World) (Q : Nat) (na da nb db z g : Int) : Prop where
  box : Box2 w wx na da nb db
  c0 : wx.cell? ⟨Q, 0, none⟩ = some (.int .u64 (wH z))
  c1 : wx.cell? ⟨Q, 1, none⟩ = some (.int .u64 (wL z))
  c2 : wx.cell? ⟨Q, 2, none⟩ = some (.int .i64 g)
  lq : Q < wx.heap.size
theorem SumW.keep {w wx w1 : World} {Q : Nat} {na da nb db z g : Int} (h : SumW w wx Q na da nb db z g) (hb : Below wx.heap.size wx w1) : SumW w w1 Q na da nb db z g := by
  have hc : ∀ i, w1.cell? ⟨Q, i, none⟩ = wx.cell? ⟨Q, i, none⟩ := fun i => hb.cell (p := ⟨Q, i, none⟩) h.lq
  exact ⟨h.box.keep hb, (hc _).trans h.c0, (hc _).trans h.c1, (hc _).trans h.c2, Nat.lt_of_lt_of_le h.lq hb.size⟩
theorem SumW.start {w wx w1 : World} {na da nb db z g : Int} {e : TypeId} (h : Box2 w wx na da nb db) (hb : Below wx.heap.size wx w1) : SumW w (w1.alloc (.cells #[.int .u64 (wH z), .int .u64 (wL z), .int .i64 g] e)) w1.heap.size na da nb db z g :=
  ⟨(h.keep hb).keep (Below.alloc (Below.refl _ _) (Nat.le_refl _) _), by rw [World.cell?_alloc_at _ _ _ _ rfl]; rfl, by rw [World.cell?_alloc_at _ _ _ _ rfl]; rfl, by rw [World.cell?_alloc_at _ _ _ _ rfl]; rfl, by simp⟩

end Go.Proofs.Ytedjbmmegjgegaa

/-
  What follows for ratios' order: sums, differences, roundings.
-/
import Derived.Test.YtljhjjkbpckkjaaRLawsM
import Derived.Test.YtljhjjkbpckkjaaMdA
namespace Go.Proofs.Ytljhjjkbpckkjaa
open Go.RowKit
set_option linter.unusedVariables false

theorem cmp_less {na da nb db : Int} (ha : OkR na da) (hb : OkR nb db) : cmpS na da nb db = -1 ↔ rat na da < rat nb db := by
  rw [Rat.lt_iff, ha.num, hb.num, ha.den, hb.den]
  unfold cmpS
  rw [Int.sign_eq_neg_one_iff_neg]; omega
theorem cmp_more {na da nb db : Int} (ha : OkR na da) (hb : OkR nb db) : cmpS na da nb db = 1 ↔ rat nb db < rat na da := by
  rw [Rat.lt_iff, ha.num, hb.num, ha.den, hb.den]
  unfold cmpS
  rw [Int.sign_eq_one_iff_pos]; omega
theorem cmp_same {na da nb db : Int} (ha : OkR na da) (hb : OkR nb db) : cmpS na da nb db = 0 ↔ rat na da = rat nb db := by
  rw [Rat.eq_iff_mul_eq_mul, ha.num, hb.num, ha.den, hb.den]
  unfold cmpS
  rw [Int.sign_eq_zero_iff_zero]; omega
theorem cmp_cases (na da nb db : Int) : cmpS na da nb db = -1 ∨ cmpS na da nb db = 0 ∨ cmpS na da nb db = 1 := by
  unfold cmpS
  rcases Int.lt_trichotomy (na * db - nb * da) 0 with h | h | h
  · exact Or.inl (Int.sign_eq_neg_one_of_neg h)
  · exact Or.inr (Or.inl (by rw [h]; rfl))
  · exact Or.inr (Or.inr (Int.sign_eq_one_of_pos h))
theorem cmp_turn (na da nb db : Int) : cmpS nb db na da = -(cmpS na da nb db) := by
  unfold cmpS
  rw [← Int.sign_neg]; congr 1; omega

theorem num_pos {q : Rat} (h : 0 < q) : 0 < q.num := by
  have := (Rat.lt_iff 0 q).1 h
  simpa using this
theorem sub_pos {p q : Rat} (h : p < q) : 0 < (q - p).num := num_pos ((Rat.lt_iff_sub_pos p q).1 h)
theorem sub_neg {p q : Rat} (h : p < q) : (p - q).num < 0 := by
  have h1 := sub_pos h
  rw [← Rat.neg_sub q p]
  show -(q - p).num < 0; omega

theorem near_scale (p d k : Int) (hd : 0 < d) (hk : 0 < k) : nearI (p * k) (d * k) = nearI p d := by
  unfold nearI
  have em : p * k % (d * k) = p % d * k := by
    rw [Int.emod_def, Int.emod_def, Int.mul_ediv_mul_of_pos_left p d hk, Int.sub_mul, Int.mul_right_comm]
  rw [em, Int.mul_ediv_mul_of_pos_left p d hk]
  congr 1
  unfold up
  have e : d * k - p % d * k = (d - p % d) * k := by rw [Int.sub_mul]
  rw [e]
  have c1 : ((d - p % d) * k < p % d * k) ↔ (d - p % d < p % d) := ⟨fun h => Int.lt_of_mul_lt_mul_right h (by omega), fun h => Int.mul_lt_mul_of_pos_right h hk⟩
  have c2 : (p % d * k = (d - p % d) * k) ↔ (p % d = d - p % d) := ⟨fun h => Int.eq_of_mul_eq_mul_right (by omega) h, fun h => by rw [← h]⟩
  simp only [c1, c2]
theorem md_scale (a c k : Int) (hc : 0 < c) (hk : 0 < k) : md (a * k) 1 (c * k) = md a 1 c := by
  rw [md_one _ _ (Int.mul_pos hc hk), md_one _ _ hc]
  have e1 : absI (a * k) = absI a * k := by unfold absI; rw [Int.natAbs_mul, Int.natCast_mul]; congr 1; omega
  have e2 : decide (a * k < 0) = decide (a < 0) := by
    rw [Bool.eq_iff_iff, decide_eq_true_iff, decide_eq_true_iff]
    constructor
    · intro h
      by_cases g : a < 0
      · exact g
      · have := Int.mul_nonneg (show 0 ≤ a by omega) (show 0 ≤ k by omega); omega
    · intro h; exact Int.mul_neg_of_neg_of_pos h hk
  rw [e1, e2, near_scale _ _ _ hc hk]
theorem md_order {na da nb db : Int} (ha : OkR na da) (hb : OkR nb db) (h : rat na da < rat nb db) : md na 1 da ≤ md nb 1 db := by
  rw [Rat.lt_iff, ha.num, hb.num, ha.den, hb.den] at h
  rw [← md_scale na da db ha.d0 hb.d0, ← md_scale nb db da hb.d0 ha.d0, Int.mul_comm db da]
  exact md_one_mono _ _ _ (Int.mul_pos ha.d0 hb.d0) (by omega)

end Go.Proofs.Ytljhjjkbpckkjaa

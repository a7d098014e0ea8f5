/-
  Package ratio: product.
-/
import Derived.Test.YtgeneoamngfomaaGreatDoorRtA
import Derived.Test.YtgeneoamngfomaaGreatDoorWide
import Derived.Deep.RegionWith
import Derived.Deep.DeepCutAuto
namespace Go.Proofs.YtgeneoamngfomaaGreatDoor
open Go.RowKit
set_option linter.unusedVariables false

theorem tdiv_bd {n g : Int} (hg : 0 < g) (n0 : -9223372036854775807 ≤ n) (n1 : n ≤ 9223372036854775807) : -9223372036854775807 ≤ n.tdiv g ∧ n.tdiv g ≤ 9223372036854775807 := by
  have h : (n.tdiv g).natAbs ≤ n.natAbs := by rw [Int.natAbs_tdiv]; exact Nat.div_le_self _ _
  omega
theorem mul_same (a b : Int) (a0 : -9223372036854775808 ≤ a) (a1 : a ≤ 9223372036854775807) (b0 : -9223372036854775808 ≤ b) (b1 : b ≤ 9223372036854775807) (w : World) :
    Calls Tryz.prog 166 #[.int .i64 a, .int .i64 b] w fun e w' => e = .returned (.tuple #[.int .i64 (fitN (a * b)), .int .i64 (fitE (a * b))]) ∧ w' = w :=
  (mul_any a b w a0 a1 b0 b1).mono fun _ _ ⟨h, g⟩ => ⟨h, g.symm⟩

theorem mul_low {na da nb db : Int} (ha : OkR na da) (hb : OkR nb db) :
    lowV (fitN (na.tdiv (Int.gcd na db : Nat) * nb.tdiv (Int.gcd nb da : Nat))) (fitN (da.tdiv (Int.gcd nb da : Nat) * db.tdiv (Int.gcd na db : Nat))) (firstE (fitE (na.tdiv (Int.gcd na db : Nat) * nb.tdiv (Int.gcd nb da : Nat))) (fitE (da.tdiv (Int.gcd nb da : Nat) * db.tdiv (Int.gcd na db : Nat)))) = fitV (rat na da * rat nb db) := by
  obtain ⟨h1, h2⟩ := mul_parts (rat na da) (rat nb db)
  rw [ha.num, hb.num, ha.denN, hb.denN] at h1 h2
  refine low_fit _ _ _ h1 ?_
  rw [h2]
  obtain ⟨A, rfl⟩ := Int.eq_ofNat_of_zero_le (show 0 ≤ da by have := ha.d0; omega)
  obtain ⟨B, rfl⟩ := Int.eq_ofNat_of_zero_le (show 0 ≤ db by have := hb.d0; omega)
  show _ = ((A / Int.gcd nb A : Nat) : Int) * ((B / Int.gcd na B : Nat) : Int)
  rw [Int.natCast_mul]; rfl

theorem low_new (num den e f : Int) (w : World) :
    Calls Tryz.prog 167 #[.int .i64 num, .int .i64 den, .slice (some ⟨w.heap.size, 0, none⟩) 2 2] (w.alloc (.cells #[.int .i64 e, .int .i64 f] 31)) fun r w' => r = .returned (lowV num den (firstE e f)) ∧ Below (w.alloc (.cells #[.int .i64 e, .int .i64 f] 31)).heap.size (w.alloc (.cells #[.int .i64 e, .int .i64 f] 31)) w' :=
  low_any num den e f w.heap.size 2 _ (by simp) (by rw [World.cell?_alloc_at _ _ _ _ rfl]; rfl) (by rw [World.cell?_alloc_at _ _ _ _ rfl]; rfl)

set_option maxHeartbeats 2000000 in
set_option maxRecDepth 100000 in
theorem product_any (na da nb db : Int) (w : World) (ha : OkR na da) (hb : OkR nb db) :
    Calls Tryz.prog 147 #[.agg #[.int .i64 na, .int .i64 da], .agg #[.int .i64 nb, .int .i64 db]] w fun e w' => e = .returned (fitV (rat na da * rat nb db)) ∧ Below w.heap.size w w' := by
  obtain ⟨da0, da1, na0, na1, _⟩ := id ha
  obtain ⟨db0, db1, nb0, nb1, _⟩ := id hb
  have q1 := gcd_le_right (n := na) db0
  have q2 := gcd_le_right (n := nb) da0
  have HL := Lib.hid (mul_low ha hb)
  generalize rat na da * rat nb db = q at HL ⊢
  have HC1 := Lib.hid (fun w => common_any na db w (by omega) (by omega) (by omega) (by omega) (by omega))
  have HC2 := Lib.hid (fun w => common_any nb da w (by omega) (by omega) (by omega) (by omega) (by omega))
  have p1 : 0 < ((Int.gcd na db : Nat) : Int) := by have := Int.gcd_pos_of_ne_zero_right na (show db ≠ 0 by omega); omega
  have p2 : 0 < ((Int.gcd nb da : Nat) : Int) := by have := Int.gcd_pos_of_ne_zero_right nb (show da ≠ 0 by omega); omega
  generalize ((Int.gcd na db : Nat) : Int) = g1 at *
  generalize ((Int.gcd nb da : Nat) : Int) = g2 at *
  obtain ⟨x1, y1⟩ := tdiv_bd p1 na0 na1
  obtain ⟨x2, y2⟩ := tdiv_bd p2 nb0 nb1
  obtain ⟨x3, y3⟩ := tdiv_bd p2 (show -9223372036854775807 ≤ da by omega) da1
  obtain ⟨x4, y4⟩ := tdiv_bd p1 (show -9223372036854775807 ≤ db by omega) db1
  have HM1 := Lib.hid (fun w => mul_same (na.tdiv g1) (nb.tdiv g2) (by omega) (by omega) (by omega) (by omega) w)
  have HM2 := Lib.hid (fun w => mul_same (da.tdiv g2) (db.tdiv g1) (by omega) (by omega) (by omega) (by omega) w)
  have w1 := IntWalk.i64_in (na.tdiv g1) (by omega)
  have w2 := IntWalk.i64_in (nb.tdiv g2) (by omega)
  have w3 := IntWalk.i64_in (da.tdiv g2) (by omega)
  have w4 := IntWalk.i64_in (db.tdiv g1) (by omega)
  have z1 : (g1 == 0) = false := by simp; omega
  have z2 : (g2 == 0) = false := by simp; omega
  clear ha hb
  go_enter Tryz.func147, Tryz.ntmps147
  go_wp2_with fail
  have HB := Lib.hid (Box2.start w na da nb db 58)
  generalize (((w.alloc (.cells #[.int .i64 na, .int .i64 da] 58)).alloc (.cells #[.int .i64 nb, .int .i64 db] 58)).alloc (.cells #[.int .i64 0, .int .i64 0] 58)) = W at HB ⊢
  obtain ⟨a0, a1, b0, b1, r0, r1, f0, f1, _, _⟩ := id HB.out
  go_quiet (first | (go_at_call 110; with_reducible refine Calls.quiet_of (HC1.out _)) | (go_at_call 110; with_reducible refine Calls.quiet_of (HC2.out _)))
  go_wp2_with fail
  have HB2 := Lib.hid (HB.out.keep (drewN_belowR W nq))
  generalize W.drewN nq = W2 at HB2 ⊢
  clear a0 a1 b0 b1 r0 r1 f0 f1 HB
  obtain ⟨a0, a1, b0, b1, r0, r1, f0, f1, _, _⟩ := id HB2.out
  go_quiet ((go_at_call 166; with_reducible refine Calls.quiet_of_same (HM1.out _)))
  go_wp2_with fail
  have HB3 := Lib.hid (HB2.out.keep (drewN_belowR W2 nq))
  generalize W2.drewN nq = W3 at HB3 ⊢
  clear a0 a1 b0 b1 r0 r1 f0 f1 HB2
  obtain ⟨a0, a1, b0, b1, r0, r1, f0, f1, _, _⟩ := id HB3.out
  go_quiet ((go_at_call 166; with_reducible refine Calls.quiet_of_same (HM2.out _)))
  go_wp2_with fail
  have HB4 := Lib.hid (HB3.out.keep (drewN_belowR W3 nq))
  clear a0 a1 b0 b1 r0 r1 f0 f1 HB3
  have HLo := Lib.hid (low_new (fitN (na.tdiv g1 * nb.tdiv g2)) (fitN (da.tdiv g2 * db.tdiv g1)) (fitE (na.tdiv g1 * nb.tdiv g2)) (fitE (da.tdiv g2 * db.tdiv g1)) (W3.drewN nq))
  rw [HL.out] at HLo
  unfold fitV tup at HLo
  refine HLo.out.mono ?_
  rintro e W5 ⟨rfl, hb5⟩
  have HB5 := Lib.hid ((HB4.out.keep (Below.alloc (Below.refl _ _) (Nat.le_refl _) _)).keep hb5)
  clear HLo hb5 HL HM1 HM2 HC1 HC2
  obtain ⟨a0, a1, b0, b1, r0, r1, f0, f1, _, _⟩ := id HB5.out
  go_wp2_with fail
  exact bodyPost_ret (v := fitV q) (by simp [results, Tryz.results147, go_sem, r0, r1, fitV, tup]) rfl ⟨rfl, HB5.out.done _ _⟩

end Go.Proofs.YtgeneoamngfomaaGreatDoor

namespace Go.Proofs.YtgeneoamngfomaaGreatDoor
open Go.RowKit
set_option linter.unusedVariables false

theorem rem64_int (h l y : Int) (w : World) (h0 : 0 ≤ h) (h1 : h ≤ 18446744073709551615) (l0 : 0 ≤ l) (l1 : l ≤ 18446744073709551615) (y0 : 0 < y) (y1 : y ≤ 18446744073709551615) :
    Calls Tryz.prog 187 #[.int .u64 h, .int .u64 l, .int .u64 y] w fun e w' => e = .returned (.int .u64 (divR h l y)) ∧ ∃ n, w' = w.drewN n := by
  have m0 := Int.emod_nonneg h (show y ≠ 0 by omega)
  have m1 := Int.emod_lt_of_pos h y0
  have e : divR (h % y) l y = divR h l y := by
    unfold divR
    rw [Int.add_emod, Int.mul_emod, Int.emod_emod_of_dvd _ (Int.dvd_refl y), ← Int.mul_emod, ← Int.add_emod]
  have HD := Lib.hid (fun w => div64_int (h % y) l y w m0 m1 l0 l1 y1)
  rw [e] at HD
  have hz : (y == 0) = false := by simp; omega
  clear e
  generalize divR h l y = r at *
  generalize divQ (h % y) l y = q at *
  go_enter Tryz.func187, Tryz.ntmps187
  go_wp2_with (go_at_call 158; refine (HD.out _).mono ?_; rintro e w' ⟨rfl, n, rfl⟩)
  go_ret
  exact ⟨rfl, _, rfl⟩

theorem hl_bd (z : Int) (z0 : -170141183460469231731687303715884105728 ≤ z) (z1 : z < 170141183460469231731687303715884105728) : 0 ≤ mulHi (absI z) 1 ∧ mulHi (absI z) 1 ≤ 18446744073709551615 ∧ 0 ≤ mulLo (absI z) 1 ∧ mulLo (absI z) 1 ≤ 18446744073709551615 ∧ mulHi (absI z) 1 * 18446744073709551616 + mulLo (absI z) 1 = absI z := by
  unfold mulHi mulLo absI; omega

set_option maxHeartbeats 1000000 in
set_option maxRecDepth 100000 in
theorem wrest_any (b : Nat) (z y : Int) (w : World) (z0 : -170141183460469231731687303715884105728 ≤ z) (z1 : z < 170141183460469231731687303715884105728) (y0 : 0 < y) (y1 : y ≤ 9223372036854775807)
    (c0 : w.cell? ⟨b, 0, none⟩ = some (.int .u64 (wH z))) (c1 : w.cell? ⟨b, 1, none⟩ = some (.int .u64 (wL z))) :
    Calls Tryz.prog 184 #[.pointer (some ⟨b, 0, none⟩), .int .i64 y] w fun e w' => e = .returned (.int .i64 (absI z % y)) ∧ ∃ n, w' = w.drewN n := by
  obtain ⟨h0, h1, l0, l1, he⟩ := hl_bd z z0 z1
  have HS := Lib.hid (wsize_any b z w z0 z1 c0 c1)
  have HR := Lib.hid (fun w => rem64_int (mulHi (absI z) 1) (mulLo (absI z) 1) y w h0 h1 l0 l1 y0 (by omega))
  have e : divR (mulHi (absI z) 1) (mulLo (absI z) 1) y = absI z % y := by unfold divR; rw [he]
  rw [e] at HR
  have r0 := Int.emod_nonneg (absI z) (show y ≠ 0 by omega)
  have r1 := Int.emod_lt_of_pos (absI z) y0
  clear z0 z1 c0 c1 e he
  generalize mulHi (absI z) 1 = sh at *
  generalize mulLo (absI z) 1 = sl at *
  generalize absI z % y = r at *
  go_enter Tryz.func184, Tryz.ntmps184
  go_wp2_with (first | (go_at_call 186; refine HS.out.mono ?_; rintro e w' ⟨rfl, n, rfl⟩) | (go_at_call 187; refine (HR.out _).mono ?_; rintro e w' ⟨rfl, n, rfl⟩))
  go_ret
  exact ⟨rfl, _, rfl⟩

theorem tdiv_sign (z y : Int) (y0 : 0 < y) : z.tdiv y = z.sign * (absI z / y) := by
  unfold absI
  rcases Int.lt_trichotomy z 0 with h | h | h
  · rw [Int.sign_eq_neg_one_of_neg h]
    obtain ⟨k, rfl⟩ : ∃ k : Nat, z = -(k : Int) := ⟨z.natAbs, by omega⟩
    rw [Int.neg_tdiv, Int.tdiv_eq_ediv_of_nonneg (by omega), Int.natAbs_neg, Int.natAbs_natCast]; omega
  · subst h; simp
  · rw [Int.sign_eq_one_of_pos h, Int.tdiv_eq_ediv_of_nonneg (by omega), Int.one_mul]
    congr 1; omega
theorem tdiv_abs (z y : Int) (y0 : 0 < y) : absI (z.tdiv y) = absI z / y := by
  rw [tdiv_sign z y y0]
  have h : 0 ≤ absI z / y := Int.ediv_nonneg (by unfold absI; omega) (by omega)
  rcases Int.lt_trichotomy z 0 with g | g | g
  · rw [Int.sign_eq_neg_one_of_neg g]; unfold absI at *; omega
  · subst g; simp [absI]
  · rw [Int.sign_eq_one_of_pos g]; unfold absI at *; omega
theorem inS_abs (n : Int) : inS n = decide (absI n ≤ 9223372036854775807) := by
  unfold inS absI
  rw [Bool.eq_iff_iff, decide_eq_true_iff, decide_eq_true_iff]; omega

set_option maxHeartbeats 1000000 in
set_option maxRecDepth 100000 in
theorem wthr_any (b : Nat) (z y : Int) (w : World) (z0 : -170141183460469231731687303715884105728 ≤ z) (z1 : z < 170141183460469231731687303715884105728) (y0 : 0 < y) (y1 : y ≤ 9223372036854775807)
    (c0 : w.cell? ⟨b, 0, none⟩ = some (.int .u64 (wH z))) (c1 : w.cell? ⟨b, 1, none⟩ = some (.int .u64 (wL z))) :
    Calls Tryz.prog 185 #[.pointer (some ⟨b, 0, none⟩), .int .i64 y] w fun e w' => e = .returned (.tuple #[.int .i64 (sN (z.tdiv y)), .int .i64 (sE (z.tdiv y))]) ∧ ∃ n, w' = w.drewN n := by
  obtain ⟨h0, h1, l0, l1, he⟩ := hl_bd z z0 z1
  have HS := Lib.hid (wsize_any b z w z0 z1 c0 c1)
  have HSg := Lib.hid (fun n => wsign_any b z (w.drewN n) z0 z1 c0 c1)
  have ha := tdiv_abs z y y0
  have hi := inS_abs (z.tdiv y)
  rw [ha] at hi
  have hsg := tdiv_sign z y y0
  by_cases hov : y ≤ mulHi (absI z) 1
  · have hq : ¬ absI z / y ≤ 9223372036854775807 := by
      have : 18446744073709551616 ≤ absI z / y := by
        rw [Int.le_ediv_iff_mul_le y0]
        have h2 : 18446744073709551616 * y ≤ 18446744073709551616 * mulHi (absI z) 1 := Int.mul_le_mul_of_nonneg_left hov (by decide)
        omega
      omega
    rw [decide_eq_false hq] at hi
    have e1 : sN (z.tdiv y) = 0 := by unfold sN; rw [hi]; rfl
    have e2 : sE (z.tdiv y) = 11 := by unfold sE; rw [hi]; rfl
    rw [e1, e2]
    clear z0 z1 c0 c1 he ha hi hsg hq e1 e2
    generalize mulHi (absI z) 1 = sh at *
    generalize mulLo (absI z) 1 = sl at *
    go_enter Tryz.func185, Tryz.ntmps185
    go_wp2_with (go_at_call 186; refine HS.out.mono ?_; rintro e w' ⟨rfl, n, rfl⟩)
    go_ret2
    exact ⟨rfl, _, rfl⟩
  · have HD := Lib.hid (fun w => div64_int (mulHi (absI z) 1) (mulLo (absI z) 1) y w h0 (by omega) l0 l1 (by omega))
    have e : divQ (mulHi (absI z) 1) (mulLo (absI z) 1) y = absI z / y := by unfold divQ; rw [he]
    rw [e] at HD
    have q0 : 0 ≤ absI z / y := Int.ediv_nonneg (by unfold absI; omega) (by omega)
    by_cases hq : absI z / y ≤ 9223372036854775807
    · rw [decide_eq_true hq] at hi
      have e1 : sN (z.tdiv y) = z.sign * (absI z / y) := by unfold sN; rw [hi, if_pos rfl]; exact hsg
      have e2 : sE (z.tdiv y) = 0 := by unfold sE; rw [hi]; rfl
      rw [e1, e2]
      have hb : -9223372036854775808 ≤ z.sign * (absI z / y) ∧ z.sign * (absI z / y) ≤ 9223372036854775807 := by
        rcases Int.lt_trichotomy z 0 with g | g | g
        · rw [Int.sign_eq_neg_one_of_neg g]; omega
        · subst g; simp
        · rw [Int.sign_eq_one_of_pos g]; omega
      have hw : wrap64 (z.sign * (absI z / y)) = z.sign * (absI z / y) := IntWalk.wrap64_in _ hb
      clear z0 z1 c0 c1 he ha hi hsg e1 e2 e hb
      generalize mulHi (absI z) 1 = sh at *
      generalize mulLo (absI z) 1 = sl at *
      generalize absI z / y = q at *
      generalize divR sh sl y = r at *
      generalize z.sign = sg at *
      obtain ⟨p, hp⟩ : ∃ p, p = sg * q := ⟨_, rfl⟩
      rw [← hp] at hw
      have HP := Lib.hid hp
      go_enter Tryz.func185, Tryz.ntmps185
      go_wp2_with (first | (go_at_call 186; refine HS.out.mono ?_; rintro e w' ⟨rfl, n, rfl⟩) | (go_at_call 158; refine (HD.out _).mono ?_; rintro e w' ⟨rfl, n, rfl⟩) | (go_at_call 151; refine (HSg.out _).mono ?_; rintro e w' ⟨rfl, rfl⟩))
      go_ret2
      exact ⟨ret_two (by first | rfl | (rw [← HP.out]; exact hw)) rfl, _, rfl⟩
    · rw [decide_eq_false hq] at hi
      have e1 : sN (z.tdiv y) = 0 := by unfold sN; rw [hi]; rfl
      have e2 : sE (z.tdiv y) = 11 := by unfold sE; rw [hi]; rfl
      rw [e1, e2]
      clear z0 z1 c0 c1 he ha hi hsg e1 e2 e
      generalize mulHi (absI z) 1 = sh at *
      generalize mulLo (absI z) 1 = sl at *
      generalize absI z / y = q at *
      generalize divR sh sl y = r at *
      go_enter Tryz.func185, Tryz.ntmps185
      go_wp2_with (first | (go_at_call 186; refine HS.out.mono ?_; rintro e w' ⟨rfl, n, rfl⟩) | (go_at_call 158; refine (HD.out _).mono ?_; rintro e w' ⟨rfl, n, rfl⟩))
      go_ret2
      exact ⟨rfl, _, rfl⟩

end Go.Proofs.YtgeneoamngfomaaGreatDoor

namespace Go.Proofs.YtgeneoamngfomaaGreatDoor
open Go.RowKit
set_option linter.unusedVariables false

/-- What two ratios, multiplied crosswise, come to. -/
def crossG (da db : Int) : Int := ((Int.gcd da db : Nat) : Int)
def crossZ (na da nb db : Int) : Int := na * db.tdiv (crossG da db) + nb * da.tdiv (crossG da db)

theorem crossG_pos {da db : Int} (hd : 0 < db) : 0 < crossG da db := by unfold crossG; have := Int.gcd_pos_of_ne_zero_right da (show db ≠ 0 by omega); omega

theorem prod_lim {x y : Int} (x0 : -9223372036854775807 ≤ x) (x1 : x ≤ 9223372036854775807) (y0 : -9223372036854775807 ≤ y) (y1 : y ≤ 9223372036854775807) : -85070591730234615847396907784232501249 ≤ x * y ∧ x * y ≤ 85070591730234615847396907784232501249 := by
  have h1 : x.natAbs ≤ 9223372036854775807 := by omega
  have h2 : y.natAbs ≤ 9223372036854775807 := by omega
  have h3 : (x * y).natAbs ≤ 9223372036854775807 * 9223372036854775807 := by rw [Int.natAbs_mul]; exact Nat.mul_le_mul h1 h2
  omega
theorem crossZ_lim {na da nb db : Int} (ha : OkR na da) (hb : OkR nb db) : -170141183460469231731687303715884105728 ≤ crossZ na da nb db ∧ crossZ na da nb db < 170141183460469231731687303715884105728 := by
  obtain ⟨da0, da1, na0, na1, _⟩ := ha
  obtain ⟨db0, db1, nb0, nb1, _⟩ := hb
  have hp := crossG_pos (da := da) db0
  obtain ⟨x1, y1⟩ := tdiv_bd hp (show -9223372036854775807 ≤ da by omega) da1
  obtain ⟨x2, y2⟩ := tdiv_bd hp (show -9223372036854775807 ≤ db by omega) db1
  have p1 := prod_lim na0 na1 x2 y2
  have p2 := prod_lim nb0 nb1 x1 y1
  unfold crossZ; omega

theorem cellOther {w : World} {b b' o o' : Nat} {v : Value} (h : b ≠ b' ∨ o ≠ o') : (w.setCell ⟨b, o, none⟩ v).cell? ⟨b', o', none⟩ = w.cell? ⟨b', o', none⟩ := by
  apply World.cell?_setCell_other
  intro e; injection e with e1 e2
  rcases h with h | h
  · exact h e1
  · exact h e2
theorem cellSame {w : World} {b o : Nat} {v u : Value} (h : w.cell? ⟨b, o, none⟩ = some u) : (w.setCell ⟨b, o, none⟩ v).cell? ⟨b, o, none⟩ = some v := by apply World.cell?_setCell_same; exact h

/-- The cells that cross keeps: two ratios, the result, the wide number and what both Dens share. -/
structure CrossW (w wx : World) (na da nb db z g : Int) : Prop where
  a0 : wx.cell? ⟨w.heap.size, 0, none⟩ = some (.int .i64 na)
  a1 : wx.cell? ⟨w.heap.size, 1, none⟩ = some (.int .i64 da)
  b0 : wx.cell? ⟨w.heap.size + 1, 0, none⟩ = some (.int .i64 nb)
  b1 : wx.cell? ⟨w.heap.size + 1, 1, none⟩ = some (.int .i64 db)
  r0 : wx.cell? ⟨w.heap.size + 1 + 1, 0, none⟩ = some (.int .u64 0)
  r1 : wx.cell? ⟨w.heap.size + 1 + 1, 1, none⟩ = some (.int .u64 0)
  r2 : wx.cell? ⟨w.heap.size + 1 + 1, 2, none⟩ = some (.int .i64 0)
  f0 : wx.frozen? ⟨w.heap.size + 1 + 1, 0, none⟩ = false
  f1 : wx.frozen? ⟨w.heap.size + 1 + 1, 1, none⟩ = false
  f2 : wx.frozen? ⟨w.heap.size + 1 + 1, 2, none⟩ = false
  c0 : wx.cell? ⟨w.heap.size + 1 + 1 + 1, 0, none⟩ = some (.int .u64 (wH z))
  c1 : wx.cell? ⟨w.heap.size + 1 + 1 + 1, 1, none⟩ = some (.int .u64 (wL z))
  c2 : wx.cell? ⟨w.heap.size + 1 + 1 + 1, 2, none⟩ = some (.int .i64 g)
  g0 : wx.frozen? ⟨w.heap.size + 1 + 1 + 1, 0, none⟩ = false
  g1 : wx.frozen? ⟨w.heap.size + 1 + 1 + 1, 1, none⟩ = false
  bel : Below w.heap.size w wx
  sz : w.heap.size + 4 ≤ wx.heap.size
theorem CrossW.keep {w wx w1 : World} {na da nb db z g : Int} (h : CrossW w wx na da nb db z g) (hb : Below wx.heap.size wx w1) : CrossW w w1 na da nb db z g := by
  have hs := h.sz
  have hs1 := hb.size
  have hc : ∀ b i, b < w.heap.size + 4 → w1.cell? ⟨b, i, none⟩ = wx.cell? ⟨b, i, none⟩ := fun b i hb' => hb.cell (p := ⟨b, i, none⟩) (show b < wx.heap.size by omega)
  have hf : ∀ b i, b < w.heap.size + 4 → w1.frozen? ⟨b, i, none⟩ = wx.frozen? ⟨b, i, none⟩ := fun b i hb' => hb.frozen (p := ⟨b, i, none⟩) (show b < wx.heap.size by omega)
  exact ⟨(hc _ _ (by omega)).trans h.a0, (hc _ _ (by omega)).trans h.a1, (hc _ _ (by omega)).trans h.b0, (hc _ _ (by omega)).trans h.b1, (hc _ _ (by omega)).trans h.r0, (hc _ _ (by omega)).trans h.r1, (hc _ _ (by omega)).trans h.r2, (hf _ _ (by omega)).trans h.f0, (hf _ _ (by omega)).trans h.f1, (hf _ _ (by omega)).trans h.f2,
    (hc _ _ (by omega)).trans h.c0, (hc _ _ (by omega)).trans h.c1, (hc _ _ (by omega)).trans h.c2, (hf _ _ (by omega)).trans h.g0, (hf _ _ (by omega)).trans h.g1, h.bel.trans (hb.mono (by omega)), by omega⟩
theorem CrossW.add {w wx : World} {na da nb db z g : Int} (h : CrossW w wx na da nb db z g) (t : Int) : CrossW w ((wx.setCell ⟨w.heap.size + 1 + 1 + 1, 1, none⟩ (.int .u64 (wL t))).setCell ⟨w.heap.size + 1 + 1 + 1, 0, none⟩ (.int .u64 (wH t))) na da nb db t g := by
  have ne : ∀ (b i : Nat), b < w.heap.size + 3 → ((wx.setCell ⟨w.heap.size + 1 + 1 + 1, 1, none⟩ (.int .u64 (wL t))).setCell ⟨w.heap.size + 1 + 1 + 1, 0, none⟩ (.int .u64 (wH t))).cell? ⟨b, i, none⟩ = wx.cell? ⟨b, i, none⟩ := fun b i hb => by
    rw [cellOther (Or.inl (by omega)), cellOther (Or.inl (by omega))]
  refine ⟨(ne _ _ (by omega)).trans h.a0, (ne _ _ (by omega)).trans h.a1, (ne _ _ (by omega)).trans h.b0, (ne _ _ (by omega)).trans h.b1, (ne _ _ (by omega)).trans h.r0, (ne _ _ (by omega)).trans h.r1, (ne _ _ (by omega)).trans h.r2, by simpa using h.f0, by simpa using h.f1, by simpa using h.f2, ?_, ?_, ?_, by simpa using h.g0, by simpa using h.g1, Below.setCell (Below.setCell h.bel (show w.heap.size ≤ w.heap.size + 1 + 1 + 1 by omega) _) (show w.heap.size ≤ w.heap.size + 1 + 1 + 1 by omega) _, by simpa using h.sz⟩
  · refine cellSame (u := .int .u64 (wH z)) ?_
    rw [cellOther (Or.inr (by decide))]; exact h.c0
  · rw [cellOther (Or.inr (by decide))]; exact cellSame h.c1
  · rw [cellOther (Or.inr (by decide)), cellOther (Or.inr (by decide))]; exact h.c2

theorem CrossW.start (w : World) (na da nb db g : Int) (e e' : TypeId) (n : Nat) : CrossW w (((((w.alloc (.cells #[.int .i64 na, .int .i64 da] e)).alloc (.cells #[.int .i64 nb, .int .i64 db] e)).alloc (.cells #[.int .u64 0, .int .u64 0, .int .i64 0] e')).drewN n).alloc (.cells #[.int .u64 0, .int .u64 0, .int .i64 g] e')) na da nb db 0 g := by
  have z1 : (w.alloc (.cells #[.int .i64 na, .int .i64 da] e)).heap.size = w.heap.size + 1 := by simp
  have z2 : ((w.alloc (.cells #[.int .i64 na, .int .i64 da] e)).alloc (.cells #[.int .i64 nb, .int .i64 db] e)).heap.size = w.heap.size + 1 + 1 := by simp
  have z3 : ((((w.alloc (.cells #[.int .i64 na, .int .i64 da] e)).alloc (.cells #[.int .i64 nb, .int .i64 db] e)).alloc (.cells #[.int .u64 0, .int .u64 0, .int .i64 0] e')).drewN n).heap.size = w.heap.size + 1 + 1 + 1 := by show (((w.alloc _).alloc _).alloc _).heap.size = _; simp
  have at0 : ∀ (x : World) (c : Array Value) (e : TypeId) (i : Nat) (v : Value), c[i]? = some v → (x.alloc (.cells c e)).cell? ⟨x.heap.size, i, none⟩ = some v := fun x c e i v h => by rw [World.cell?_alloc_at _ _ _ _ rfl]; exact h
  have dr : ∀ (x : World) (p : Addr), (x.drewN n).cell? p = x.cell? p := fun _ _ => rfl
  have df : ∀ (x : World) (p : Addr), (x.drewN n).frozen? p = x.frozen? p := fun _ _ => rfl
  have up3 : ∀ b i, b < w.heap.size + 3 → (((((w.alloc (.cells #[.int .i64 na, .int .i64 da] e)).alloc (.cells #[.int .i64 nb, .int .i64 db] e)).alloc (.cells #[.int .u64 0, .int .u64 0, .int .i64 0] e')).drewN n).alloc (.cells #[.int .u64 0, .int .u64 0, .int .i64 g] e')).cell? ⟨b, i, none⟩ = (((w.alloc (.cells #[.int .i64 na, .int .i64 da] e)).alloc (.cells #[.int .i64 nb, .int .i64 db] e)).alloc (.cells #[.int .u64 0, .int .u64 0, .int .i64 0] e')).cell? ⟨b, i, none⟩ := fun b i h => by
    rw [World.cell?_alloc_past _ _ _ (by rw [z3]; exact h), dr]
  have uf3 : ∀ b i, b < w.heap.size + 3 → (((((w.alloc (.cells #[.int .i64 na, .int .i64 da] e)).alloc (.cells #[.int .i64 nb, .int .i64 db] e)).alloc (.cells #[.int .u64 0, .int .u64 0, .int .i64 0] e')).drewN n).alloc (.cells #[.int .u64 0, .int .u64 0, .int .i64 g] e')).frozen? ⟨b, i, none⟩ = (((w.alloc (.cells #[.int .i64 na, .int .i64 da] e)).alloc (.cells #[.int .i64 nb, .int .i64 db] e)).alloc (.cells #[.int .u64 0, .int .u64 0, .int .i64 0] e')).frozen? ⟨b, i, none⟩ := fun b i h => by
    rw [World.frozen?_alloc_past _ _ _ (by rw [z3]; exact h), df]
  refine ⟨?_, ?_, ?_, ?_, ?_, ?_, ?_, ?_, ?_, ?_, ?_, ?_, ?_, ?_, ?_, ?_, ?_⟩
  · rw [up3 _ _ (by omega), World.cell?_alloc_past _ _ _ (by rw [z2]; show w.heap.size < w.heap.size + 1 + 1; omega), World.cell?_alloc_past _ _ _ (by rw [z1]; show w.heap.size < w.heap.size + 1; omega)]; exact at0 _ _ _ _ _ rfl
  · rw [up3 _ _ (by omega), World.cell?_alloc_past _ _ _ (by rw [z2]; show w.heap.size < w.heap.size + 1 + 1; omega), World.cell?_alloc_past _ _ _ (by rw [z1]; show w.heap.size < w.heap.size + 1; omega)]; exact at0 _ _ _ _ _ rfl
  · rw [up3 _ _ (by omega), World.cell?_alloc_past _ _ _ (by rw [z2]; show w.heap.size + 1 < w.heap.size + 1 + 1; omega), ← z1]; exact at0 _ _ _ _ _ rfl
  · rw [up3 _ _ (by omega), World.cell?_alloc_past _ _ _ (by rw [z2]; show w.heap.size + 1 < w.heap.size + 1 + 1; omega), ← z1]; exact at0 _ _ _ _ _ rfl
  · rw [up3 _ _ (by omega), ← z2]; exact at0 _ _ _ _ _ rfl
  · rw [up3 _ _ (by omega), ← z2]; exact at0 _ _ _ _ _ rfl
  · rw [up3 _ _ (by omega), ← z2]; exact at0 _ _ _ _ _ rfl
  · rw [uf3 _ _ (by omega)]; exact World.frozen?_alloc_at _ _ _ _ z2.symm
  · rw [uf3 _ _ (by omega)]; exact World.frozen?_alloc_at _ _ _ _ z2.symm
  · rw [uf3 _ _ (by omega)]; exact World.frozen?_alloc_at _ _ _ _ z2.symm
  · rw [← z3]; exact at0 _ _ _ _ _ rfl
  · rw [← z3]; exact at0 _ _ _ _ _ rfl
  · rw [← z3]; exact at0 _ _ _ _ _ rfl
  · exact World.frozen?_alloc_at _ _ _ _ z3.symm
  · exact World.frozen?_alloc_at _ _ _ _ z3.symm
  · exact Below.alloc ((Below.alloc (Below.alloc (Below.alloc (Below.refl _ w) (Nat.le_refl _) _) (by simp) _) (by simp; omega) _).trans ((drewN_belowR _ n).mono (by simp; omega))) (by rw [z3]; omega) _
  · simp

set_option maxHeartbeats 2000000 in
set_option maxRecDepth 100000 in
theorem cross_any (na da nb db : Int) (w : World) (ha : OkR na da) (hb : OkR nb db) :
    Calls Tryz.prog 150 #[.agg #[.int .i64 na, .int .i64 da], .agg #[.int .i64 nb, .int .i64 db]] w fun e w' => e = .returned (.agg #[.int .u64 (wH (crossZ na da nb db)), .int .u64 (wL (crossZ na da nb db)), .int .i64 (crossG da db)]) ∧ Below w.heap.size w w' := by
  obtain ⟨da0, da1, na0, na1, _⟩ := id ha
  obtain ⟨db0, db1, nb0, nb1, _⟩ := id hb
  have hp := crossG_pos (da := da) db0
  have hg : crossG da db ≤ db := gcd_le_right db0
  have HC := Lib.hid (fun w => common_any da db w (by omega) (by omega) (by omega) (by omega) (by show crossG da db ≤ _; omega))
  change Hid (∀ w, Calls _ _ _ w fun e w' => e = .returned (.int .i64 (crossG da db)) ∧ _) at HC
  have HZ : Hid (crossZ na da nb db = na * db.tdiv (crossG da db) + nb * da.tdiv (crossG da db)) := Lib.hid rfl
  generalize crossZ na da nb db = z at *
  generalize crossG da db = g at *
  obtain ⟨x1, y1⟩ := tdiv_bd hp (show -9223372036854775807 ≤ da by omega) da1
  obtain ⟨x2, y2⟩ := tdiv_bd hp (show -9223372036854775807 ≤ db by omega) db1
  have w1 := IntWalk.i64_in (da.tdiv g) (by omega)
  have w2 := IntWalk.i64_in (db.tdiv g) (by omega)
  have zb : (g == 0) = false := by simp; omega
  clear ha hb
  go_enter Tryz.func150, Tryz.ntmps150
  go_wp2_with fail
  refine (HC.out _).mono ?_
  rintro e w' ⟨rfl, n, rfl⟩
  go_wp2_with fail
  have HW := Lib.hid (CrossW.start w na da nb db g 58 233 n)
  generalize (((((w.alloc (.cells #[.int .i64 na, .int .i64 da] 58)).alloc (.cells #[.int .i64 nb, .int .i64 db] 58)).alloc (.cells #[.int .u64 0, .int .u64 0, .int .i64 0] 233)).drewN n).alloc (.cells #[.int .u64 0, .int .u64 0, .int .i64 g] 233)) = W at HW ⊢
  obtain ⟨a0, a1, b0, b1, r0, r1, r2, f0, f1, f2, c0, c1, c2, g0, g1, _, _⟩ := id HW.out
  have ha := wadd_any (w.heap.size + 1 + 1 + 1) 0 na (db.tdiv g) W.drew (by omega) (by omega) (by omega) (by omega) c0 c1 g0 g1
  obtain ⟨p1, hp1⟩ : ∃ p1, p1 = 0 + na * db.tdiv g := ⟨_, rfl⟩
  rw [← hp1] at ha
  have HA := Lib.hid ha
  have HP1 := Lib.hid hp1
  clear ha hp1
  go_cut [] (fun wx => CrossW w wx na da nb db p1 g)
  case first =>
    go_region_with (go_at_call 168; refine HA.out.mono ?_; rintro e w' ⟨rfl, rfl⟩)
    all_goals go_wp2
    all_goals go_meet
    all_goals exact (HW.out.add _).keep (Below.drew (Below.refl _ _))
  case rest =>
    rename_i wc
    have HW2 := Lib.hid hcut
    clear a0 a1 b0 b1 r0 r1 r2 f0 f1 f2 c0 c1 c2 g0 g1 HW HA
    obtain ⟨a0, a1, b0, b1, r0, r1, r2, f0, f1, f2, c0, c1, c2, g0, g1, _, _⟩ := hcut
    have ha := wadd_any (w.heap.size + 1 + 1 + 1) p1 nb (da.tdiv g) wc.drew (by omega) (by omega) (by omega) (by omega) c0 c1 g0 g1
    rw [show p1 + nb * da.tdiv g = z by rw [HP1.out, HZ.out]; omega] at ha
    have HA := Lib.hid ha
    clear ha
    go_upto_region 3 with fail
    go_cut [] (fun wx => CrossW w wx na da nb db z g)
    case first =>
      go_region_with (go_at_call 168; refine HA.out.mono ?_; rintro e w' ⟨rfl, rfl⟩)
      all_goals go_wp2
      all_goals go_meet
      all_goals exact (HW2.out.add _).keep (Below.drew (Below.refl _ _))
    case rest =>
      rename_i wd
      have HW3 := Lib.hid hcut
      clear a0 a1 b0 b1 r0 r1 r2 f0 f1 f2 c0 c1 c2 g0 g1 HW2 HA HZ HP1
      obtain ⟨a0, a1, b0, b1, r0, r1, r2, f0, f1, f2, c0, c1, c2, g0, g1, _, _⟩ := hcut
      go_wp2
      have hl : w.heap.size ≤ w.heap.size + 1 + 1 := by omega
      exact bodyPost_ret (v := .agg #[.int .u64 (wH z), .int .u64 (wL z), .int .i64 g]) (by simp [results, Tryz.results150, go_sem, r0, r1, r2]) rfl ⟨rfl, Below.setCell (Below.setCell (Below.setCell HW3.out.bel hl _) hl _) hl _⟩

end Go.Proofs.YtgeneoamngfomaaGreatDoor

namespace Go.Proofs.YtgeneoamngfomaaGreatDoor
open Go.RowKit
set_option linter.unusedVariables false

/-- What the sum's parts are. -/
def sumBy (na da nb db : Int) : Int := ((Int.gcd (absI (crossZ na da nb db) % crossG da db) (crossG da db) : Nat) : Int)

theorem gcd_rest (z : Int) {g : Int} (hg : 0 < g) : Int.gcd (absI z % g) g = Nat.gcd z.natAbs g.natAbs := by
  obtain ⟨G, rfl⟩ := Int.eq_ofNat_of_zero_le (show 0 ≤ g by omega)
  unfold absI
  show Nat.gcd ((((z.natAbs : Nat) : Int) % (G : Int)).natAbs) G = Nat.gcd z.natAbs G
  rw [show (((z.natAbs : Nat) : Int) % (G : Int)).natAbs = z.natAbs % G from by rw [← Int.natCast_emod, Int.natAbs_natCast]]
  rw [Nat.gcd_comm, Nat.gcd_comm z.natAbs, Nat.gcd_rec G, Nat.mod_mod, ← Nat.gcd_rec]
  
theorem sum_low {na da nb db : Int} (ha : OkR na da) (hb : OkR nb db) :
    lowV (sN ((crossZ na da nb db).tdiv (sumBy na da nb db))) (fitN (da.tdiv (crossG da db) * db.tdiv (sumBy na da nb db))) (firstE (sE ((crossZ na da nb db).tdiv (sumBy na da nb db))) (fitE (da.tdiv (crossG da db) * db.tdiv (sumBy na da nb db)))) = fitV (rat na da + rat nb db) := by
  have hg := crossG_pos (da := da) hb.d0
  have eby : sumBy na da nb db = ((Nat.gcd (crossZ na da nb db).natAbs (Int.gcd da db) : Nat) : Int) := by
    unfold sumBy
    rw [gcd_rest _ hg]; rfl
  obtain ⟨A, hA⟩ := Int.eq_ofNat_of_zero_le (show 0 ≤ da by have := ha.d0; omega)
  obtain ⟨B, hB⟩ := Int.eq_ofNat_of_zero_le (show 0 ≤ db by have := hb.d0; omega)
  have hG : (Int.gcd da db) = Nat.gcd (rat na da).den (rat nb db).den := by rw [ha.denN, hb.denN]; rfl
  have hz : crossZ na da nb db = (rat na da).num * (((rat nb db).den / Int.gcd da db : Nat) : Int) + (rat nb db).num * (((rat na da).den / Int.gcd da db : Nat) : Int) := by
    unfold crossZ crossG
    rw [ha.num, hb.num, ha.denN, hb.denN, hA, hB]
    rfl
  obtain ⟨h1, h2⟩ := add_parts (rat na da) (rat nb db) hG hz
  rw [eby]
  refine low_thr _ _ _ h1 ?_
  rw [h2, ha.denN, hb.denN]
  have d1 : Nat.gcd (crossZ na da nb db).natAbs (Int.gcd da db) ∣ B := by
    refine Nat.dvd_trans (Nat.gcd_dvd_right _ _) ?_
    have : Int.gcd da db = Nat.gcd A B := by rw [hA, hB]; rfl
    rw [this]; exact Nat.gcd_dvd_right _ _
  unfold crossG
  generalize Nat.gcd (crossZ na da nb db).natAbs (Int.gcd da db) = y at *
  generalize Int.gcd da db = G at *
  subst hA hB
  show (((A / G * B / y : Nat)) : Int) = ((A / G : Nat) : Int) * ((B / y : Nat) : Int)
  rw [← Int.natCast_mul, Nat.mul_div_assoc _ d1]

/-- The cells that sum keeps. -/
structure SumW (w wx : World) (Q : Nat) (na da nb db z g : Int) : Prop where
  box : Box2 w wx na da nb db
  c0 : wx.cell? ⟨Q, 0, none⟩ = some (.int .u64 (wH z))
  c1 : wx.cell? ⟨Q, 1, none⟩ = some (.int .u64 (wL z))
  c2 : wx.cell? ⟨Q, 2, none⟩ = some (.int .i64 g)
  lq : Q < wx.heap.size
theorem SumW.keep {w wx w1 : World} {Q : Nat} {na da nb db z g : Int} (h : SumW w wx Q na da nb db z g) (hb : Below wx.heap.size wx w1) : SumW w w1 Q na da nb db z g := by
  have hc : ∀ i, w1.cell? ⟨Q, i, none⟩ = wx.cell? ⟨Q, i, none⟩ := fun i => hb.cell (p := ⟨Q, i, none⟩) h.lq
  exact ⟨h.box.keep hb, (hc _).trans h.c0, (hc _).trans h.c1, (hc _).trans h.c2, Nat.lt_of_lt_of_le h.lq hb.size⟩
theorem SumW.start {w wx w1 : World} {na da nb db z g : Int} {e : TypeId} (h : Box2 w wx na da nb db) (hb : Below wx.heap.size wx w1) : SumW w (w1.alloc (.cells #[.int .u64 (wH z), .int .u64 (wL z), .int .i64 g] e)) w1.heap.size na da nb db z g :=
  ⟨(h.keep hb).keep (Below.alloc (Below.refl _ _) (Nat.le_refl _) _), by rw [World.cell?_alloc_at _ _ _ _ rfl]; rfl, by rw [World.cell?_alloc_at _ _ _ _ rfl]; rfl, by rw [World.cell?_alloc_at _ _ _ _ rfl]; rfl, by simp⟩

set_option maxHeartbeats 2000000 in
set_option maxRecDepth 100000 in
theorem sum_any (na da nb db : Int) (w : World) (ha : OkR na da) (hb : OkR nb db) :
    Calls Tryz.prog 181 #[.agg #[.int .i64 na, .int .i64 da], .agg #[.int .i64 nb, .int .i64 db]] w fun e w' => e = .returned (fitV (rat na da + rat nb db)) ∧ Below w.heap.size w w' := by
  obtain ⟨da0, da1, na0, na1, _⟩ := id ha
  obtain ⟨db0, db1, nb0, nb1, _⟩ := id hb
  have HL := Lib.hid (sum_low ha hb)
  generalize rat na da + rat nb db = q at HL ⊢
  have HC := Lib.hid (fun w => cross_any na da nb db w ha hb)
  have hg0 := crossG_pos (da := da) db0
  have hg1 : crossG da db ≤ db := gcd_le_right db0
  obtain ⟨zz0, zz1⟩ := crossZ_lim ha hb
  have hr0 := Int.emod_nonneg (absI (crossZ na da nb db)) (show crossG da db ≠ 0 by omega)
  have hr1 := Int.emod_lt_of_pos (absI (crossZ na da nb db)) hg0
  have hy1 : sumBy na da nb db ≤ crossG da db := gcd_le_right hg0
  have hy0 : 0 < sumBy na da nb db := by unfold sumBy; have := Int.gcd_pos_of_ne_zero_right (absI (crossZ na da nb db) % crossG da db) (show crossG da db ≠ 0 by omega); omega
  have HY := Lib.hid (fun w => common_any (absI (crossZ na da nb db) % crossG da db) (crossG da db) w (by omega) (by omega) (by omega) (by omega) (by show sumBy na da nb db ≤ _; omega))
  change Hid (∀ w, Calls _ _ _ w fun e w' => e = .returned (.int .i64 (sumBy na da nb db)) ∧ _) at HY
  generalize sumBy na da nb db = y at *
  generalize crossZ na da nb db = z at *
  generalize crossG da db = g at *
  have HRs := Lib.hid (fun b w c0 c1 => wrest_any b z g w zz0 zz1 hg0 (by omega) c0 c1)
  have HTh := Lib.hid (fun b w c0 c1 => wthr_any b z y w zz0 zz1 hy0 (by omega) c0 c1)
  generalize absI z % g = r at *
  obtain ⟨x1, y1⟩ := tdiv_bd hg0 (show -9223372036854775807 ≤ da by omega) da1
  obtain ⟨x2, y2⟩ := tdiv_bd hy0 (show -9223372036854775807 ≤ db by omega) db1
  have HM := Lib.hid (fun w => mul_same (da.tdiv g) (db.tdiv y) (by omega) (by omega) (by omega) (by omega) w)
  have w1 := IntWalk.i64_in (da.tdiv g) (by omega)
  have w2 := IntWalk.i64_in (db.tdiv y) (by omega)
  have zb : (g == 0) = false := by simp; omega
  have yb : (y == 0) = false := by simp; omega
  clear ha hb zz0 zz1
  go_enter Tryz.func181, Tryz.ntmps181
  go_wp2_with fail
  have HB := Lib.hid (Box2.start w na da nb db 58)
  generalize (((w.alloc (.cells #[.int .i64 na, .int .i64 da] 58)).alloc (.cells #[.int .i64 nb, .int .i64 db] 58)).alloc (.cells #[.int .i64 0, .int .i64 0] 58)) = W at HB ⊢
  refine (HC.out _).mono ?_
  rintro e w1 ⟨rfl, hb1⟩
  have HS := Lib.hid (SumW.start (z := z) (g := g) (e := 233) HB.out hb1)
  clear hb1 HB HC
  go_wp2_with fail
  generalize w1.heap.size = Q at HS ⊢
  generalize w1.alloc (.cells #[.int .u64 (wH z), .int .u64 (wL z), .int .i64 g] 233) = W1 at HS ⊢
  obtain ⟨⟨a0, a1, b0, b1, r0, r1, f0, f1, _, _⟩, c0, c1, c2, _⟩ := id HS.out
  have HRn := Lib.hid (fun n => HRs.out Q (W1.drewN n) c0 c1)
  go_quiet (first | (go_at_call 184; with_reducible refine Calls.quiet_of (HRn.out _)) | (go_at_call 110; with_reducible refine Calls.quiet_of (HY.out _)))
  have HS2 := Lib.hid (HS.out.keep (drewN_belowR W1 nq))
  generalize W1.drewN nq = W2 at HS2 ⊢
  clear a0 a1 b0 b1 r0 r1 f0 f1 c0 c1 c2 HS HRn HRs
  obtain ⟨⟨a0, a1, b0, b1, r0, r1, f0, f1, _, _⟩, c0, c1, c2, _⟩ := id HS2.out
  go_wp2_with fail
  refine (HTh.out Q W2 c0 c1).mono ?_
  rintro e w' ⟨rfl, m, rfl⟩
  have HS3 := Lib.hid (HS2.out.keep (drewN_belowR W2 m))
  generalize W2.drewN m = W3 at HS3 ⊢
  clear a0 a1 b0 b1 r0 r1 f0 f1 c0 c1 c2 HS2 HTh
  obtain ⟨⟨a0, a1, b0, b1, r0, r1, f0, f1, _, _⟩, c0, c1, c2, _⟩ := id HS3.out
  go_wp2_with fail
  go_quiet ((go_at_call 166; with_reducible refine Calls.quiet_of_same (HM.out _)))
  have HS4 := Lib.hid (HS3.out.keep (drewN_belowR W3 nq))
  clear a0 a1 b0 b1 r0 r1 f0 f1 c0 c1 c2 HS3
  have HLo := Lib.hid (low_new (sN (z.tdiv y)) (fitN (da.tdiv g * db.tdiv y)) (sE (z.tdiv y)) (fitE (da.tdiv g * db.tdiv y)) (W3.drewN nq))
  rw [HL.out] at HLo
  unfold fitV tup at HLo
  go_wp2_with fail
  refine HLo.out.mono ?_
  rintro e W5 ⟨rfl, hb5⟩
  have HB5 := Lib.hid ((HS4.out.box.keep (Below.alloc (Below.refl _ _) (Nat.le_refl _) _)).keep hb5)
  clear HLo hb5 HL HM HY HS4
  obtain ⟨a0, a1, b0, b1, r0, r1, f0, f1, _, _⟩ := id HB5.out
  go_wp2_with fail
  exact bodyPost_ret (v := fitV q) (by simp [results, Tryz.results181, go_sem, r0, r1, fitV, tup]) rfl ⟨rfl, HB5.out.done _ _⟩

end Go.Proofs.YtgeneoamngfomaaGreatDoor

namespace Go.Proofs.YtgeneoamngfomaaGreatDoor
open Go.RowKit
set_option linter.unusedVariables false

theorem drew_belowR {w w' : World} (h : Below w.drew.heap.size w.drew w') : Below w.heap.size w w' := ⟨h.os, h.tape, h.output, h.size, h.block⟩

theorem first_new (e f : Int) (w : World) :
    Calls Tryz.prog 165 #[.slice (some ⟨w.heap.size, 0, none⟩) 2 2] (w.alloc (.cells #[.int .i64 e, .int .i64 f] 31)) fun r w' => r = .returned (.int .i64 (firstE e f)) ∧ (w.alloc (.cells #[.int .i64 e, .int .i64 f] 31)) = w' :=
  first_any e f w.heap.size 2 _ (by rw [World.cell?_alloc_at _ _ _ _ rfl]; rfl) (by rw [World.cell?_alloc_at _ _ _ _ rfl]; rfl)

set_option maxHeartbeats 2000000 in
set_option maxRecDepth 100000 in
theorem both_any (na da nb db x y c : Int) (f : FuncId) (cap : Array Value) (w : World) (na0 : -9223372036854775808 ≤ na) (na1 : na ≤ 9223372036854775807) (da0 : -9223372036854775808 ≤ da) (da1 : da ≤ 9223372036854775807)
    (nb0 : -9223372036854775808 ≤ nb) (nb1 : nb ≤ 9223372036854775807) (db0 : -9223372036854775808 ≤ db) (db1 : db ≤ 9223372036854775807)
    (hd : firstE (chkE na da) (chkE nb db) = 0 → ∀ W, Below w.heap.size w W → Calls Tryz.prog f cap W fun e w' => e = .returned (tup x y c) ∧ Below W.heap.size W w')
    (hent : ∀ W, (callFunc f cap).run Tryz.prog W = .ok (.enter f cap) W)
    (he : firstE (chkE na da) (chkE nb db) ≠ 0 → x = 0 ∧ y = 0 ∧ c = firstE (chkE na da) (chkE nb db)) :
    Calls Tryz.prog 145 #[.agg #[.int .i64 na, .int .i64 da], .agg #[.int .i64 nb, .int .i64 db], .func (.func f) #[] cap] w fun e w' => e = .returned (tup x y c) ∧ Below w.heap.size w w' := by
  have HD : Hid (firstE (chkE na da) (chkE nb db) = 0 → ∀ W, Below w.heap.size w W → Calls Tryz.prog f cap W fun e w' => e = .returned (tup x y c) ∧ Below W.heap.size W w') := Lib.hid hd
  have HE : Hid (firstE (chkE na da) (chkE nb db) ≠ 0 → x = 0 ∧ y = 0 ∧ c = firstE (chkE na da) (chkE nb db)) := Lib.hid he
  clear hd he
  unfold tup at HD ⊢
  go_enter Tryz.func145, Tryz.ntmps145
  go_wp2_with fail
  have HB := Lib.hid (Box2.start w na da nb db 58)
  generalize (((w.alloc (.cells #[.int .i64 na, .int .i64 da] 58)).alloc (.cells #[.int .i64 nb, .int .i64 db] 58)).alloc (.cells #[.int .i64 0, .int .i64 0] 58)) = W at HB ⊢
  obtain ⟨a0, a1, b0, b1, r0, r1, f0, f1, _, _⟩ := id HB.out
  go_cut [8] (fun t wx => t = .int .i64 (firstE (chkE na da) (chkE nb db)) ∧ Box2 w wx na da nb db)
  case first =>
    have HC1 := Lib.hid (check_any na da W.drew na0 na1 da0 da1)
    have HC2 := Lib.hid (fun w => check_any nb db w nb0 nb1 db0 db1)
    generalize chkE na da = e1 at *
    generalize chkE nb db = e2 at *
    go_region_with (first | (go_at_call 77; refine HC1.out.mono ?_; rintro e w1 ⟨rfl, hb1⟩; have HB1 := Lib.hid (HB.out.keep (drew_belowR hb1)); obtain ⟨a0', a1', b0', b1', _, _, _, _, _, _⟩ := id HB1.out; clear hb1 HC1) | (go_at_call 77; refine (HC2.out _).mono ?_; rintro e w2 ⟨rfl, hb2⟩; have HB2 := Lib.hid (HB1.out.keep hb2); have HFi := Lib.hid (first_new e1 e2 w2); clear hb2 HC2) | (go_at_call 165; refine HFi.out.mono ?_; rintro e w3 ⟨rfl, rfl⟩))
    all_goals go_wp2
    all_goals go_meet
    all_goals exact ⟨rfl, HB2.out.keep (Below.alloc (Below.refl _ _) (Nat.le_refl _) _)⟩
  case rest =>
    obtain ⟨rfl, hB⟩ := hcut
    rename_i wc
    clear a0 a1 b0 b1 r0 r1 f0 f1 HB
    have HB2 := Lib.hid hB
    obtain ⟨a0, a1, b0, b1, r0, r1, f0, f1, _, _⟩ := hB
    generalize firstE (chkE na da) (chkE nb db) = er at *
    by_cases h : er = 0
    · have HDo := Lib.hid (HD.out h)
      subst h
      clear HD HE
      go_wp2_with fail
      refine (HDo.out _ HB2.out.bel).mono ?_
      rintro e w3 ⟨rfl, hb3⟩
      have HB3 := Lib.hid (HB2.out.keep hb3)
      clear hb3 HDo a0 a1 b0 b1 r0 r1 f0 f1 HB2
      obtain ⟨a0, a1, b0, b1, r0, r1, f0, f1, _, _⟩ := id HB3.out
      go_wp2_with fail
      exact bodyPost_ret (v := .tuple #[.agg #[.int .i64 x, .int .i64 y], .int .i64 c]) (by simp [results, Tryz.results145, go_sem, r0, r1]) rfl ⟨rfl, HB3.out.done _ _⟩
    · obtain ⟨hx, hy, hc⟩ := HE.out h
      subst hx; subst hy; subst hc
      have hb : (c != 0) = true := by simpa using h
      have hc : (c == 0) = false := by simpa using h
      have hs : w.heap.size + 1 + 1 < wc.heap.size := by have := HB2.out.sz; omega
      clear HD HE h
      go_wp2_with fail
      exact bodyPost_ret (v := .tuple #[.agg #[.int .i64 0, .int .i64 0], .int .i64 c]) (by simp [results, Tryz.results145, go_sem, r0, r1, hs]) rfl ⟨rfl, Below.alloc (HB2.out.done _ _) (by have := HB2.out.bel.size; simpa using this) _⟩

end Go.Proofs.YtgeneoamngfomaaGreatDoor

namespace Go.Proofs.YtgeneoamngfomaaGreatDoor
open Go.RowKit
set_option linter.unusedVariables false

theorem OkR.opp {n d : Int} (h : OkR n d) : OkR (-n) d := ⟨h.d0, h.d1, by have := h.n1; omega, by have := h.n0; omega, by rw [Int.gcd_comm, Int.gcd_neg, Int.gcd_comm]; exact h.g⟩
theorem rat_opp (n d : Int) : rat (-n) d = -rat n d := (Rat.neg_divInt n d).symm
/-- A closure's cells: two ratios that it captured, and its result in a new block. -/
structure Cl2 (w wx : World) (A B : Nat) (na da nb db : Int) : Prop where
  a0 : wx.cell? ⟨A, 0, none⟩ = some (.int .i64 na)
  a1 : wx.cell? ⟨A, 1, none⟩ = some (.int .i64 da)
  b0 : wx.cell? ⟨B, 0, none⟩ = some (.int .i64 nb)
  b1 : wx.cell? ⟨B, 1, none⟩ = some (.int .i64 db)
  r0 : wx.cell? ⟨w.heap.size, 0, none⟩ = some (.int .i64 0)
  r1 : wx.cell? ⟨w.heap.size, 1, none⟩ = some (.int .i64 0)
  f0 : wx.frozen? ⟨w.heap.size, 0, none⟩ = false
  f1 : wx.frozen? ⟨w.heap.size, 1, none⟩ = false
  bel : Below w.heap.size w wx
  la : A < w.heap.size
  lb : B < w.heap.size
  sz : w.heap.size + 1 ≤ wx.heap.size
theorem Cl2.keep {w wx w1 : World} {A B : Nat} {na da nb db : Int} (h : Cl2 w wx A B na da nb db) (hb : Below wx.heap.size wx w1) : Cl2 w w1 A B na da nb db := by
  have hs := h.sz
  have hs1 := hb.size
  have la := h.la
  have lb := h.lb
  have hc : ∀ b i, b < w.heap.size + 1 → w1.cell? ⟨b, i, none⟩ = wx.cell? ⟨b, i, none⟩ := fun b i hb' => hb.cell (p := ⟨b, i, none⟩) (show b < wx.heap.size by omega)
  have hf : ∀ b i, b < w.heap.size + 1 → w1.frozen? ⟨b, i, none⟩ = wx.frozen? ⟨b, i, none⟩ := fun b i hb' => hb.frozen (p := ⟨b, i, none⟩) (show b < wx.heap.size by omega)
  exact ⟨(hc _ _ (by omega)).trans h.a0, (hc _ _ (by omega)).trans h.a1, (hc _ _ (by omega)).trans h.b0, (hc _ _ (by omega)).trans h.b1, (hc _ _ (by omega)).trans h.r0, (hc _ _ (by omega)).trans h.r1, (hf _ _ (by omega)).trans h.f0, (hf _ _ (by omega)).trans h.f1, h.bel.trans (hb.mono (by omega)), la, lb, by omega⟩
theorem Cl2.start {w : World} {A B : Nat} {na da nb db : Int} (e : TypeId) (la : A < w.heap.size) (lb : B < w.heap.size) (a0 : w.cell? ⟨A, 0, none⟩ = some (.int .i64 na)) (a1 : w.cell? ⟨A, 1, none⟩ = some (.int .i64 da)) (b0 : w.cell? ⟨B, 0, none⟩ = some (.int .i64 nb)) (b1 : w.cell? ⟨B, 1, none⟩ = some (.int .i64 db)) :
    Cl2 w (w.alloc (.cells #[.int .i64 0, .int .i64 0] e)) A B na da nb db :=
  ⟨by rw [World.cell?_alloc_past _ _ _ la]; exact a0, by rw [World.cell?_alloc_past _ _ _ la]; exact a1, by rw [World.cell?_alloc_past _ _ _ lb]; exact b0, by rw [World.cell?_alloc_past _ _ _ lb]; exact b1, by rw [World.cell?_alloc_at _ _ _ _ rfl]; rfl, by rw [World.cell?_alloc_at _ _ _ _ rfl]; rfl, World.frozen?_alloc_at _ _ _ _ rfl, World.frozen?_alloc_at _ _ _ _ rfl, Below.alloc (Below.refl _ _) (Nat.le_refl _) _, la, lb, by simp⟩
theorem Cl2.done {w wx : World} {A B : Nat} {na da nb db : Int} (h : Cl2 w wx A B na da nb db) (x y : Value) : Below w.heap.size w ((wx.setCell ⟨w.heap.size, 0, none⟩ x).setCell ⟨w.heap.size, 1, none⟩ y) :=
  Below.setCell (Below.setCell h.bel (Nat.le_refl _) _) (Nat.le_refl _) _

set_option maxHeartbeats 2000000 in
set_option maxRecDepth 100000 in
theorem add1_any (A B : Nat) (na da nb db : Int) (w : World) (ha : OkR na da) (hb : OkR nb db) (la : A < w.heap.size) (lb : B < w.heap.size) (a0 : w.cell? ⟨A, 0, none⟩ = some (.int .i64 na)) (a1 : w.cell? ⟨A, 1, none⟩ = some (.int .i64 da)) (b0 : w.cell? ⟨B, 0, none⟩ = some (.int .i64 nb)) (b1 : w.cell? ⟨B, 1, none⟩ = some (.int .i64 db)) :
    Calls Tryz.prog 180 #[.pointer (some ⟨A, 0, none⟩), .pointer (some ⟨B, 0, none⟩)] w fun e w' => e = .returned (fitV (rat na da + rat nb db)) ∧ Below w.heap.size w w' := by
  have HK := Lib.hid (Cl2.start 58 la lb a0 a1 b0 b1)
  have HC := Lib.hid (fun w => sum_any na da nb db w ha hb)
  generalize rat na da + rat nb db = q at HC ⊢
  unfold fitV tup at HC
  clear ha hb
  go_enter Tryz.func180, Tryz.ntmps180
  go_wp2_with fail
  refine (HC.out _).mono ?_
  rintro e w1 ⟨rfl, hb1⟩
  have HK2 := Lib.hid (HK.out.keep hb1)
  clear hb1 HC HK a0 a1 b0 b1 la lb
  obtain ⟨a0, a1, b0, b1, r0, r1, f0, f1, _, _, _, _⟩ := id HK2.out
  go_wp2_with fail
  exact bodyPost_ret (v := fitV q) (by simp [results, Tryz.results180, go_sem, r0, r1, fitV, tup]) rfl ⟨rfl, HK2.out.done _ _⟩

set_option maxHeartbeats 2000000 in
set_option maxRecDepth 100000 in
theorem mul1_any (A B : Nat) (na da nb db : Int) (w : World) (ha : OkR na da) (hb : OkR nb db) (la : A < w.heap.size) (lb : B < w.heap.size) (a0 : w.cell? ⟨A, 0, none⟩ = some (.int .i64 na)) (a1 : w.cell? ⟨A, 1, none⟩ = some (.int .i64 da)) (b0 : w.cell? ⟨B, 0, none⟩ = some (.int .i64 nb)) (b1 : w.cell? ⟨B, 1, none⟩ = some (.int .i64 db)) :
    Calls Tryz.prog 146 #[.pointer (some ⟨A, 0, none⟩), .pointer (some ⟨B, 0, none⟩)] w fun e w' => e = .returned (fitV (rat na da * rat nb db)) ∧ Below w.heap.size w w' := by
  have HK := Lib.hid (Cl2.start 58 la lb a0 a1 b0 b1)
  have HC := Lib.hid (fun w => product_any na da nb db w ha hb)
  generalize rat na da * rat nb db = q at HC ⊢
  unfold fitV tup at HC
  clear ha hb
  go_enter Tryz.func146, Tryz.ntmps146
  go_wp2_with fail
  refine (HC.out _).mono ?_
  rintro e w1 ⟨rfl, hb1⟩
  have HK2 := Lib.hid (HK.out.keep hb1)
  clear hb1 HC HK a0 a1 b0 b1 la lb
  obtain ⟨a0, a1, b0, b1, r0, r1, f0, f1, _, _, _, _⟩ := id HK2.out
  go_wp2_with fail
  exact bodyPost_ret (v := fitV q) (by simp [results, Tryz.results146, go_sem, r0, r1, fitV, tup]) rfl ⟨rfl, HK2.out.done _ _⟩

set_option maxHeartbeats 2000000 in
set_option maxRecDepth 100000 in
theorem sub1_any (A B : Nat) (na da nb db : Int) (w : World) (ha : OkR na da) (hb : OkR nb db) (la : A < w.heap.size) (lb : B < w.heap.size) (a0 : w.cell? ⟨A, 0, none⟩ = some (.int .i64 na)) (a1 : w.cell? ⟨A, 1, none⟩ = some (.int .i64 da)) (b0 : w.cell? ⟨B, 0, none⟩ = some (.int .i64 nb)) (b1 : w.cell? ⟨B, 1, none⟩ = some (.int .i64 db)) :
    Calls Tryz.prog 182 #[.pointer (some ⟨A, 0, none⟩), .pointer (some ⟨B, 0, none⟩)] w fun e w' => e = .returned (fitV (rat na da - rat nb db)) ∧ Below w.heap.size w w' := by
  have HK := Lib.hid (Cl2.start 58 la lb a0 a1 b0 b1)
  have HO := Lib.hid (fun w => opposite_any nb db w hb.n0 hb.n1)
  have HC := Lib.hid (fun w => sum_any na da (-nb) db w ha hb.opp)
  rw [rat_opp, ← Rat.sub_eq_add_neg] at HC
  generalize rat na da - rat nb db = q at HC ⊢
  unfold fitV tup at HC
  clear hb
  clear ha
  go_enter Tryz.func182, Tryz.ntmps182
  go_wp2_with fail
  generalize w.alloc (.cells #[.int .i64 0, .int .i64 0] 58) = W at HK ⊢
  clear a0 a1 b0 b1 la lb
  obtain ⟨a0, a1, b0, b1, r0, r1, f0, f1, _, _, _, _⟩ := id HK.out
  go_region_with (first | (go_at_call 142; refine (HO.out _).mono ?_; rintro e w1 ⟨rfl, hb1⟩; have HK1 := Lib.hid (HK.out.keep (drew_belowR hb1)); obtain ⟨a0', a1', b0', b1', r0', r1', f0', f1', _, _, _, _⟩ := id HK1.out; clear hb1) | (go_at_call 181; refine (HC.out _).mono ?_; rintro e w2 ⟨rfl, hb2⟩; have HK2 := Lib.hid (HK1.out.keep hb2); obtain ⟨a0'', a1'', b0'', b1'', r0'', r1'', f0'', f1'', _, _, _, _⟩ := id HK2.out; clear hb2))
  all_goals go_wp2_with fail
  all_goals exact bodyPost_ret (v := fitV q) (by simp [results, Tryz.results182, go_sem, r0'', r1'', fitV, tup]) rfl ⟨rfl, HK2.out.done _ _⟩

end Go.Proofs.YtgeneoamngfomaaGreatDoor

namespace Go.Proofs.YtgeneoamngfomaaGreatDoor
open Go.RowKit
set_option linter.unusedVariables false

/-- What is told of two ratios: an error, or the number. -/
def opN (E : Int) (q : Rat) : Int := if E = 0 then rN q else 0
def opD (E : Int) (q : Rat) : Int := if E = 0 then rD q else 0
def opE (E : Int) (q : Rat) : Int := if E = 0 then rE q else E
def bothE (na da nb db : Int) : Int := firstE (chkE na da) (chkE nb db)
theorem bothE_ok {na da nb db : Int} (h : bothE na da nb db = 0) (na0 : -9223372036854775808 ≤ na) (na1 : na ≤ 9223372036854775807) (da1 : da ≤ 9223372036854775807) (nb0 : -9223372036854775808 ≤ nb) (nb1 : nb ≤ 9223372036854775807) (db1 : db ≤ 9223372036854775807) : OkR na da ∧ OkR nb db := by
  unfold bothE firstE at h
  by_cases g : chkE na da = 0
  · rw [if_pos g] at h
    exact ⟨chkE_zero g na0 na1 da1, chkE_zero h nb0 nb1 db1⟩
  · rw [if_neg g] at h; exact absurd h g
theorem op_ok {E : Int} (h : E = 0) (q : Rat) : tup (opN E q) (opD E q) (opE E q) = fitV q := by unfold opN opD opE fitV; rw [if_pos h, if_pos h, if_pos h]
theorem op_err {E : Int} (h : E ≠ 0) (q : Rat) : opN E q = 0 ∧ opD E q = 0 ∧ opE E q = E := by unfold opN opD opE; rw [if_neg h, if_neg h, if_neg h]; exact ⟨rfl, rfl, rfl⟩

set_option maxHeartbeats 2000000 in
set_option maxRecDepth 100000 in
theorem addr_any (na da nb db : Int) (w : World) (na0 : -9223372036854775808 ≤ na) (na1 : na ≤ 9223372036854775807) (da0 : -9223372036854775808 ≤ da) (da1 : da ≤ 9223372036854775807)
    (nb0 : -9223372036854775808 ≤ nb) (nb1 : nb ≤ 9223372036854775807) (db0 : -9223372036854775808 ≤ db) (db1 : db ≤ 9223372036854775807) :
    Calls Tryz.prog 177 #[.agg #[.int .i64 na, .int .i64 da], .agg #[.int .i64 nb, .int .i64 db]] w fun e w' => e = .returned (.tuple #[.agg #[.int .i64 (opN (bothE na da nb db) (rat na da + rat nb db)), .int .i64 (opD (bothE na da nb db) (rat na da + rat nb db))], .int .i64 (opE (bothE na da nb db) (rat na da + rat nb db))]) ∧ Below w.heap.size w w' := by
  have hmf : ∀ (fn : Fn) (first cap : Array Value) (w : World), (Instr.makeFunc fn first cap).run Tryz.prog w = .ok (.func fn first cap) w := fun _ _ _ _ => rfl
  have HBo := Lib.hid (fun (W : World) (HB : Box2 w W na da nb db) => both_any na da nb db (opN (bothE na da nb db) (rat na da + rat nb db)) (opD (bothE na da nb db) (rat na da + rat nb db)) (opE (bothE na da nb db) (rat na da + rat nb db)) 180 #[.pointer (some ⟨w.heap.size, 0, none⟩), .pointer (some ⟨w.heap.size + 1, 0, none⟩)] W na0 na1 da0 da1 nb0 nb1 db0 db1
    (fun hz W' hW => by
      have hz' : bothE na da nb db = 0 := hz
      obtain ⟨ha, hb⟩ := bothE_ok hz' na0 na1 da1 nb0 nb1 db1
      have HB' := HB.keep hW
      rw [op_ok hz' (rat na da + rat nb db)]; exact add1_any _ _ na da nb db W' ha hb (by have := HB'.sz; omega) (by have := HB'.sz; omega) HB'.a0 HB'.a1 HB'.b0 HB'.b1)
    (fun W' => by rfl)
    (fun hz => by exact op_err hz (rat na da + rat nb db)))
  unfold tup at HBo
  generalize (opN (bothE na da nb db) (rat na da + rat nb db)) = x at *
  generalize (opD (bothE na da nb db) (rat na da + rat nb db)) = y at *
  generalize (opE (bothE na da nb db) (rat na da + rat nb db)) = c at *
  try clear hn
  go_enter Tryz.func177, Tryz.ntmps177
  go_wp2_with fail
  refine (HBo.out _ (Box2.start w na da nb db 58)).mono ?_
  rintro e w1 ⟨rfl, hb1⟩
  have HB := Lib.hid ((Box2.start w na da nb db 58).keep hb1)
  clear hb1 HBo
  obtain ⟨a0, a1, b0, b1, r0, r1, f0, f1, _, _⟩ := id HB.out
  go_wp2_with fail
  exact bodyPost_ret (v := .tuple #[.agg #[.int .i64 x, .int .i64 y], .int .i64 c]) (by simp [results, Tryz.results177, go_sem, r0, r1]) rfl ⟨rfl, HB.out.done _ _⟩

set_option maxHeartbeats 2000000 in
set_option maxRecDepth 100000 in
theorem sub_any (na da nb db : Int) (w : World) (na0 : -9223372036854775808 ≤ na) (na1 : na ≤ 9223372036854775807) (da0 : -9223372036854775808 ≤ da) (da1 : da ≤ 9223372036854775807)
    (nb0 : -9223372036854775808 ≤ nb) (nb1 : nb ≤ 9223372036854775807) (db0 : -9223372036854775808 ≤ db) (db1 : db ≤ 9223372036854775807) :
    Calls Tryz.prog 178 #[.agg #[.int .i64 na, .int .i64 da], .agg #[.int .i64 nb, .int .i64 db]] w fun e w' => e = .returned (.tuple #[.agg #[.int .i64 (opN (bothE na da nb db) (rat na da - rat nb db)), .int .i64 (opD (bothE na da nb db) (rat na da - rat nb db))], .int .i64 (opE (bothE na da nb db) (rat na da - rat nb db))]) ∧ Below w.heap.size w w' := by
  have hmf : ∀ (fn : Fn) (first cap : Array Value) (w : World), (Instr.makeFunc fn first cap).run Tryz.prog w = .ok (.func fn first cap) w := fun _ _ _ _ => rfl
  have HBo := Lib.hid (fun (W : World) (HB : Box2 w W na da nb db) => both_any na da nb db (opN (bothE na da nb db) (rat na da - rat nb db)) (opD (bothE na da nb db) (rat na da - rat nb db)) (opE (bothE na da nb db) (rat na da - rat nb db)) 182 #[.pointer (some ⟨w.heap.size, 0, none⟩), .pointer (some ⟨w.heap.size + 1, 0, none⟩)] W na0 na1 da0 da1 nb0 nb1 db0 db1
    (fun hz W' hW => by
      have hz' : bothE na da nb db = 0 := hz
      obtain ⟨ha, hb⟩ := bothE_ok hz' na0 na1 da1 nb0 nb1 db1
      have HB' := HB.keep hW
      rw [op_ok hz' (rat na da - rat nb db)]; exact sub1_any _ _ na da nb db W' ha hb (by have := HB'.sz; omega) (by have := HB'.sz; omega) HB'.a0 HB'.a1 HB'.b0 HB'.b1)
    (fun W' => by rfl)
    (fun hz => by exact op_err hz (rat na da - rat nb db)))
  unfold tup at HBo
  generalize (opN (bothE na da nb db) (rat na da - rat nb db)) = x at *
  generalize (opD (bothE na da nb db) (rat na da - rat nb db)) = y at *
  generalize (opE (bothE na da nb db) (rat na da - rat nb db)) = c at *
  try clear hn
  go_enter Tryz.func178, Tryz.ntmps178
  go_wp2_with fail
  refine (HBo.out _ (Box2.start w na da nb db 58)).mono ?_
  rintro e w1 ⟨rfl, hb1⟩
  have HB := Lib.hid ((Box2.start w na da nb db 58).keep hb1)
  clear hb1 HBo
  obtain ⟨a0, a1, b0, b1, r0, r1, f0, f1, _, _⟩ := id HB.out
  go_wp2_with fail
  exact bodyPost_ret (v := .tuple #[.agg #[.int .i64 x, .int .i64 y], .int .i64 c]) (by simp [results, Tryz.results178, go_sem, r0, r1]) rfl ⟨rfl, HB.out.done _ _⟩

set_option maxHeartbeats 2000000 in
set_option maxRecDepth 100000 in
theorem mulr_any (na da nb db : Int) (w : World) (na0 : -9223372036854775808 ≤ na) (na1 : na ≤ 9223372036854775807) (da0 : -9223372036854775808 ≤ da) (da1 : da ≤ 9223372036854775807)
    (nb0 : -9223372036854775808 ≤ nb) (nb1 : nb ≤ 9223372036854775807) (db0 : -9223372036854775808 ≤ db) (db1 : db ≤ 9223372036854775807) :
    Calls Tryz.prog 120 #[.agg #[.int .i64 na, .int .i64 da], .agg #[.int .i64 nb, .int .i64 db]] w fun e w' => e = .returned (.tuple #[.agg #[.int .i64 (opN (bothE na da nb db) (rat na da * rat nb db)), .int .i64 (opD (bothE na da nb db) (rat na da * rat nb db))], .int .i64 (opE (bothE na da nb db) (rat na da * rat nb db))]) ∧ Below w.heap.size w w' := by
  have hmf : ∀ (fn : Fn) (first cap : Array Value) (w : World), (Instr.makeFunc fn first cap).run Tryz.prog w = .ok (.func fn first cap) w := fun _ _ _ _ => rfl
  have HBo := Lib.hid (fun (W : World) (HB : Box2 w W na da nb db) => both_any na da nb db (opN (bothE na da nb db) (rat na da * rat nb db)) (opD (bothE na da nb db) (rat na da * rat nb db)) (opE (bothE na da nb db) (rat na da * rat nb db)) 146 #[.pointer (some ⟨w.heap.size, 0, none⟩), .pointer (some ⟨w.heap.size + 1, 0, none⟩)] W na0 na1 da0 da1 nb0 nb1 db0 db1
    (fun hz W' hW => by
      have hz' : bothE na da nb db = 0 := hz
      obtain ⟨ha, hb⟩ := bothE_ok hz' na0 na1 da1 nb0 nb1 db1
      have HB' := HB.keep hW
      rw [op_ok hz' (rat na da * rat nb db)]; exact mul1_any _ _ na da nb db W' ha hb (by have := HB'.sz; omega) (by have := HB'.sz; omega) HB'.a0 HB'.a1 HB'.b0 HB'.b1)
    (fun W' => by rfl)
    (fun hz => by exact op_err hz (rat na da * rat nb db)))
  unfold tup at HBo
  generalize (opN (bothE na da nb db) (rat na da * rat nb db)) = x at *
  generalize (opD (bothE na da nb db) (rat na da * rat nb db)) = y at *
  generalize (opE (bothE na da nb db) (rat na da * rat nb db)) = c at *
  try clear hn
  go_enter Tryz.func120, Tryz.ntmps120
  go_wp2_with fail
  refine (HBo.out _ (Box2.start w na da nb db 58)).mono ?_
  rintro e w1 ⟨rfl, hb1⟩
  have HB := Lib.hid ((Box2.start w na da nb db 58).keep hb1)
  clear hb1 HBo
  obtain ⟨a0, a1, b0, b1, r0, r1, f0, f1, _, _⟩ := id HB.out
  go_wp2_with fail
  exact bodyPost_ret (v := .tuple #[.agg #[.int .i64 x, .int .i64 y], .int .i64 c]) (by simp [results, Tryz.results120, go_sem, r0, r1]) rfl ⟨rfl, HB.out.done _ _⟩

end Go.Proofs.YtgeneoamngfomaaGreatDoor

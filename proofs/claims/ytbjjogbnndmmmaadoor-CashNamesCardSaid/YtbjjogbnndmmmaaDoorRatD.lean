/-
  Package ratio: the wide number's rest and through.
-/
import Derived.Test.YtbjjogbnndmmmaaDoorWide
import Derived.Test.YtbjjogbnndmmmaaDoorRatC
namespace Go.Proofs.YtbjjogbnndmmmaaDoor
open Go.RowKit
set_option linter.unusedVariables false

theorem rem64_int (h l y : Int) (w : World) (h0 : 0 ≤ h) (h1 : h ≤ 18446744073709551615) (l0 : 0 ≤ l) (l1 : l ≤ 18446744073709551615) (y0 : 0 < y) (y1 : y ≤ 18446744073709551615) :
    Calls Tryd.prog 103 #[.int .u64 h, .int .u64 l, .int .u64 y] w fun e w' => e = .returned (.int .u64 (divR h l y)) ∧ ∃ n, w' = w.drewN n := by
  have m0 := Int.emod_nonneg h (show y ≠ 0 by omega)
  have m1 := Int.emod_lt_of_pos h y0
  have e : divR (h % y) l y = divR h l y := by
    unfold divR
    rw [Int.add_emod, Int.mul_emod, Int.emod_emod_of_dvd _ (Int.dvd_refl y), ← Int.mul_emod, ← Int.add_emod]
  have HD := Lib.hid (fun w => div64_int (h % y) l y w m0 m1 l0 l1 y1)
  rw [e] at HD
  have hz : (y == 0) = false := by simp; omega
  clear e
  generalize divR h l y = r at *
  generalize divQ (h % y) l y = q at *
  go_enter Tryd.func103, Tryd.ntmps103
  go_wp2_with (go_at_call 76; refine (HD.out _).mono ?_; rintro e w' ⟨rfl, n, rfl⟩)
  go_ret
  exact ⟨rfl, _, rfl⟩

theorem hl_bd (z : Int) (z0 : -170141183460469231731687303715884105728 ≤ z) (z1 : z < 170141183460469231731687303715884105728) : 0 ≤ mulHi (absI z) 1 ∧ mulHi (absI z) 1 ≤ 18446744073709551615 ∧ 0 ≤ mulLo (absI z) 1 ∧ mulLo (absI z) 1 ≤ 18446744073709551615 ∧ mulHi (absI z) 1 * 18446744073709551616 + mulLo (absI z) 1 = absI z := by
  unfold mulHi mulLo absI; omega

set_option maxHeartbeats 1000000 in
set_option maxRecDepth 100000 in
theorem wrest_any (b : Nat) (z y : Int) (w : World) (z0 : -170141183460469231731687303715884105728 ≤ z) (z1 : z < 170141183460469231731687303715884105728) (y0 : 0 < y) (y1 : y ≤ 9223372036854775807)
    (c0 : w.cell? ⟨b, 0, none⟩ = some (.int .u64 (wH z))) (c1 : w.cell? ⟨b, 1, none⟩ = some (.int .u64 (wL z))) :
    Calls Tryd.prog 70 #[.pointer (some ⟨b, 0, none⟩), .int .i64 y] w fun e w' => e = .returned (.int .i64 (absI z % y)) ∧ ∃ n, w' = w.drewN n := by
  obtain ⟨h0, h1, l0, l1, he⟩ := hl_bd z z0 z1
  have HS := Lib.hid (wsize_any b z w z0 z1 c0 c1)
  have HR := Lib.hid (fun w => rem64_int (mulHi (absI z) 1) (mulLo (absI z) 1) y w h0 h1 l0 l1 y0 (by omega))
  have e : divR (mulHi (absI z) 1) (mulLo (absI z) 1) y = absI z % y := by unfold divR; rw [he]
  rw [e] at HR
  have r0 := Int.emod_nonneg (absI z) (show y ≠ 0 by omega)
  have r1 := Int.emod_lt_of_pos (absI z) y0
  clear z0 z1 c0 c1 e he
  generalize mulHi (absI z) 1 = sh at *
  generalize mulLo (absI z) 1 = sl at *
  generalize absI z % y = r at *
  go_enter Tryd.func70, Tryd.ntmps70
  go_wp2_with (first | (go_at_call 102; refine HS.out.mono ?_; rintro e w' ⟨rfl, n, rfl⟩) | (go_at_call 103; refine (HR.out _).mono ?_; rintro e w' ⟨rfl, n, rfl⟩))
  go_ret
  exact ⟨rfl, _, rfl⟩

theorem tdiv_sign (z y : Int) (y0 : 0 < y) : z.tdiv y = z.sign * (absI z / y) := by
  unfold absI
  rcases Int.lt_trichotomy z 0 with h | h | h
  · rw [Int.sign_eq_neg_one_of_neg h]
    obtain ⟨k, rfl⟩ : ∃ k : Nat, z = -(k : Int) := ⟨z.natAbs, by omega⟩
    rw [Int.neg_tdiv, Int.tdiv_eq_ediv_of_nonneg (by omega), Int.natAbs_neg, Int.natAbs_natCast]; omega
  · subst h; simp
  · rw [Int.sign_eq_one_of_pos h, Int.tdiv_eq_ediv_of_nonneg (by omega), Int.one_mul]
    congr 1; omega
theorem tdiv_abs (z y : Int) (y0 : 0 < y) : absI (z.tdiv y) = absI z / y := by
  rw [tdiv_sign z y y0]
  have h : 0 ≤ absI z / y := Int.ediv_nonneg (by unfold absI; omega) (by omega)
  rcases Int.lt_trichotomy z 0 with g | g | g
  · rw [Int.sign_eq_neg_one_of_neg g]; unfold absI at *; omega
  · subst g; simp [absI]
  · rw [Int.sign_eq_one_of_pos g]; unfold absI at *; omega
theorem inS_abs (n : Int) : inS n = decide (absI n ≤ 9223372036854775807) := by
  unfold inS absI
  rw [Bool.eq_iff_iff, decide_eq_true_iff, decide_eq_true_iff]; omega

set_option maxHeartbeats 1000000 in
set_option maxRecDepth 100000 in
theorem wthr_any (b : Nat) (z y : Int) (w : World) (z0 : -170141183460469231731687303715884105728 ≤ z) (z1 : z < 170141183460469231731687303715884105728) (y0 : 0 < y) (y1 : y ≤ 9223372036854775807)
    (c0 : w.cell? ⟨b, 0, none⟩ = some (.int .u64 (wH z))) (c1 : w.cell? ⟨b, 1, none⟩ = some (.int .u64 (wL z))) :
    Calls Tryd.prog 71 #[.pointer (some ⟨b, 0, none⟩), .int .i64 y] w fun e w' => e = .returned (.tuple #[.int .i64 (sN (z.tdiv y)), .int .i64 (sE (z.tdiv y))]) ∧ ∃ n, w' = w.drewN n := by
  obtain ⟨h0, h1, l0, l1, he⟩ := hl_bd z z0 z1
  have HS := Lib.hid (wsize_any b z w z0 z1 c0 c1)
  have HSg := Lib.hid (fun n => wsign_any b z (w.drewN n) z0 z1 c0 c1)
  have ha := tdiv_abs z y y0
  have hi := inS_abs (z.tdiv y)
  rw [ha] at hi
  have hsg := tdiv_sign z y y0
  by_cases hov : y ≤ mulHi (absI z) 1
  · have hq : ¬ absI z / y ≤ 9223372036854775807 := by
      have : 18446744073709551616 ≤ absI z / y := by
        rw [Int.le_ediv_iff_mul_le y0]
        have h2 : 18446744073709551616 * y ≤ 18446744073709551616 * mulHi (absI z) 1 := Int.mul_le_mul_of_nonneg_left hov (by decide)
        omega
      omega
    rw [decide_eq_false hq] at hi
    have e1 : sN (z.tdiv y) = 0 := by unfold sN; rw [hi]; rfl
    have e2 : sE (z.tdiv y) = 11 := by unfold sE; rw [hi]; rfl
    rw [e1, e2]
    clear z0 z1 c0 c1 he ha hi hsg hq e1 e2
    generalize mulHi (absI z) 1 = sh at *
    generalize mulLo (absI z) 1 = sl at *
    go_enter Tryd.func71, Tryd.ntmps71
    go_wp2_with (go_at_call 102; refine HS.out.mono ?_; rintro e w' ⟨rfl, n, rfl⟩)
    go_ret2
    exact ⟨rfl, _, rfl⟩
  · have HD := Lib.hid (fun w => div64_int (mulHi (absI z) 1) (mulLo (absI z) 1) y w h0 (by omega) l0 l1 (by omega))
    have e : divQ (mulHi (absI z) 1) (mulLo (absI z) 1) y = absI z / y := by unfold divQ; rw [he]
    rw [e] at HD
    have q0 : 0 ≤ absI z / y := Int.ediv_nonneg (by unfold absI; omega) (by omega)
    by_cases hq : absI z / y ≤ 9223372036854775807
    · rw [decide_eq_true hq] at hi
      have e1 : sN (z.tdiv y) = z.sign * (absI z / y) := by unfold sN; rw [hi, if_pos rfl]; exact hsg
      have e2 : sE (z.tdiv y) = 0 := by unfold sE; rw [hi]; rfl
      rw [e1, e2]
      have hb : -9223372036854775808 ≤ z.sign * (absI z / y) ∧ z.sign * (absI z / y) ≤ 9223372036854775807 := by
        rcases Int.lt_trichotomy z 0 with g | g | g
        · rw [Int.sign_eq_neg_one_of_neg g]; omega
        · subst g; simp
        · rw [Int.sign_eq_one_of_pos g]; omega
      have hw : wrap64 (z.sign * (absI z / y)) = z.sign * (absI z / y) := IntWalk.wrap64_in _ hb
      clear z0 z1 c0 c1 he ha hi hsg e1 e2 e hb
      generalize mulHi (absI z) 1 = sh at *
      generalize mulLo (absI z) 1 = sl at *
      generalize absI z / y = q at *
      generalize divR sh sl y = r at *
      generalize z.sign = sg at *
      obtain ⟨p, hp⟩ : ∃ p, p = sg * q := ⟨_, rfl⟩
      rw [← hp] at hw
      have HP := Lib.hid hp
      go_enter Tryd.func71, Tryd.ntmps71
      go_wp2_with (first | (go_at_call 102; refine HS.out.mono ?_; rintro e w' ⟨rfl, n, rfl⟩) | (go_at_call 76; refine (HD.out _).mono ?_; rintro e w' ⟨rfl, n, rfl⟩) | (go_at_call 104; refine (HSg.out _).mono ?_; rintro e w' ⟨rfl, rfl⟩))
      go_ret2
      exact ⟨ret_two (by first | rfl | (rw [← HP.out]; exact hw)) rfl, _, rfl⟩
    · rw [decide_eq_false hq] at hi
      have e1 : sN (z.tdiv y) = 0 := by unfold sN; rw [hi]; rfl
      have e2 : sE (z.tdiv y) = 11 := by unfold sE; rw [hi]; rfl
      rw [e1, e2]
      clear z0 z1 c0 c1 he ha hi hsg e1 e2 e
      generalize mulHi (absI z) 1 = sh at *
      generalize mulLo (absI z) 1 = sl at *
      generalize absI z / y = q at *
      generalize divR sh sl y = r at *
      go_enter Tryd.func71, Tryd.ntmps71
      go_wp2_with (first | (go_at_call 102; refine HS.out.mono ?_; rintro e w' ⟨rfl, n, rfl⟩) | (go_at_call 76; refine (HD.out _).mono ?_; rintro e w' ⟨rfl, n, rfl⟩))
      go_ret2
      exact ⟨rfl, _, rfl⟩

end Go.Proofs.YtbjjogbnndmmmaaDoor

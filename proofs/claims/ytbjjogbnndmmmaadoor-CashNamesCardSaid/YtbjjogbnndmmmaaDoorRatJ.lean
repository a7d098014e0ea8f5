/-
  Package ratio: Neg, Round, Of.
-/
import Derived.Test.YtbjjogbnndmmmaaDoorRatI
import Derived.Test.YtbjjogbnndmmmaaDoorMdA
namespace Go.Proofs.YtbjjogbnndmmmaaDoor
open Go.RowKit
set_option linter.unusedVariables false

theorem round_any (n d : Int) (w : World) (n0 : -9223372036854775808 ≤ n) (n1 : n ≤ 9223372036854775807) (d0 : -9223372036854775808 ≤ d) (d1 : d ≤ 9223372036854775807) :
    Calls Tryd.prog 28 #[.agg #[.int .i64 n, .int .i64 d]] w fun e w' => e = .returned (.tuple #[.int .i64 (if chkE n d = 0 then md n 1 d else 0), .int .i64 (chkE n d)]) ∧ Below w.heap.size w w' := by
  have HC := Lib.hid (fun w => check_any n d w n0 n1 d0 d1)
  have h2 : Below w.heap.size w (w.alloc (.cells #[.int .i64 n, .int .i64 d] 23)) := (Below.refl _ _).alloc (Nat.le_refl _) _
  have H2 := Lib.hid h2
  clear h2
  by_cases h : chkE n d = 0
  · have hok := chkE_zero h n0 n1 d1
    have hin := md_one_in n d hok.d0 n0 n1
    have HM := Lib.hid (fun w => muldiv_any n 1 d w n0 n1 (by omega) (by omega) d0 d1 (by have := hok.d0; omega))
    rw [fitN_in hin, fitE_in hin] at HM
    rw [if_pos h, h]
    rw [h] at HC
    clear hok h hin
    generalize md n 1 d = m at *
    go_enter Tryd.func28, Tryd.ntmps28
    go_wp2_with fail
    refine (HC.out _).mono ?_
    rintro e w1 ⟨rfl, hb1⟩
    have a0 : w1.cell? ⟨w.heap.size, 0, none⟩ = some (.int .i64 n) := by rw [hb1.cell (p := ⟨w.heap.size, 0, none⟩) (by simp)]; simp
    have a1 : w1.cell? ⟨w.heap.size, 1, none⟩ = some (.int .i64 d) := by rw [hb1.cell (p := ⟨w.heap.size, 1, none⟩) (by simp)]; simp
    have HB1 := Lib.hid (H2.out.trans (hb1.mono H2.out.size))
    clear hb1 H2
    go_wp2_with fail
    refine (HM.out _).mono ?_
    rintro e w2 ⟨rfl, k, rfl⟩
    go_wp2_with fail
    go_ret2
    exact ⟨rfl, HB1.out.trans ((drewN_belowR _ _).mono HB1.out.size)⟩
  · rw [if_neg h]
    generalize chkE n d = er at *
    have hb : (er != 0) = true := by simpa using h
    have hc' : (er == 0) = false := by simpa using h
    clear h
    go_enter Tryd.func28, Tryd.ntmps28
    go_wp2_with fail
    refine (HC.out _).mono ?_
    rintro e w1 ⟨rfl, hb1⟩
    have HB1 := Lib.hid (H2.out.trans (hb1.mono H2.out.size))
    clear hb1 H2
    go_wp2_with fail
    go_ret2
    exact ⟨rfl, HB1.out⟩

/-! ### Of -/
theorem of_zero (n : Int) (w : World) : Calls Tryd.prog 26 #[.int .i64 n, .int .i64 0] w fun e w' => e = .returned (tup 0 0 12) ∧ Below w.heap.size w w' := by
  go_enter Tryd.func26, Tryd.ntmps26
  go_wp2
  exact bodyPost_ret (v := tup 0 0 12) (by simp [results, Tryd.results26, go_sem, tup]) rfl ⟨rfl, (Below.refl _ _).alloc (Nat.le_refl _) _⟩

theorem of_parts (n d : Int) (hd : d ≠ 0) : (rat n d).num = sgn (decide (n < 0) != decide (d < 0)) (absI n / ((Int.gcd n d : Nat) : Int)) ∧ (((rat n d).den : Nat) : Int) = absI d / ((Int.gcd n d : Nat) : Int) := by
  have hg : 0 < Int.gcd n d := Int.gcd_pos_of_ne_zero_right n hd
  unfold rat
  rw [Rat.num_divInt, Rat.den_divInt, if_neg hd, Int.gcd_comm d n]
  constructor
  · obtain ⟨k, hk⟩ := Int.gcd_dvd_left n d
    have hgz : ((Int.gcd n d : Nat) : Int) ≠ 0 := by omega
    have e1 : absI n / ((Int.gcd n d : Nat) : Int) = absI k := by
      have : absI n = ((Int.gcd n d : Nat) : Int) * absI k := by
        conv => lhs; rw [hk]
        unfold absI; rw [Int.natAbs_mul, Int.natAbs_natCast, Int.natCast_mul]
      rw [this, Int.mul_ediv_cancel_left _ hgz]
    have e2 : d.sign * n / ((Int.gcd n d : Nat) : Int) = d.sign * k := by
      have : d.sign * n = ((Int.gcd n d : Nat) : Int) * (d.sign * k) := by
        conv => lhs; rw [hk]
        rw [← Int.mul_assoc, Int.mul_comm d.sign, Int.mul_assoc]
      rw [this, Int.mul_ediv_cancel_left _ hgz]
    have e3 : (n < 0) ↔ (k < 0) := by
      constructor
      · intro h
        by_cases g : k < 0
        · exact g
        · have := Int.mul_nonneg (show 0 ≤ ((Int.gcd n d : Nat) : Int) by omega) (show 0 ≤ k by omega); omega
      · intro h; rw [hk]; exact Int.mul_neg_of_pos_of_neg (by omega) h
    rw [e1, e2]
    have e4 : decide (n < 0) = decide (k < 0) := by rw [Bool.eq_iff_iff, decide_eq_true_iff, decide_eq_true_iff]; exact e3
    rw [e4]
    rcases Int.lt_trichotomy d 0 with h | h | h
    · rw [Int.sign_eq_neg_one_of_neg h, decide_eq_true h]
      unfold sgn absI
      by_cases g : k < 0
      · rw [decide_eq_true g]; simp; omega
      · rw [decide_eq_false g]; simp; omega
    · exact absurd h hd
    · rw [Int.sign_eq_one_of_pos h, decide_eq_false (show ¬ d < 0 by omega)]
      unfold sgn absI
      by_cases g : k < 0
      · rw [decide_eq_true g]; simp; omega
      · rw [decide_eq_false g]; simp; omega
  · unfold absI; rw [Int.natCast_ediv]

end Go.Proofs.YtbjjogbnndmmmaaDoor

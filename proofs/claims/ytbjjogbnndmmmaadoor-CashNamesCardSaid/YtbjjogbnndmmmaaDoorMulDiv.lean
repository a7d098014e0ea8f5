/-
  The contract of amount.MulDiv: a times b through c, rounded to the nearest number, to an even one of two.
-/
import Derived.Test.YtbjjogbnndmmmaaDoorDivW
namespace Go.Proofs.YtbjjogbnndmmmaaDoor
open Go.RowKit
set_option linter.unusedVariables false

def mulHi (x y : Int) : Int := x * y / 18446744073709551616
def mulLo (x y : Int) : Int := x * y % 18446744073709551616
def divQ (h l y : Int) : Int := (h * 18446744073709551616 + l) / y
def divR (h l y : Int) : Int := (h * 18446744073709551616 + l) % y

theorem mul64_int (x y : Int) (w : World) (h0 : 0 ≤ x) (h1 : x ≤ 18446744073709551615) (g0 : 0 ≤ y) (g1 : y ≤ 18446744073709551615) :
    Calls Tryd.prog 75 #[.int .u64 x, .int .u64 y] w fun e w' => e = .returned (.tuple #[.int .u64 (mulHi x y), .int .u64 (mulLo x y)]) ∧ w = w' := by
  obtain ⟨X, rfl⟩ := Int.eq_ofNat_of_zero_le h0
  obtain ⟨Y, rfl⟩ := Int.eq_ofNat_of_zero_le g0
  refine (mul64_any X Y (by omega) (by omega) w).mono ?_
  rintro e w' ⟨rfl, rfl⟩
  refine ⟨ret_two ?_ ?_, rfl⟩
  · unfold mulHi; rw [Int.natCast_ediv, Int.natCast_mul]; rfl
  · unfold mulLo; rw [Int.natCast_emod, Int.natCast_mul]; rfl

theorem div64_int (h l y : Int) (w : World) (h0 : 0 ≤ h) (h1 : h < y) (l0 : 0 ≤ l) (l1 : l ≤ 18446744073709551615) (y1 : y ≤ 18446744073709551615) :
    Calls Tryd.prog 76 #[.int .u64 h, .int .u64 l, .int .u64 y] w fun e w' => e = .returned (.tuple #[.int .u64 (divQ h l y), .int .u64 (divR h l y)]) ∧ ∃ n, w' = w.drewN n := by
  obtain ⟨H, rfl⟩ := Int.eq_ofNat_of_zero_le h0
  obtain ⟨L, rfl⟩ := Int.eq_ofNat_of_zero_le l0
  obtain ⟨Y, rfl⟩ := Int.eq_ofNat_of_zero_le (show 0 ≤ y by omega)
  refine (div64_any H L Y (by omega) (by omega) (by omega) w).mono ?_
  rintro e w' ⟨rfl, n, rfl⟩
  refine ⟨ret_two ?_ ?_, n, rfl⟩
  · unfold divQ; rw [Int.natCast_ediv, Int.natCast_add, Int.natCast_mul]; rfl
  · unfold divR; rw [Int.natCast_emod, Int.natCast_add, Int.natCast_mul]; rfl

/-- The nearest whole number of p through d, an even one of two. -/
def nearI (p d : Int) : Int := p / d + up (p / d) (p % d) d

/-- Whether just one of two is below nought. -/
def odds (a b c : Int) : Bool := ((decide (a < 0) != decide (b < 0)) != decide (c < 0))

/-- a times b through c, rounded. -/
def md (a b c : Int) : Int := sgn (odds a b c) (nearI (absI a * absI b) (absI c))

theorem up_01 (q r d : Int) : 0 ≤ up q r d ∧ up q r d ≤ 1 := by unfold up; split <;> omega
theorem absI_bd (a : Int) (h0 : -9223372036854775808 ≤ a) (h1 : a ≤ 9223372036854775807) : 0 ≤ absI a ∧ absI a ≤ 9223372036854775808 := by unfold absI; omega
theorem hl_back (p : Int) : p / 18446744073709551616 * 18446744073709551616 + p % 18446744073709551616 = p := by omega

theorem sgn_out (b : Bool) (m : Int) (h : 18446744073709551616 ≤ m) : inR (sgn b m) = false := by cases b <;> simp [inR, sgn] <;> omega

theorem near_out (p d : Int) (hd : 0 < d) (hp : 0 ≤ p) (h : d ≤ p / 18446744073709551616) : 18446744073709551616 ≤ nearI p d := by
  unfold nearI
  have hu := (up_01 (p / d) (p % d) d).1
  have : 18446744073709551616 ≤ p / d := by
    rw [Int.le_ediv_iff_mul_le hd]
    have := hl_back p
    omega
  omega

theorem quo_le (p d : Int) (hd : 0 < d) (h : p / 18446744073709551616 < d) : p / d ≤ 18446744073709551615 := by
  have : p / d < 18446744073709551616 := by
    rw [Int.ediv_lt_iff_lt_mul hd]
    omega
  omega

theorem muldiv_zero (a b : Int) (w : World) :
    Calls Tryd.prog 51 #[.int .i64 a, .int .i64 b, .int .i64 0] w fun e w' => e = .returned (.tuple #[.int .i64 0, .int .i64 12]) ∧ w = w' := by
  go_enter Tryd.func51, Tryd.ntmps51
  go_wp2
  go_ret2
  exact ⟨rfl, rfl⟩

set_option maxHeartbeats 1000000 in
theorem muldiv_any (a b c : Int) (w : World) (a0 : -9223372036854775808 ≤ a) (a1 : a ≤ 9223372036854775807) (b0 : -9223372036854775808 ≤ b) (b1 : b ≤ 9223372036854775807)
    (c0 : -9223372036854775808 ≤ c) (c1 : c ≤ 9223372036854775807) (hc : c ≠ 0) :
    Calls Tryd.prog 51 #[.int .i64 a, .int .i64 b, .int .i64 c] w fun e w' => e = .returned (.tuple #[.int .i64 (fitN (md a b c)), .int .i64 (fitE (md a b c))]) ∧ ∃ n, w' = w.drewN n := by
  have hcb : (c == 0) = false := by simpa using hc
  obtain ⟨sa0, sa1⟩ := absI_bd a a0 a1
  obtain ⟨sb0, sb1⟩ := absI_bd b b0 b1
  obtain ⟨sc0, sc1⟩ := absI_bd c c0 c1
  have sc2 : 0 < absI c := by unfold absI; omega
  have hp0 : 0 ≤ absI a * absI b := Int.mul_nonneg sa0 sb0
  have hh0 : 0 ≤ mulHi (absI a) (absI b) := by unfold mulHi; omega
  have hl0 : 0 ≤ mulLo (absI a) (absI b) := by unfold mulLo; omega
  have hl1 : mulLo (absI a) (absI b) ≤ 18446744073709551615 := by unfold mulLo; omega
  by_cases hov : absI c ≤ mulHi (absI a) (absI b)
  · have HF := Lib.hid (sgn_out (odds a b c) _ (near_out _ _ sc2 hp0 hov))
    clear hc
    go_enter Tryd.func51, Tryd.ntmps51
    go_wp2_with (first | (go_at_call 74; refine (size_any _ _ (by omega) (by omega)).mono ?_; rintro e w' ⟨rfl, rfl⟩) | (go_at_call 75; refine (mul64_int _ _ _ (by omega) (by omega) (by omega) (by omega)).mono ?_; rintro e w' ⟨rfl, rfl⟩))
    go_ret2
    exact ⟨ret_two (fitN_out HF.out).symm (fitE_out HF.out).symm, 0, rfl⟩
  · have eP : mulHi (absI a) (absI b) * 18446744073709551616 + mulLo (absI a) (absI b) = absI a * absI b := by unfold mulHi mulLo; omega
    have hq0 : 0 ≤ divQ (mulHi (absI a) (absI b)) (mulLo (absI a) (absI b)) (absI c) := by unfold divQ; rw [eP]; exact Int.ediv_nonneg hp0 (by omega)
    have hq1 : divQ (mulHi (absI a) (absI b)) (mulLo (absI a) (absI b)) (absI c) ≤ 18446744073709551615 := by
      unfold divQ; rw [eP]; exact quo_le _ _ sc2 (by unfold mulHi at hov; omega)
    have hr0 : 0 ≤ divR (mulHi (absI a) (absI b)) (mulLo (absI a) (absI b)) (absI c) := Int.emod_nonneg _ (by omega)
    have hr1 : divR (mulHi (absI a) (absI b)) (mulLo (absI a) (absI b)) (absI c) < absI c := Int.emod_lt_of_pos _ sc2
    have HN : Hid (md a b c = sgn (odds a b c) (divQ (mulHi (absI a) (absI b)) (mulLo (absI a) (absI b)) (absI c) + up (divQ (mulHi (absI a) (absI b)) (mulLo (absI a) (absI b)) (absI c)) (divR (mulHi (absI a) (absI b)) (mulLo (absI a) (absI b)) (absI c)) (absI c))) := by
      apply Lib.hid; unfold md nearI divQ divR; rw [eP]
    clear eP hp0 hc
    have hdiv := fun w => div64_int (mulHi (absI a) (absI b)) (mulLo (absI a) (absI b)) (absI c) w hh0 (by omega) hl0 hl1 (by omega)
    have HDiv := Lib.hid hdiv
    clear hdiv
    generalize divQ (mulHi (absI a) (absI b)) (mulLo (absI a) (absI b)) (absI c) = q at *
    generalize divR (mulHi (absI a) (absI b)) (mulLo (absI a) (absI b)) (absI c) = r at *
    obtain ⟨hu0, hu1⟩ := up_01 q r (absI c)
    by_cases hcarry : q + up q r (absI c) ≤ 18446744073709551615
    · have hadd : ∀ w, (callFunc 66 #[.int .u64 q, .int .u64 (up q r (absI c)), .int .u64 0]).run Tryd.prog w = .ok (.value (.tuple #[.int .u64 (q + up q r (absI c)), .int .u64 0])) w := by
        intro w; rw [add64_run q _ hq0 hu0]
        rw [show (q + up q r (absI c)) % 18446744073709551616 = q + up q r (absI c) from by omega, show (q + up q r (absI c)) / 18446744073709551616 = 0 from by omega]
      go_enter Tryd.func51, Tryd.ntmps51
      go_wp2_with (first | (go_at_call 74; refine (size_any _ _ (by omega) (by omega)).mono ?_; rintro e w' ⟨rfl, rfl⟩) | (go_at_call 75; refine (mul64_int _ _ _ (by omega) (by omega) (by omega) (by omega)).mono ?_; rintro e w' ⟨rfl, rfl⟩) | (go_at_call 76; refine (HDiv.out _).mono ?_; rintro e w' ⟨rfl, n, rfl⟩) | (go_at_call 77; refine (roundUp_any _ _ _ _ (by omega) (by omega) (by omega) (by omega)).mono ?_; rintro e w' ⟨rfl, rfl⟩) | (go_at_call 78; refine (signed_any _ _ _ (by omega) (by omega)).mono ?_; rintro e w' ⟨rfl, rfl⟩))
      go_ret2
      exact ⟨ret_two (by rw [HN.out]; rfl) (by rw [HN.out]; rfl), _, rfl⟩
    · have hadd : ∀ w, (callFunc 66 #[.int .u64 q, .int .u64 (up q r (absI c)), .int .u64 0]).run Tryd.prog w = .ok (.value (.tuple #[.int .u64 0, .int .u64 1])) w := by
        intro w; rw [add64_run q _ hq0 hu0]
        rw [show (q + up q r (absI c)) % 18446744073709551616 = 0 from by omega, show (q + up q r (absI c)) / 18446744073709551616 = 1 from by omega]
      have HF := Lib.hid (sgn_out (odds a b c) (q + up q r (absI c)) (by omega))
      clear hcarry
      go_enter Tryd.func51, Tryd.ntmps51
      go_wp2_with (first | (go_at_call 74; refine (size_any _ _ (by omega) (by omega)).mono ?_; rintro e w' ⟨rfl, rfl⟩) | (go_at_call 75; refine (mul64_int _ _ _ (by omega) (by omega) (by omega) (by omega)).mono ?_; rintro e w' ⟨rfl, rfl⟩) | (go_at_call 76; refine (HDiv.out _).mono ?_; rintro e w' ⟨rfl, n, rfl⟩) | (go_at_call 77; refine (roundUp_any _ _ _ _ (by omega) (by omega) (by omega) (by omega)).mono ?_; rintro e w' ⟨rfl, rfl⟩) | (go_at_call 78; refine (signed_any _ _ _ (by omega) (by omega)).mono ?_; rintro e w' ⟨rfl, rfl⟩))
      go_ret2
      exact ⟨ret_two (by rw [HN.out]; exact (fitN_out HF.out).symm) (by rw [HN.out]; exact (fitE_out HF.out).symm), _, rfl⟩

end Go.Proofs.YtbjjogbnndmmmaaDoor

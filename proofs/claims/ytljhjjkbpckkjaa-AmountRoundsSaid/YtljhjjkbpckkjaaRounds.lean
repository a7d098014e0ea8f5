/-
  chattellaw01.AmountRounds's walk: a times b through c is the document's nearest number, or neither fits.
-/
import Derived.Test.YtljhjjkbpckkjaaRefN
import Derived.Test.YtljhjjkbpckkjaaLims
import Derived.Test.YtljhjjkbpckkjaaAwake
import Derived.Test.YtljhjjkbpckkjaaMdA
namespace Go.Proofs.Ytljhjjkbpckkjaa
open Go.RowKit
set_option linter.unusedVariables false

theorem rounds_zero (a b : Int) (w : World) :
    Calls Try.prog 3 #[.int .i64 a, .int .i64 b, .int .i64 0] w fun e w' => e = .returned (.bool true) ∧ Below w.heap.size w w' := by
  go_enter Try.func3, Try.ntmps3
  go_wp2_with (first | (go_at_call 10; refine (muldiv_zero _ _ _).mono ?_; rintro e w' ⟨rfl, rfl⟩) | (go_at_call 11; refine (awake_any _).mono ?_; rintro e w' ⟨rfl, hb⟩))
  go_ret
  have hb' := ‹Below _ _ _›
  exact ⟨rfl, hb'⟩

theorem md_lim {a b c : Int} (a0 : -9223372036854775808 ≤ a) (a1 : a ≤ 9223372036854775807) (b0 : -9223372036854775808 ≤ b) (b1 : b ≤ 9223372036854775807) (hc : c ≠ 0) (k : Nat) (hk : 128 ≤ k) : (md a b c).natAbs < 2 ^ k := by
  have h1 := mul_lim a0 a1 b0 b1 k hk
  have hp : 0 < absI c := by unfold absI; omega
  have e : absI a * absI b = ((a * b).natAbs : Int) := by unfold absI; rw [Int.natAbs_mul]; simp
  have h2 := near_le (absI a * absI b) (absI c) hp (by rw [e]; omega)
  have h3 := near_nonneg (absI a * absI b) (absI c) hp (by rw [e]; omega)
  have h4 : (md a b c).natAbs ≤ (a * b).natAbs := by
    unfold md sgn
    rw [e] at h2 h3 ⊢
    split <;> omega
  exact Nat.lt_of_le_of_lt h4 h1

theorem int_lim9 {n : Int} (b0 : -9223372036854775808 ≤ n) (b1 : n ≤ 9223372036854775807) : n.natAbs < 2 ^ 900 := pow_big 900 (by decide) (by omega)

set_option maxHeartbeats 4000000 in
set_option maxRecDepth 100000 in
theorem rounds_core (a b c : Int) (w : World) (a0 : -9223372036854775808 ≤ a) (a1 : a ≤ 9223372036854775807) (b0 : -9223372036854775808 ≤ b) (b1 : b ≤ 9223372036854775807) (c0 : -9223372036854775808 ≤ c) (c1 : c ≤ 9223372036854775807) (hc : c ≠ 0) :
    Calls Try.prog 3 #[.int .i64 a, .int .i64 b, .int .i64 c] w fun e w' => e = .returned (.bool true) ∧ Below w.heap.size w w' := by
  have hcb : (c == 0) = false := by simpa using hc
  have HMd := Lib.hid (fun w => muldiv_any a b c w a0 a1 b0 b1 c0 c1 hc)
  have HOa := Lib.hid (fun w => of_any a w a0 a1)
  have HOb := Lib.hid (fun w => of_any b w b0 b1)
  have HOc := Lib.hid (fun w => of_any c w c0 c1)
  have HMul := Lib.hid (fun v v' w (h : BigV w v a) (h' : BigV w v' b) => rmul_any a b v v' w h h' (int_lim a0 a1) (int_lim b0 b1))
  have HNear := Lib.hid (fun v v' w (h : BigV w v (a * b)) (h' : BigV w v' c) => near_any (a * b) c v v' w h h' hc (mul_lim a0 a1 b0 b1 900 (by decide)) (int_lim9 c0 c1))
  rw [near_md a b c hc] at HNear
  have HF := Lib.hid (fun v w (h : BigV w v (md a b c)) => fits_any (md a b c) v w h (md_lim a0 a1 b0 b1 hc 1000 (by decide)))
  clear a0 a1 b0 b1 c0 c1 hc
  go_enter Try.func3, Try.ntmps3
  go_wp2_with fail
  refine (HMd.out _).mono ?_
  rintro e w' ⟨rfl, m, rfl⟩
  go_wp2_with fail
  refine (HOa.out _).mono ?_
  rintro e w1 ⟨⟨v1, rfl, hv1⟩, hb1⟩
  have HB1 := Lib.hid ((drewN_below w m).trans (hb1.mono (Nat.le_refl _)))
  have HV1 := Lib.hid hv1
  clear hv1 hb1
  go_wp2_with fail
  refine (HOb.out _).mono ?_
  rintro e w2 ⟨⟨v2, rfl, hv2⟩, hb2⟩
  have HV1' := Lib.hid (HV1.out.keep hb2)
  have HV2 := Lib.hid hv2
  have HB2 := Lib.hid (HB1.out.trans (hb2.mono HB1.out.size))
  clear hv2 hb2 HV1 HB1
  go_wp2_with fail
  refine (HMul.out _ _ _ HV1'.out HV2.out).mono ?_
  rintro e w3 ⟨⟨v3, rfl, hv3⟩, hb3⟩
  have HV3 := Lib.hid hv3
  have HB3 := Lib.hid (HB2.out.trans (hb3.mono HB2.out.size))
  clear hv3 hb3 HV1' HV2 HB2
  go_wp2_with fail
  refine (HOc.out _).mono ?_
  rintro e w4 ⟨⟨v4, rfl, hv4⟩, hb4⟩
  have HV3' := Lib.hid (HV3.out.keep hb4)
  have HV4 := Lib.hid hv4
  have HB4 := Lib.hid (HB3.out.trans (hb4.mono HB3.out.size))
  clear hv4 hb4 HV3 HB3
  go_wp2_with fail
  refine (HNear.out _ _ _ HV3'.out HV4.out).mono ?_
  rintro e w5 ⟨⟨v5, rfl, hv5⟩, hb5⟩
  have HV5 := Lib.hid hv5
  have HB5 := Lib.hid (HB4.out.trans (hb5.mono HB4.out.size))
  clear hv5 hb5 HV3' HV4 HB4
  go_wp2_with fail
  refine (HF.out _ _ HV5.out).mono ?_
  rintro e w6 ⟨rfl, hb6⟩
  have HB6 := Lib.hid (HB5.out.trans (hb6.mono HB5.out.size))
  clear hb6 HV5 HB5
  go_wp2_with fail
  refine (awake_any _).mono ?_
  rintro e w7 ⟨rfl, hb7⟩
  have HB7 := Lib.hid (HB6.out.trans (hb7.mono HB6.out.size))
  clear hb7 HB6
  go_wp2
  go_ret
  exact ⟨rfl, HB7.out⟩

end Go.Proofs.Ytljhjjkbpckkjaa

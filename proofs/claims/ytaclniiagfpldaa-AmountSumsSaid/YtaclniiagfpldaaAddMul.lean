/-
  amount.Add and amount.Mul: the sum and the product, or that they do not fit.
-/
import Derived.Test.YtaclniiagfpldaaScales
import Derived.Laws.Closers25b
namespace Go.Proofs.Ytaclniiagfpldaa
open Go.RowKit
set_option linter.unusedVariables false

namespace BitsA
theorem msb_ofInt (a : Int) (h0 : -9223372036854775808 ≤ a) (h1 : a ≤ 9223372036854775807) : (BitVec.ofInt 64 a).msb = decide (a < 0) := by
  rw [BitVec.msb_eq_decide, BitVec.toNat_ofInt]
  by_cases h : a < 0
  · rw [decide_eq_true h, decide_eq_true]; omega
  · rw [decide_eq_false h, decide_eq_false]; omega
theorem wrap_neg (x : BitVec 64) : decide (IntKind.i64.wrap (x.toNat : Int) < 0) = x.msb := by
  have := x.isLt
  rw [BitVec.msb_eq_decide, IntKind.wrap_i64]
  by_cases h : 9223372036854775808 ≤ x.toNat
  · rw [decide_eq_true (by omega), decide_eq_true (by omega)]
  · rw [decide_eq_false (by omega), decide_eq_false (by omega)]
theorem xor_neg (a b : Int) (a0 : -9223372036854775808 ≤ a) (a1 : a ≤ 9223372036854775807) (b0 : -9223372036854775808 ≤ b) (b1 : b ≤ 9223372036854775807) :
    decide (bits .xor .i64 a b < 0) = (decide (a < 0) != decide (b < 0)) := by
  have : bits .xor .i64 a b = IntKind.i64.wrap ((BitVec.ofInt 64 a ^^^ BitVec.ofInt 64 b).toNat : Int) := rfl
  rw [this, wrap_neg, BitVec.msb_xor, msb_ofInt a a0 a1, msb_ofInt b b0 b1]
theorem and_neg (a b : Int) (a0 : -9223372036854775808 ≤ a) (a1 : a ≤ 9223372036854775807) (b0 : -9223372036854775808 ≤ b) (b1 : b ≤ 9223372036854775807) :
    decide (bits .and .i64 a b < 0) = (decide (a < 0) && decide (b < 0)) := by
  have : bits .and .i64 a b = IntKind.i64.wrap ((BitVec.ofInt 64 a &&& BitVec.ofInt 64 b).toNat : Int) := rfl
  rw [this, wrap_neg, BitVec.msb_and, msb_ofInt a a0 a1, msb_ofInt b b0 b1]
theorem bits_rng (op : BinOp) (a b : Int) : -9223372036854775808 ≤ bits op .i64 a b ∧ bits op .i64 a b ≤ 9223372036854775807 := ⟨bits_lo_i64 op a b, bits_hi_i64 op a b⟩
theorem over_iff (a b s : Int) (a0 : -9223372036854775808 ≤ a) (a1 : a ≤ 9223372036854775807) (b0 : -9223372036854775808 ≤ b) (b1 : b ≤ 9223372036854775807) (hs : s = wrap64 (a + b)) :
    decide (bits .and .i64 (bits .xor .i64 a s) (bits .xor .i64 b s) < 0) = !(inR (a + b)) := by
  have s0 : -9223372036854775808 ≤ s ∧ s ≤ 9223372036854775807 := by rw [hs]; unfold wrap64; omega
  rw [and_neg _ _ (bits_rng _ _ _).1 (bits_rng _ _ _).2 (bits_rng _ _ _).1 (bits_rng _ _ _).2, xor_neg a s a0 a1 s0.1 s0.2, xor_neg b s b0 b1 s0.1 s0.2]
  unfold wrap64 at hs
  unfold inR
  by_cases ha : a < 0 <;> by_cases hb : b < 0 <;> by_cases hc : s < 0 <;> by_cases hr : -9223372036854775808 ≤ a + b ∧ a + b ≤ 9223372036854775807
  all_goals first
    | (exfalso; omega)
    | (simp only [ha, hb, hc, hr, decide_true, decide_false, and_self]; rfl)
    | (rw [decide_eq_false hr]; simp only [ha, hb, hc, decide_true, decide_false]; rfl)
end BitsA

theorem add_any (a b : Int) (w : World) (a0 : -9223372036854775808 ≤ a) (a1 : a ≤ 9223372036854775807) (b0 : -9223372036854775808 ≤ b) (b1 : b ≤ 9223372036854775807) :
    Calls Try.prog 11 #[.int .i64 a, .int .i64 b] w fun e w' => e = .returned (.tuple #[.int .i64 (fitN (a + b)), .int .i64 (fitE (a + b))]) ∧ w = w' := by
  by_cases h : inR (a + b) = true
  · have hr := (inR_iff _).1 h
    have hd := BitsA.over_iff a b (a + b) a0 a1 b0 b1 (IntWalk.wrap64_in _ hr).symm
    rw [h] at hd
    have HN := Lib.hid (fitN_in h)
    have HE := Lib.hid (fitE_in h)
    have hn : ¬ bits .and .i64 (bits .xor .i64 a (a + b)) (bits .xor .i64 b (a + b)) < 0 := of_decide_eq_false hd
    clear h hd
    go_enter Try.func11, Try.ntmps11
    go_wp2
    go_ret2
    exact ⟨ret_two HN.out.symm HE.out.symm, rfl⟩
  · have h' : inR (a + b) = false := by simpa using h
    obtain ⟨s, hs⟩ : ∃ s, wrap64 (a + b) = s := ⟨_, rfl⟩
    have hd := BitsA.over_iff a b s a0 a1 b0 b1 hs.symm
    rw [h'] at hd
    have HN := Lib.hid (fitN_out h')
    have HE := Lib.hid (fitE_out h')
    have hn : bits .and .i64 (bits .xor .i64 a s) (bits .xor .i64 b s) < 0 := of_decide_eq_true hd
    clear h h' hd
    go_enter Try.func11, Try.ntmps11
    go_wp2
    go_ret2
    exact ⟨ret_two HN.out.symm HE.out.symm, rfl⟩

theorem prod_sgn (a b : Int) : sgn (decide (a < 0) != decide (b < 0)) (absI a * absI b) = a * b := by
  unfold absI sgn
  rw [← Int.natCast_mul, ← Int.natAbs_mul]
  by_cases ha : a < 0 <;> by_cases hb : b < 0
  · rw [decide_eq_true ha, decide_eq_true hb]
    have := Int.mul_pos_of_neg_of_neg ha hb
    show ((a * b).natAbs : Int) = a * b; omega
  · rw [decide_eq_true ha, decide_eq_false hb]
    have := Int.mul_nonpos_of_nonpos_of_nonneg (show a ≤ 0 by omega) (show 0 ≤ b by omega)
    show -((a * b).natAbs : Int) = a * b; omega
  · rw [decide_eq_false ha, decide_eq_true hb]
    have := Int.mul_nonpos_of_nonneg_of_nonpos (show 0 ≤ a by omega) (show b ≤ 0 by omega)
    show -((a * b).natAbs : Int) = a * b; omega
  · rw [decide_eq_false ha, decide_eq_false hb]
    have := Int.mul_nonneg (show 0 ≤ a by omega) (show 0 ≤ b by omega)
    show ((a * b).natAbs : Int) = a * b; omega

set_option maxHeartbeats 1000000 in
theorem mul_any (a b : Int) (w : World) (a0 : -9223372036854775808 ≤ a) (a1 : a ≤ 9223372036854775807) (b0 : -9223372036854775808 ≤ b) (b1 : b ≤ 9223372036854775807) :
    Calls Try.prog 13 #[.int .i64 a, .int .i64 b] w fun e w' => e = .returned (.tuple #[.int .i64 (fitN (a * b)), .int .i64 (fitE (a * b))]) ∧ w = w' := by
  obtain ⟨sa0, sa1⟩ := absI_bd a a0 a1
  obtain ⟨sb0, sb1⟩ := absI_bd b b0 b1
  have hp0 : 0 ≤ absI a * absI b := Int.mul_nonneg sa0 sb0
  have hh0 : 0 ≤ mulHi (absI a) (absI b) := by unfold mulHi; omega
  have HP := Lib.hid (prod_sgn a b)
  by_cases hz : mulHi (absI a) (absI b) = 0
  · have hl : mulLo (absI a) (absI b) = absI a * absI b := by unfold mulLo; unfold mulHi at hz; omega
    have hl1 : absI a * absI b ≤ 18446744073709551615 := by unfold mulHi at hz; omega
    have HM := Lib.hid (fun w => mul64_int (absI a) (absI b) w sa0 (by omega) sb0 (by omega))
    have HS := Lib.hid (fun c w => signed_any (absI a * absI b) c w hp0 hl1)
    rw [hz, hl] at HM
    have hzb : ((0 : Int) != 0) = false := rfl
    clear hz hl
    generalize absI a * absI b = P at *
    go_enter Try.func13, Try.ntmps13
    go_wp2_with (first | (go_at_call 27; refine (size_any _ _ (by omega) (by omega)).mono ?_; rintro e w' ⟨rfl, rfl⟩) | (go_at_call 26; refine (HM.out _).mono ?_; rintro e w' ⟨rfl, rfl⟩) | (go_at_call 28; refine (HS.out _ _).mono ?_; rintro e w' ⟨rfl, rfl⟩))
    go_ret2
    exact ⟨ret_two (congrArg fitN HP.out) (congrArg fitE HP.out), rfl⟩
  · have hb : (mulHi (absI a) (absI b) != 0) = true := by simpa using hz
    have HF : Hid (inR (a * b) = false) := Lib.hid (by rw [← HP.out]; exact sgn_out _ _ (by unfold mulHi at hz hh0; omega))
    clear hz
    go_enter Try.func13, Try.ntmps13
    go_wp2_with (first | (go_at_call 27; refine (size_any _ _ (by omega) (by omega)).mono ?_; rintro e w' ⟨rfl, rfl⟩) | (go_at_call 26; refine (mul64_int _ _ _ (by omega) (by omega) (by omega) (by omega)).mono ?_; rintro e w' ⟨rfl, rfl⟩))
    go_ret2
    exact ⟨ret_two (fitN_out HF.out).symm (fitE_out HF.out).symm, rfl⟩

end Go.Proofs.Ytaclniiagfpldaa

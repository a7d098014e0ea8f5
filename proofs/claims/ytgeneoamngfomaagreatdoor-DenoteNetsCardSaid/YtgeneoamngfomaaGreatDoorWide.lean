/-
  Package ratio's wide numbers (128 bits in two's complement): add, sign, size, rest, through.
-/
import Derived.Test.YtgeneoamngfomaaGreatDoorRtA
import Derived.Shelf.Spec.BitsCarry
namespace Go.Proofs.YtgeneoamngfomaaGreatDoor
open Go.RowKit
set_option linter.unusedVariables false

/-- The two words of a number of 128 bits, in two's complement. -/
def wH (z : Int) : Int := (z / 18446744073709551616) % 18446744073709551616
def wL (z : Int) : Int := z % 18446744073709551616
theorem wH_bd (z : Int) : 0 ≤ wH z ∧ wH z ≤ 18446744073709551615 := by unfold wH; omega
theorem wL_bd (z : Int) : 0 ≤ wL z ∧ wL z ≤ 18446744073709551615 := by unfold wL; omega

theorem add64c_run (x y c : Int) (h0 : 0 ≤ x) (g0 : 0 ≤ y) (c0 : 0 ≤ c) (c1 : c ≤ 1) (w : World) :
    (callFunc 72 #[.int .u64 x, .int .u64 y, .int .u64 c]).run Tryz.prog w =
      .ok (.value (.tuple #[.int .u64 ((x + y + c) % 18446744073709551616), .int .u64 ((x + y + c) / 18446744073709551616)])) w := by
  rw [run_callFunc_extern Tryz.func72 (by kernel_rfl) (by kernel_rfl) (by kernel_rfl) (e := add64Entry) (by kernel_rfl), run_add64 x y c h0 g0 c0 c1]
  rfl
theorem sub64c_run (x y c : Int) (h0 : 0 ≤ x) (h1 : x ≤ 18446744073709551615) (g0 : 0 ≤ y) (g1 : y ≤ 18446744073709551615) (c0 : 0 ≤ c) (c1 : c ≤ 1) (w : World) :
    (callFunc 173 #[.int .u64 x, .int .u64 y, .int .u64 c]).run Tryz.prog w =
      .ok (.value (.tuple #[.int .u64 ((x - y - c) % 18446744073709551616), .int .u64 (if x < y + c then 1 else 0)])) w := by
  obtain ⟨X, rfl⟩ := Int.eq_ofNat_of_zero_le h0
  obtain ⟨Y, rfl⟩ := Int.eq_ofNat_of_zero_le g0
  obtain ⟨C, rfl⟩ := Int.eq_ofNat_of_zero_le c0
  rw [run_callFunc_extern Tryz.func173 (by kernel_rfl) (by kernel_rfl) (by kernel_rfl) (e := sub64Entry) (by kernel_rfl), run_sub64 X Y C (by omega)]
  have e1 : (((X + 18446744073709551616 - Y - C) % 18446744073709551616 : Nat) : Int) = ((X : Int) - Y - C) % 18446744073709551616 := by omega
  have e2 : ((if X < Y + C then 1 else 0 : Nat) : Int) = if (X : Int) < Y + C then 1 else 0 := by
    by_cases h : X < Y + C
    · rw [if_pos h, if_pos (by omega)]; rfl
    · rw [if_neg h, if_neg (by omega)]; rfl
  rw [e1, e2]
  rfl

/-! ### The words of sums and differences -/
theorem wide_add (z p : Int) : (wL z + p % 18446744073709551616 + 0) % 18446744073709551616 = wL (z + p) ∧ (wH z + p / 18446744073709551616 + (wL z + p % 18446744073709551616 + 0) / 18446744073709551616) % 18446744073709551616 = wH (z + p) := by
  unfold wL wH; omega
theorem wide_sub (z p : Int) : (wL z - p % 18446744073709551616 - 0) % 18446744073709551616 = wL (z - p) ∧ (wH z - p / 18446744073709551616 - (if wL z < p % 18446744073709551616 + 0 then 1 else 0)) % 18446744073709551616 = wH (z - p) := by
  unfold wL wH; split <;> omega

/-- What add leaves. -/
def WAddPost (b : Nat) (t : Int) (w : World) (e : Ending) (w' : World) : Prop :=
  e = .returned (.tuple #[]) ∧ w' = (w.setCell ⟨b, 1, none⟩ (.int .u64 (wL t))).setCell ⟨b, 0, none⟩ (.int .u64 (wH t))

set_option maxHeartbeats 1000000 in
set_option maxRecDepth 100000 in
theorem wadd_any (b : Nat) (z x y : Int) (w : World) (x0 : -9223372036854775808 ≤ x) (x1 : x ≤ 9223372036854775807) (y0 : -9223372036854775808 ≤ y) (y1 : y ≤ 9223372036854775807)
    (c0 : w.cell? ⟨b, 0, none⟩ = some (.int .u64 (wH z))) (c1 : w.cell? ⟨b, 1, none⟩ = some (.int .u64 (wL z))) (f0 : w.frozen? ⟨b, 0, none⟩ = false) (f1 : w.frozen? ⟨b, 1, none⟩ = false) :
    Calls Tryz.prog 168 #[.pointer (some ⟨b, 0, none⟩), .int .i64 x, .int .i64 y] w (WAddPost b (z + x * y) w) := by
  obtain ⟨sx0, sx1⟩ := absI_bd x x0 x1
  obtain ⟨sy0, sy1⟩ := absI_bd y y0 y1
  have hp0 : 0 ≤ absI x * absI y := Int.mul_nonneg sx0 sy0
  have hp1 : absI x * absI y ≤ 9223372036854775808 * 9223372036854775808 := Int.mul_le_mul sx1 sy1 sy0 (by decide)
  have HM := Lib.hid (fun w => mul64_int (absI x) (absI y) w sx0 (by omega) sy0 (by omega))
  obtain ⟨zh0, zh1⟩ := wH_bd z
  obtain ⟨zl0, zl1⟩ := wL_bd z
  have hh0 : 0 ≤ mulHi (absI x) (absI y) := by unfold mulHi; omega
  have hh1 : mulHi (absI x) (absI y) ≤ 18446744073709551615 := by unfold mulHi; omega
  have hl0 : 0 ≤ mulLo (absI x) (absI y) := by unfold mulLo; omega
  have hl1 : mulLo (absI x) (absI y) ≤ 18446744073709551615 := by unfold mulLo; omega
  have HP := Lib.hid (prod_sgn x y)
  have HA := Lib.hid (wide_add z (absI x * absI y))
  have HS := Lib.hid (wide_sub z (absI x * absI y))
  change Hid ((wL z + mulLo (absI x) (absI y) + 0) % 18446744073709551616 = _ ∧ (wH z + mulHi (absI x) (absI y) + (wL z + mulLo (absI x) (absI y) + 0) / 18446744073709551616) % 18446744073709551616 = _) at HA
  change Hid ((wL z - mulLo (absI x) (absI y) - 0) % 18446744073709551616 = _ ∧ (wH z - mulHi (absI x) (absI y) - (if wL z < mulLo (absI x) (absI y) + 0 then 1 else 0)) % 18446744073709551616 = _) at HS
  by_cases hn : (decide (x < 0) != decide (y < 0)) = true
  · have e1 : z - absI x * absI y = z + x * y := by
      have := HP.out; rw [hn] at this; unfold sgn at this; simp at this; omega
    rw [e1] at HS
    have r1 := fun w => sub64c_run (wL z) (mulLo (absI x) (absI y)) 0 zl0 zl1 hl0 hl1 (by omega) (by omega) w
    have r2 := fun w => sub64c_run (wH z) (mulHi (absI x) (absI y)) (if wL z < mulLo (absI x) (absI y) + 0 then 1 else 0) zh0 zh1 hh0 hh1 (by split <;> omega) (by split <;> omega) w
    rw [HS.out.1] at r1
    rw [HS.out.2] at r2
    generalize (if wL z < mulLo (absI x) (absI y) + 0 then (1 : Int) else 0) = cr at *
    generalize hq : (if wH z < mulHi (absI x) (absI y) + cr then (1 : Int) else 0) = cq at *
    have hbb : (decide (x < 0) == decide (y < 0)) = false := by revert hn; cases decide (x < 0) <;> cases decide (y < 0) <;> simp
    clear HA HS HP hp0 hp1 e1 hq
    unfold WAddPost
    generalize wL (z + x * y) = tl at *
    generalize wH (z + x * y) = th at *
    go_enter Tryz.func168, Tryz.ntmps168
    go_wp2_with (first | (go_at_call 134; refine (rsize_any _ _ (by omega) (by omega)).mono ?_; rintro e w' ⟨rfl, rfl⟩) | (go_at_call 157; refine (HM.out _).mono ?_; rintro e w' ⟨rfl, rfl⟩))
    exact bodyPost_ret (results_none rfl _ _ _) rfl ⟨rfl, rfl⟩
  · have hn' : (decide (x < 0) != decide (y < 0)) = false := by simpa using hn
    have e1 : z + absI x * absI y = z + x * y := by
      have := HP.out; rw [hn'] at this; unfold sgn at this; simp at this; omega
    rw [e1] at HA
    have r1 := fun w => add64c_run (wL z) (mulLo (absI x) (absI y)) 0 zl0 hl0 (by omega) (by omega) w
    have r2 := fun w => add64c_run (wH z) (mulHi (absI x) (absI y)) ((wL z + mulLo (absI x) (absI y) + 0) / 18446744073709551616) zh0 hh0 (by omega) (by omega) w
    rw [HA.out.1] at r1
    rw [HA.out.2] at r2
    generalize (wL z + mulLo (absI x) (absI y) + 0) / 18446744073709551616 = cr at *
    generalize (wH z + mulHi (absI x) (absI y) + cr) / 18446744073709551616 = cq at *
    have hbb : (decide (x < 0) == decide (y < 0)) = true := by revert hn'; cases decide (x < 0) <;> cases decide (y < 0) <;> simp
    clear HA HS HP hp0 hp1 e1 hn
    unfold WAddPost
    generalize wL (z + x * y) = tl at *
    generalize wH (z + x * y) = th at *
    go_enter Tryz.func168, Tryz.ntmps168
    go_wp2_with (first | (go_at_call 134; refine (rsize_any _ _ (by omega) (by omega)).mono ?_; rintro e w' ⟨rfl, rfl⟩) | (go_at_call 157; refine (HM.out _).mono ?_; rintro e w' ⟨rfl, rfl⟩))
    exact bodyPost_end (results_none rfl _ _ _) rfl ⟨rfl, rfl⟩

/-- The sign of a number. -/
theorem wsign_any (b : Nat) (z : Int) (w : World) (z0 : -170141183460469231731687303715884105728 ≤ z) (z1 : z < 170141183460469231731687303715884105728)
    (c0 : w.cell? ⟨b, 0, none⟩ = some (.int .u64 (wH z))) (c1 : w.cell? ⟨b, 1, none⟩ = some (.int .u64 (wL z))) :
    Calls Tryz.prog 151 #[.pointer (some ⟨b, 0, none⟩)] w fun e w' => e = .returned (.int .i64 z.sign) ∧ w = w' := by
  obtain ⟨zh0, zh1⟩ := wH_bd z
  obtain ⟨zl0, zl1⟩ := wL_bd z
  rcases Int.lt_trichotomy z 0 with h | h | h
  · have hh : wrap64 (wH z) < 0 := by unfold wrap64 wH; omega
    rw [Int.sign_eq_neg_one_of_neg h]
    clear z0 z1 h
    generalize wH z = th at *
    generalize wL z = tl at *
    go_enter Tryz.func151, Tryz.ntmps151
    go_wp2
    go_ret
    exact ⟨rfl, rfl⟩
  · subst h
    have e0 : wH 0 = 0 := rfl
    have e1 : wL 0 = 0 := rfl
    rw [e0] at c0
    rw [e1] at c1
    rw [Int.sign_zero]
    clear z0 z1 zh0 zh1 zl0 zl1 e0 e1
    go_enter Tryz.func151, Tryz.ntmps151
    go_wp2
    go_ret
    exact ⟨rfl, rfl⟩
  · have hh : ¬ wrap64 (wH z) < 0 := by unfold wrap64 wH; omega
    rw [Int.sign_eq_one_of_pos h]
    by_cases g : wH z = 0
    · have g1 : (wL z == 0) = false := by simp; unfold wL; unfold wH at g; omega
      rw [g] at c0 hh
      clear z0 z1 h zh0 zh1 g
      generalize wL z = tl at *
      go_enter Tryz.func151, Tryz.ntmps151
      go_wp2
      go_ret
      exact ⟨rfl, rfl⟩
    · have g1 : (wH z == 0) = false := by simpa using g
      clear z0 z1 h g
      generalize wH z = th at *
      generalize wL z = tl at *
      go_enter Tryz.func151, Tryz.ntmps151
      go_wp2
      go_ret
      exact ⟨rfl, rfl⟩

theorem wide_neg (z : Int) (z0 : -170141183460469231731687303715884105728 ≤ z) (h : z < 0) : (0 - wL z - 0) % 18446744073709551616 = mulLo (absI z) 1 ∧ (0 - wH z - (if 0 < wL z + 0 then 1 else 0)) % 18446744073709551616 = mulHi (absI z) 1 := by
  unfold wL wH mulLo mulHi absI; split <;> omega
theorem wide_pos (z : Int) (z1 : z < 170141183460469231731687303715884105728) (h : 0 ≤ z) : wL z = mulLo (absI z) 1 ∧ wH z = mulHi (absI z) 1 := by
  unfold wL wH mulLo mulHi absI; omega

set_option maxHeartbeats 1000000 in
set_option maxRecDepth 100000 in
/-- The size of a number: its two words. -/
theorem wsize_any (b : Nat) (z : Int) (w : World) (z0 : -170141183460469231731687303715884105728 ≤ z) (z1 : z < 170141183460469231731687303715884105728)
    (c0 : w.cell? ⟨b, 0, none⟩ = some (.int .u64 (wH z))) (c1 : w.cell? ⟨b, 1, none⟩ = some (.int .u64 (wL z))) :
    Calls Tryz.prog 186 #[.pointer (some ⟨b, 0, none⟩)] w fun e w' => e = .returned (.tuple #[.int .u64 (mulHi (absI z) 1), .int .u64 (mulLo (absI z) 1)]) ∧ ∃ n, w' = w.drewN n := by
  obtain ⟨zh0, zh1⟩ := wH_bd z
  obtain ⟨zl0, zl1⟩ := wL_bd z
  have HS := Lib.hid (wsign_any b z w z0 z1 c0 c1)
  by_cases h : z < 0
  · have HN := Lib.hid (wide_neg z z0 h)
    have r1 := fun w => sub64c_run 0 (wL z) 0 (by omega) (by omega) zl0 zl1 (by omega) (by omega) w
    have r2 := fun w => sub64c_run 0 (wH z) (if 0 < wL z + 0 then 1 else 0) (by omega) (by omega) zh0 zh1 (by split <;> omega) (by split <;> omega) w
    rw [HN.out.1] at r1
    rw [HN.out.2] at r2
    rw [Int.sign_eq_neg_one_of_neg h] at HS
    generalize (if 0 < wL z + 0 then (1 : Int) else 0) = cr at *
    generalize (if 0 < wH z + cr then (1 : Int) else 0) = cq at *
    clear z0 z1 h HN
    generalize wH z = th at *
    generalize wL z = tl at *
    generalize mulHi (absI z) 1 = sh at *
    generalize mulLo (absI z) 1 = sl at *
    go_enter Tryz.func186, Tryz.ntmps186
    go_wp2_with (go_at_call 151; refine HS.out.mono ?_; rintro e w' ⟨rfl, rfl⟩)
    go_ret2
    exact ⟨rfl, 0, rfl⟩
  · have HN := wide_pos z z1 (by omega)

    rw [HN.1] at c1
    rw [HN.2] at c0
    have hs : 0 ≤ z.sign := by
      rcases Int.lt_trichotomy z 0 with g | g | g
      · omega
      · rw [g]; decide
      · rw [Int.sign_eq_one_of_pos g]; decide
    generalize z.sign = sg at *
    clear z0 z1 h HN zh0 zh1 zl0 zl1
    generalize mulHi (absI z) 1 = sh at *
    generalize mulLo (absI z) 1 = sl at *
    go_enter Tryz.func186, Tryz.ntmps186
    go_wp2_with (go_at_call 151; refine HS.out.mono ?_; rintro e w' ⟨rfl, rfl⟩)
    go_quiet (fail)
    go_wp2
    go_ret2
    exact ⟨rfl, _, rfl⟩

end Go.Proofs.YtgeneoamngfomaaGreatDoor

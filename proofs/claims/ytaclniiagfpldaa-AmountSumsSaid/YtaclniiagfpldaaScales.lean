/-
  chattellaw01.AmountScales's walk, and what it leans on: a number times another one, through it, is the number; signs; order.
-/
import Derived.Test.YtaclniiagfpldaaAwake
import Derived.Deep.DeepCutAuto
namespace Go.Proofs.Ytaclniiagfpldaa
open Go.RowKit
set_option linter.unusedVariables false

theorem neg_ok (a : Int) (w : World) (h : a ≠ -9223372036854775808) (h0 : -9223372036854775808 ≤ a) (h1 : a ≤ 9223372036854775807) :
    Calls Try.prog 12 #[.int .i64 a] w fun e w' => e = .returned (.tuple #[.int .i64 (-a), .int .i64 0]) ∧ w = w' := by
  have hb : (a == -9223372036854775808) = false := by simpa using h
  have h2 : -9223372036854775808 < a := by omega
  clear h
  go_enter Try.func12, Try.ntmps12
  go_wp2
  go_ret2
  exact ⟨rfl, rfl⟩
theorem neg_min (w : World) :
    Calls Try.prog 12 #[.int .i64 (-9223372036854775808)] w fun e w' => e = .returned (.tuple #[.int .i64 0, .int .i64 11]) ∧ w = w' := by
  go_enter Try.func12, Try.ntmps12
  go_wp2
  go_ret2
  exact ⟨rfl, rfl⟩
theorem neg_any (a : Int) (w : World) (h0 : -9223372036854775808 ≤ a) (h1 : a ≤ 9223372036854775807) :
    Calls Try.prog 12 #[.int .i64 a] w fun e w' => e = .returned (.tuple #[.int .i64 (fitN (-a)), .int .i64 (fitE (-a))]) ∧ w = w' := by
  by_cases h : a = -9223372036854775808
  · subst h; exact neg_min w
  · have hin : inR (-a) = true := (inR_iff _).2 (by omega)
    rw [fitN_in hin, fitE_in hin]; exact neg_ok a w h h0 h1

/-! ### What the laws ask of rounding -/
theorem near_self (p d : Int) (hd : 0 < d) : nearI (p * d) d = p := by
  unfold nearI up
  rw [Int.mul_ediv_cancel p (by omega), Int.mul_emod_left, if_neg (by omega)]; omega
theorem sgn_abs (a : Int) : sgn (decide (a < 0)) (absI a) = a := by
  unfold sgn absI
  by_cases h : a < 0
  · rw [decide_eq_true h]; simp; omega
  · rw [decide_eq_false h]; simp; omega
theorem md_self (a b : Int) (hb : b ≠ 0) : md a b b = a := by
  unfold md
  have ho : odds a b b = decide (a < 0) := by unfold odds; cases decide (a < 0) <;> cases decide (b < 0) <;> rfl
  have hp : 0 < absI b := by unfold absI; omega
  rw [ho, near_self _ _ hp, sgn_abs]
theorem absI_negate (a : Int) : absI (-a) = absI a := by unfold absI; rw [Int.natAbs_neg]
theorem near_zero (d : Int) (hd : 0 < d) : nearI 0 d = 0 := by have := near_self 0 d hd; rwa [Int.zero_mul] at this
theorem sgn_not (b : Bool) (m : Int) : sgn (!b) m = -(sgn b m) := by cases b <;> simp [sgn]
theorem md_neg (a b c : Int) (hc : c ≠ 0) : md (-a) b c = -(md a b c) := by
  have hp : 0 < absI c := by unfold absI; omega
  unfold md
  rw [absI_negate]
  by_cases h : a = 0
  · subst h
    have e : absI 0 * absI b = 0 := by show (0 : Int) * _ = 0; rw [Int.zero_mul]
    rw [e, near_zero _ hp]; unfold sgn; split <;> split <;> omega
  · have ho : odds (-a) b c = !(odds a b c) := by
      unfold odds
      have : decide (-a < 0) = !(decide (a < 0)) := by
        by_cases g : a < 0
        · rw [decide_eq_true g, decide_eq_false (by omega)]; rfl
        · rw [decide_eq_false g, decide_eq_true (by omega)]; rfl
      rw [this]
      cases decide (a < 0) <;> cases decide (b < 0) <;> cases decide (c < 0) <;> rfl
    rw [ho, sgn_not]

/-- Rounding keeps the order of numbers that are not below nought. -/
theorem near_mono (p q d : Int) (hd : 0 < d) (hp : 0 ≤ p) (h : p ≤ q) : nearI p d ≤ nearI q d := by
  unfold nearI
  have h1 : p / d ≤ q / d := Int.ediv_le_ediv hd h
  have u1 := up_01 (p / d) (p % d) d
  have u2 := up_01 (q / d) (q % d) d
  by_cases e : p / d = q / d
  · have a1 := Int.mul_ediv_add_emod p d
    have a2 := Int.mul_ediv_add_emod q d
    rw [e] at a1 ⊢
    have hr : p % d ≤ q % d := by omega
    unfold up
    split <;> split <;> omega
  · omega
theorem near_nonneg (p d : Int) (hd : 0 < d) (hp : 0 ≤ p) : 0 ≤ nearI p d := by
  have := near_mono 0 p d hd (by omega) hp; rwa [near_zero d hd] at this
theorem near_le (p d : Int) (hd : 0 < d) (hp : 0 ≤ p) : nearI p d ≤ p := by
  have h1 := near_mono p (p * d) d hd hp (by
    have : p * 1 ≤ p * d := Int.mul_le_mul_of_nonneg_left (by omega) hp
    omega)
  rwa [near_self p d hd] at h1
theorem md_one (a c : Int) (hc : 0 < c) : md a 1 c = sgn (decide (a < 0)) (nearI (absI a) c) := by
  unfold md
  have ho : odds a 1 c = decide (a < 0) := by unfold odds; rw [decide_eq_false (show ¬ c < 0 by omega)]; cases decide (a < 0) <;> rfl
  have e1 : absI 1 = 1 := rfl
  rw [ho, e1, Int.mul_one, absI_nonneg (show 0 ≤ c by omega)]
theorem md_one_in (a c : Int) (hc : 0 < c) (h0 : -9223372036854775808 ≤ a) (h1 : a ≤ 9223372036854775807) : inR (md a 1 c) = true := by
  rw [md_one a c hc, inR_iff]
  have ha : 0 ≤ absI a := by unfold absI; omega
  have n1 := near_le (absI a) c hc ha
  have n0 := near_nonneg (absI a) c hc ha
  by_cases g : a < 0
  · rw [decide_eq_true g]; rw [absI_neg g] at *; show -9223372036854775808 ≤ -(nearI (-a) c) ∧ -(nearI (-a) c) ≤ 9223372036854775807; omega
  · rw [decide_eq_false g]; rw [absI_nonneg (by omega)] at *; show -9223372036854775808 ≤ nearI a c ∧ nearI a c ≤ 9223372036854775807; omega
theorem md_one_mono (a b c : Int) (hc : 0 < c) (h : a ≤ b) : md a 1 c ≤ md b 1 c := by
  rw [md_one a c hc, md_one b c hc]
  have na := near_nonneg (absI a) c hc (by unfold absI; omega)
  have nb := near_nonneg (absI b) c hc (by unfold absI; omega)
  by_cases g : a < 0
  · rw [decide_eq_true g]
    by_cases k : b < 0
    · rw [decide_eq_true k, absI_neg g, absI_neg k]
      have := near_mono (-b) (-a) c hc (by omega) (by omega)
      show -(nearI (-a) c) ≤ -(nearI (-b) c); omega
    · rw [decide_eq_false k]; show -(nearI (absI a) c) ≤ nearI (absI b) c; omega
  · rw [decide_eq_false g, decide_eq_false (show ¬ b < 0 by omega), absI_nonneg (show 0 ≤ a by omega), absI_nonneg (show 0 ≤ b by omega)]
    exact near_mono a b c hc (by omega) h

theorem drewN_below (w : World) (n : Nat) : Below w.heap.size w (w.drewN n) := ⟨rfl, rfl, rfl, Nat.le_refl _, fun _ _ => rfl⟩

set_option maxHeartbeats 4000000 in
set_option maxRecDepth 100000 in
theorem scales_core (a b c y n e X F M G Y Z : Int) (w : World)
    (h1 : ∀ w, Calls Try.prog 20 #[.int .i64 a, .int .i64 b, .int .i64 b] w fun r w' => r = .returned (.tuple #[.int .i64 n, .int .i64 e]) ∧ ∃ m, w' = w.drewN m)
    (h2 : ∀ w, Calls Try.prog 20 #[.int .i64 a, .int .i64 b, .int .i64 c] w fun r w' => r = .returned (.tuple #[.int .i64 X, .int .i64 F]) ∧ ∃ m, w' = w.drewN m)
    (h3 : ∀ w, Calls Try.prog 12 #[.int .i64 a] w fun r w' => r = .returned (.tuple #[.int .i64 M, .int .i64 G]) ∧ w = w')
    (h4 : ∀ w, Calls Try.prog 20 #[.int .i64 M, .int .i64 b, .int .i64 c] w fun r w' => r = .returned (.tuple #[.int .i64 Y, .int .i64 Z]) ∧ ∃ m, w' = w.drewN m)
    (hn : (b ≠ 0 ∧ n = a ∧ e = 0) ∨ (b = 0 ∧ e = 12)) (hz : G = 0 → F = 0 → Z = 0 → X + Y = 0)
    (h5 : 1 ≤ c → ∃ p q, (∀ w, Calls Try.prog 20 #[.int .i64 a, .int .i64 1, .int .i64 c] w fun r w' => r = .returned (.tuple #[.int .i64 p, .int .i64 0]) ∧ ∃ m, w' = w.drewN m) ∧
      (∀ w, Calls Try.prog 20 #[.int .i64 y, .int .i64 1, .int .i64 c] w fun r w' => r = .returned (.tuple #[.int .i64 q, .int .i64 0]) ∧ ∃ m, w' = w.drewN m) ∧ (a ≤ y → p ≤ q)) :
    Calls Try.prog 8 #[.int .i64 a, .int .i64 b, .agg #[.int .i64 c, .int .i64 y]] w fun r w' => r = .returned (.bool true) ∧ Below w.heap.size w w' := by
  have H1 := Lib.hid h1
  have H2 := Lib.hid h2
  have H3 := Lib.hid h3
  have H4 := Lib.hid h4
  have H5 : Hid _ := h5
  have HN := Lib.hid hn
  have HZ : Hid _ := hz
  clear h1 h2 h3 h4 h5 hn hz
  go_enter Try.func8, Try.ntmps8
  go_wp2_with fail
  refine (H1.out _).mono ?_
  rintro r w' ⟨rfl, m1, rfl⟩
  go_upto_region 2 with fail
  go_cut [45] (fun t wx => t = .bool false ∧ (w.alloc (.cells #[.int .i64 c, .int .i64 y] 46)).drewN m1 = wx)
  case first =>
    rcases HN.out with ⟨b0, rfl, rfl⟩ | ⟨rfl, rfl⟩
    · have bb : (b != 0) = true := by simpa using b0
      have bb2 : (b == 0) = false := by simpa using b0
      go_wp2
      go_meet
      case rel => exact ⟨rfl, rfl⟩
    · go_wp2
      go_meet
      case rel => exact ⟨rfl, rfl⟩
  case rest =>
    obtain ⟨rfl, rfl⟩ := hcut
    go_wp2_with fail
    refine (H2.out _).mono ?_
    rintro r w' ⟨rfl, m2, rfl⟩
    go_wp2_with fail
    refine (H3.out _).mono ?_
    rintro r w' ⟨rfl, rfl⟩
    go_wp2_with fail
    refine (H4.out _).mono ?_
    rintro r w' ⟨rfl, m3, rfl⟩
    go_upto_region 8 with fail
    go_cut [82] (fun t wx => t = .bool false ∧ (w.alloc (.cells #[.int .i64 c, .int .i64 y] 46)).drewN (m1 + m2 + m3) = wx)
    case first =>
      by_cases g1 : G = 0
      · by_cases g2 : F = 0
        · by_cases g3 : Z = 0
          · have hs := HZ.out g1 g2 g3
            have hw : (wrap64 (X + Y) != 0) = false := by rw [hs, IntWalk.wrap64_in 0 (by omega)]; rfl
            subst g1; subst g2; subst g3
            clear hs
            go_wp2
            go_meet
            case rel => exact ⟨rfl, rfl⟩
          · have b3 : (Z == 0) = false := by simpa using g3
            subst g1; subst g2
            clear g3
            go_wp2
            go_meet
            case rel => exact ⟨rfl, rfl⟩
        · have b2 : (F == 0) = false := by simpa using g2
          subst g1
          clear g2
          go_wp2
          go_meet
          case rel => exact ⟨rfl, rfl⟩
      · have b1 : (G == 0) = false := by simpa using g1
        clear g1
        go_wp2
        go_meet
        case rel => exact ⟨rfl, rfl⟩
    case rest =>
      obtain ⟨rfl, rfl⟩ := hcut
      by_cases hc : c < 1
      · go_wp2_with (go_at_call 9; refine (awake_any _).mono ?_; rintro e w' ⟨rfl, hb⟩)
        go_ret
        have hb' := ‹Below _ _ _›
        exact ⟨rfl, (Below.alloc (Below.refl w.heap.size w) (Nat.le_refl _) _).trans ((drewN_below _ _).mono (by simp) |>.trans (hb'.mono (by simp)))⟩
      · obtain ⟨p, q, h5, h6, hpq⟩ := H5.out (by omega)
        have H6 := Lib.hid h5
        have H7 := Lib.hid h6
        have HPQ : Hid _ := hpq
        clear h5 h6 hpq H5
        go_wp2_with fail
        refine (H6.out _).mono ?_
        rintro r w' ⟨rfl, m4, rfl⟩
        go_wp2_with fail
        refine (H7.out _).mono ?_
        rintro r w' ⟨rfl, m5, rfl⟩
        by_cases hay : y < a
        · go_wp2_with (go_at_call 9; refine (awake_any _).mono ?_; rintro e w' ⟨rfl, hb⟩)
          go_ret
          have hb' := ‹Below _ _ _›
          exact ⟨rfl, (Below.alloc (Below.refl w.heap.size w) (Nat.le_refl _) _).trans ((drewN_below _ _).mono (by simp) |>.trans (hb'.mono (by simp)))⟩
        · have hle : p ≤ q := HPQ.out (by omega)
          go_wp2_with (go_at_call 9; refine (awake_any _).mono ?_; rintro e w' ⟨rfl, hb⟩)
          go_ret
          have hb' := ‹Below _ _ _›
          exact ⟨rfl, (Below.alloc (Below.refl w.heap.size w) (Nat.le_refl _) _).trans ((drewN_below _ _).mono (by simp) |>.trans (hb'.mono (by simp)))⟩

end Go.Proofs.Ytaclniiagfpldaa

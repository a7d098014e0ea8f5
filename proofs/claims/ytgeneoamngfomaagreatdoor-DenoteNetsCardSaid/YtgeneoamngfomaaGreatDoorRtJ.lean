/-
  Package ratio: Neg, Round, Of.
-/
import Derived.Test.YtgeneoamngfomaaGreatDoorRtC
import Derived.Test.YtgeneoamngfomaaGreatDoorMdA
namespace Go.Proofs.YtgeneoamngfomaaGreatDoor
open Go.RowKit
set_option linter.unusedVariables false

set_option maxHeartbeats 1000000 in
theorem negr_any (n d : Int) (w : World) (n0 : -9223372036854775808 ≤ n) (n1 : n ≤ 9223372036854775807) (d0 : -9223372036854775808 ≤ d) (d1 : d ≤ 9223372036854775807) :
    Calls Tryz.prog 118 #[.agg #[.int .i64 n, .int .i64 d]] w fun e w' => e = .returned (.tuple #[.agg #[.int .i64 (if chkE n d = 0 then -n else 0), .int .i64 (if chkE n d = 0 then d else 0)], .int .i64 (chkE n d)]) ∧ Below w.heap.size w w' := by
  have HC := Lib.hid (fun w => check_any n d w n0 n1 d0 d1)
  have h2 : Below w.heap.size w ((w.alloc (.cells #[.int .i64 n, .int .i64 d] 58)).alloc (.cells #[.int .i64 0, .int .i64 0] 58)) := ((Below.refl _ _).alloc (Nat.le_refl _) _).alloc (by simp) _
  have H2 := Lib.hid h2
  clear h2
  by_cases h : chkE n d = 0
  · have hok := chkE_zero h n0 n1 d1
    have HO := Lib.hid (fun w => opposite_any n d w hok.n0 hok.n1)
    rw [if_pos h, if_pos h, h]
    rw [h] at HC
    clear hok h
    go_enter Tryz.func118, Tryz.ntmps118
    go_wp2_with fail
    refine (HC.out _).mono ?_
    rintro e w1 ⟨rfl, hb1⟩
    have hc : ∀ b i, b < w.heap.size + 2 → w1.cell? ⟨b, i, none⟩ = ((w.alloc (.cells #[.int .i64 n, .int .i64 d] 58)).alloc (.cells #[.int .i64 0, .int .i64 0] 58)).cell? ⟨b, i, none⟩ := fun b i hb => hb1.cell (p := ⟨b, i, none⟩) (by simpa using hb)
    have hf : ∀ b i, b < w.heap.size + 2 → w1.frozen? ⟨b, i, none⟩ = ((w.alloc (.cells #[.int .i64 n, .int .i64 d] 58)).alloc (.cells #[.int .i64 0, .int .i64 0] 58)).frozen? ⟨b, i, none⟩ := fun b i hb => hb1.frozen (p := ⟨b, i, none⟩) (by simpa using hb)
    have a0 : w1.cell? ⟨w.heap.size, 0, none⟩ = some (.int .i64 n) := by rw [hc _ _ (by omega)]; simp
    have a1 : w1.cell? ⟨w.heap.size, 1, none⟩ = some (.int .i64 d) := by rw [hc _ _ (by omega)]; simp
    have HB1 := Lib.hid (H2.out.trans (hb1.mono H2.out.size))
    have HCc := Lib.hid hc
    have HFf := Lib.hid hf
    have HS1 := Lib.hid hb1.size
    clear hc hf hb1 H2
    go_wp2_with fail
    refine (HO.out _).mono ?_
    rintro e w2 ⟨rfl, hb2⟩
    have hz : w.heap.size + 2 ≤ w1.heap.size := by have := HS1.out; simpa using this
    have r0 : w2.cell? ⟨w.heap.size + 1, 0, none⟩ = some (.int .i64 0) := by rw [hb2.cell (p := ⟨w.heap.size + 1, 0, none⟩) (show w.heap.size + 1 < w1.heap.size by omega), HCc.out _ _ (by omega)]; simp
    have r1 : w2.cell? ⟨w.heap.size + 1, 1, none⟩ = some (.int .i64 0) := by rw [hb2.cell (p := ⟨w.heap.size + 1, 1, none⟩) (show w.heap.size + 1 < w1.heap.size by omega), HCc.out _ _ (by omega)]; simp
    have f0 : w2.frozen? ⟨w.heap.size + 1, 0, none⟩ = false := by rw [hb2.frozen (p := ⟨w.heap.size + 1, 0, none⟩) (show w.heap.size + 1 < w1.heap.size by omega), HFf.out _ _ (by omega)]; exact World.frozen?_alloc_at _ _ _ _ (by simp)
    have f1 : w2.frozen? ⟨w.heap.size + 1, 1, none⟩ = false := by rw [hb2.frozen (p := ⟨w.heap.size + 1, 1, none⟩) (show w.heap.size + 1 < w1.heap.size by omega), HFf.out _ _ (by omega)]; exact World.frozen?_alloc_at _ _ _ _ (by simp)
    have HB2 := Lib.hid (HB1.out.trans (hb2.mono HB1.out.size))
    clear hb2 HCc HFf HS1 hz
    go_wp2_with fail
    have hl : w.heap.size ≤ w.heap.size + 1 := by omega
    exact bodyPost_ret (v := .tuple #[.agg #[.int .i64 (-n), .int .i64 d], .int .i64 0]) (by simp [results, Tryz.results118, go_sem, r0, r1]) rfl ⟨rfl, Below.setCell (Below.setCell HB2.out hl _) hl _⟩
  · rw [if_neg h, if_neg h]
    generalize chkE n d = er at *
    have hb : (er != 0) = true := by simpa using h
    have hc' : (er == 0) = false := by simpa using h
    clear h
    go_enter Tryz.func118, Tryz.ntmps118
    go_wp2_with fail
    refine (HC.out _).mono ?_
    rintro e w1 ⟨rfl, hb1⟩
    have r0 : w1.cell? ⟨w.heap.size + 1, 0, none⟩ = some (.int .i64 0) := by rw [hb1.cell (p := ⟨w.heap.size + 1, 0, none⟩) (by simp)]; simp
    have r1 : w1.cell? ⟨w.heap.size + 1, 1, none⟩ = some (.int .i64 0) := by rw [hb1.cell (p := ⟨w.heap.size + 1, 1, none⟩) (by simp)]; simp
    have f0 : w1.frozen? ⟨w.heap.size + 1, 0, none⟩ = false := by rw [hb1.frozen (p := ⟨w.heap.size + 1, 0, none⟩) (by simp)]; exact World.frozen?_alloc_at _ _ _ _ (by simp)
    have f1 : w1.frozen? ⟨w.heap.size + 1, 1, none⟩ = false := by rw [hb1.frozen (p := ⟨w.heap.size + 1, 1, none⟩) (by simp)]; exact World.frozen?_alloc_at _ _ _ _ (by simp)
    have HB1 := Lib.hid (H2.out.trans (hb1.mono H2.out.size))
    clear hb1 H2
    go_wp2_with fail
    have hl : w.heap.size ≤ w.heap.size + 1 := by omega
    exact bodyPost_ret (v := .tuple #[.agg #[.int .i64 0, .int .i64 0], .int .i64 er]) (by simp [results, Tryz.results118, go_sem, r0, r1]) rfl ⟨rfl, Below.setCell (Below.setCell HB1.out hl _) hl _⟩

theorem round_any (n d : Int) (w : World) (n0 : -9223372036854775808 ≤ n) (n1 : n ≤ 9223372036854775807) (d0 : -9223372036854775808 ≤ d) (d1 : d ≤ 9223372036854775807) :
    Calls Tryz.prog 117 #[.agg #[.int .i64 n, .int .i64 d]] w fun e w' => e = .returned (.tuple #[.int .i64 (if chkE n d = 0 then md n 1 d else 0), .int .i64 (chkE n d)]) ∧ Below w.heap.size w w' := by
  have HC := Lib.hid (fun w => check_any n d w n0 n1 d0 d1)
  have h2 : Below w.heap.size w (w.alloc (.cells #[.int .i64 n, .int .i64 d] 58)) := (Below.refl _ _).alloc (Nat.le_refl _) _
  have H2 := Lib.hid h2
  clear h2
  by_cases h : chkE n d = 0
  · have hok := chkE_zero h n0 n1 d1
    have hin := md_one_in n d hok.d0 n0 n1
    have HM := Lib.hid (fun w => muldiv_any n 1 d w n0 n1 (by omega) (by omega) d0 d1 (by have := hok.d0; omega))
    rw [fitN_in hin, fitE_in hin] at HM
    rw [if_pos h, h]
    rw [h] at HC
    clear hok h hin
    generalize md n 1 d = m at *
    go_enter Tryz.func117, Tryz.ntmps117
    go_wp2_with fail
    refine (HC.out _).mono ?_
    rintro e w1 ⟨rfl, hb1⟩
    have a0 : w1.cell? ⟨w.heap.size, 0, none⟩ = some (.int .i64 n) := by rw [hb1.cell (p := ⟨w.heap.size, 0, none⟩) (by simp)]; simp
    have a1 : w1.cell? ⟨w.heap.size, 1, none⟩ = some (.int .i64 d) := by rw [hb1.cell (p := ⟨w.heap.size, 1, none⟩) (by simp)]; simp
    have HB1 := Lib.hid (H2.out.trans (hb1.mono H2.out.size))
    clear hb1 H2
    go_wp2_with fail
    refine (HM.out _).mono ?_
    rintro e w2 ⟨rfl, k, rfl⟩
    go_wp2_with fail
    go_ret2
    exact ⟨rfl, HB1.out.trans ((drewN_belowR _ _).mono HB1.out.size)⟩
  · rw [if_neg h]
    generalize chkE n d = er at *
    have hb : (er != 0) = true := by simpa using h
    have hc' : (er == 0) = false := by simpa using h
    clear h
    go_enter Tryz.func117, Tryz.ntmps117
    go_wp2_with fail
    refine (HC.out _).mono ?_
    rintro e w1 ⟨rfl, hb1⟩
    have HB1 := Lib.hid (H2.out.trans (hb1.mono H2.out.size))
    clear hb1 H2
    go_wp2_with fail
    go_ret2
    exact ⟨rfl, HB1.out⟩

/-! ### Of -/
theorem of_parts (n d : Int) (hd : d ≠ 0) : (rat n d).num = sgn (decide (n < 0) != decide (d < 0)) (absI n / ((Int.gcd n d : Nat) : Int)) ∧ (((rat n d).den : Nat) : Int) = absI d / ((Int.gcd n d : Nat) : Int) := by
  have hg : 0 < Int.gcd n d := Int.gcd_pos_of_ne_zero_right n hd
  unfold rat
  rw [Rat.num_divInt, Rat.den_divInt, if_neg hd, Int.gcd_comm d n]
  constructor
  · obtain ⟨k, hk⟩ := Int.gcd_dvd_left n d
    have hgz : ((Int.gcd n d : Nat) : Int) ≠ 0 := by omega
    have e1 : absI n / ((Int.gcd n d : Nat) : Int) = absI k := by
      have : absI n = ((Int.gcd n d : Nat) : Int) * absI k := by
        conv => lhs; rw [hk]
        unfold absI; rw [Int.natAbs_mul, Int.natAbs_natCast, Int.natCast_mul]
      rw [this, Int.mul_ediv_cancel_left _ hgz]
    have e2 : d.sign * n / ((Int.gcd n d : Nat) : Int) = d.sign * k := by
      have : d.sign * n = ((Int.gcd n d : Nat) : Int) * (d.sign * k) := by
        conv => lhs; rw [hk]
        rw [← Int.mul_assoc, Int.mul_comm d.sign, Int.mul_assoc]
      rw [this, Int.mul_ediv_cancel_left _ hgz]
    have e3 : (n < 0) ↔ (k < 0) := by
      constructor
      · intro h
        by_cases g : k < 0
        · exact g
        · have := Int.mul_nonneg (show 0 ≤ ((Int.gcd n d : Nat) : Int) by omega) (show 0 ≤ k by omega); omega
      · intro h; rw [hk]; exact Int.mul_neg_of_pos_of_neg (by omega) h
    rw [e1, e2]
    have e4 : decide (n < 0) = decide (k < 0) := by rw [Bool.eq_iff_iff, decide_eq_true_iff, decide_eq_true_iff]; exact e3
    rw [e4]
    rcases Int.lt_trichotomy d 0 with h | h | h
    · rw [Int.sign_eq_neg_one_of_neg h, decide_eq_true h]
      unfold sgn absI
      by_cases g : k < 0
      · rw [decide_eq_true g]; simp; omega
      · rw [decide_eq_false g]; simp; omega
    · exact absurd h hd
    · rw [Int.sign_eq_one_of_pos h, decide_eq_false (show ¬ d < 0 by omega)]
      unfold sgn absI
      by_cases g : k < 0
      · rw [decide_eq_true g]; simp; omega
      · rw [decide_eq_false g]; simp; omega
  · unfold absI; rw [Int.natCast_ediv]

end Go.Proofs.YtgeneoamngfomaaGreatDoor

namespace Go.Proofs.YtgeneoamngfomaaGreatDoor
open Go.RowKit
set_option linter.unusedVariables false

theorem quo_bd {a g : Int} (a0 : 0 ≤ a) (g0 : 0 < g) : 0 ≤ a / g ∧ a / g ≤ a := by
  refine ⟨Int.ediv_nonneg a0 (by omega), ?_⟩
  have := Int.ediv_le_self g a0
  exact this

end Go.Proofs.YtgeneoamngfomaaGreatDoor

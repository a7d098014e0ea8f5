/-
  chattelref04: Long, Month, Of: what they answer.
-/
import Derived.Test.YtdmdgoeacafpiaaGreatDoorDyA
namespace Go.Proofs.YtdmdgoeacafpiaaGreatDoor
open Go.RowKit Go.Lib
set_option linter.unusedVariables false

theorem long_1 (y : Nat) (w : World) : Calls Tryz.prog 76 #[.int .i64 y, .int .i64 1] w fun e w' => e = .returned (.int .i64 31) ∧ w' = w := by
  go_enter Tryz.func76, Tryz.ntmps76
  go_wp2_with fail
  go_ret
  exact ⟨rfl, rfl⟩
theorem long_2a (y : Nat) (hy : y ≤ 10000) (h4 : (y : Int) % 4 = 0) (r : Int) (h1 : (y : Int) % 100 = r) (hr : (r == 0) = false) (w : World) : Calls Tryz.prog 76 #[.int .i64 y, .int .i64 2] w fun e w' => e = .returned (.int .i64 29) ∧ w' = w := by
  go_enter Tryz.func76, Tryz.ntmps76
  go_wp2_with fail
  go_ret
  exact ⟨rfl, rfl⟩
theorem long_2b (y : Nat) (hy : y ≤ 10000) (r : Int) (h4 : (y : Int) % 4 = r) (hr : (r == 0) = false) (h1 : (y : Int) % 400 = 0) (w : World) : Calls Tryz.prog 76 #[.int .i64 y, .int .i64 2] w fun e w' => e = .returned (.int .i64 29) ∧ w' = w := by
  go_enter Tryz.func76, Tryz.ntmps76
  go_wp2_with fail
  go_ret
  exact ⟨rfl, rfl⟩
theorem long_2c (y : Nat) (hy : y ≤ 10000) (r : Int) (h4 : (y : Int) % 4 = r) (hr : (r == 0) = false) (q : Int) (h1 : (y : Int) % 400 = q) (hq : (q == 0) = false) (w : World) : Calls Tryz.prog 76 #[.int .i64 y, .int .i64 2] w fun e w' => e = .returned (.int .i64 28) ∧ w' = w := by
  go_enter Tryz.func76, Tryz.ntmps76
  go_wp2_with fail
  go_ret
  exact ⟨rfl, rfl⟩
theorem long_2d (y : Nat) (hy : y ≤ 10000) (h4 : (y : Int) % 4 = 0) (h5 : (y : Int) % 100 = 0) (h1 : (y : Int) % 400 = 0) (w : World) : Calls Tryz.prog 76 #[.int .i64 y, .int .i64 2] w fun e w' => e = .returned (.int .i64 29) ∧ w' = w := by
  go_enter Tryz.func76, Tryz.ntmps76
  go_wp2_with fail
  go_ret
  exact ⟨rfl, rfl⟩
theorem long_2e (y : Nat) (hy : y ≤ 10000) (h4 : (y : Int) % 4 = 0) (h5 : (y : Int) % 100 = 0) (q : Int) (h1 : (y : Int) % 400 = q) (hq : (q == 0) = false) (w : World) : Calls Tryz.prog 76 #[.int .i64 y, .int .i64 2] w fun e w' => e = .returned (.int .i64 28) ∧ w' = w := by
  go_enter Tryz.func76, Tryz.ntmps76
  go_wp2_with fail
  go_ret
  exact ⟨rfl, rfl⟩
theorem long_3 (y : Nat) (w : World) : Calls Tryz.prog 76 #[.int .i64 y, .int .i64 3] w fun e w' => e = .returned (.int .i64 31) ∧ w' = w := by
  go_enter Tryz.func76, Tryz.ntmps76
  go_wp2_with fail
  go_ret
  exact ⟨rfl, rfl⟩
theorem long_4 (y : Nat) (w : World) : Calls Tryz.prog 76 #[.int .i64 y, .int .i64 4] w fun e w' => e = .returned (.int .i64 30) ∧ w' = w := by
  go_enter Tryz.func76, Tryz.ntmps76
  go_wp2_with fail
  go_ret
  exact ⟨rfl, rfl⟩
theorem long_5 (y : Nat) (w : World) : Calls Tryz.prog 76 #[.int .i64 y, .int .i64 5] w fun e w' => e = .returned (.int .i64 31) ∧ w' = w := by
  go_enter Tryz.func76, Tryz.ntmps76
  go_wp2_with fail
  go_ret
  exact ⟨rfl, rfl⟩
theorem long_6 (y : Nat) (w : World) : Calls Tryz.prog 76 #[.int .i64 y, .int .i64 6] w fun e w' => e = .returned (.int .i64 30) ∧ w' = w := by
  go_enter Tryz.func76, Tryz.ntmps76
  go_wp2_with fail
  go_ret
  exact ⟨rfl, rfl⟩
theorem long_7 (y : Nat) (w : World) : Calls Tryz.prog 76 #[.int .i64 y, .int .i64 7] w fun e w' => e = .returned (.int .i64 31) ∧ w' = w := by
  go_enter Tryz.func76, Tryz.ntmps76
  go_wp2_with fail
  go_ret
  exact ⟨rfl, rfl⟩
theorem long_8 (y : Nat) (w : World) : Calls Tryz.prog 76 #[.int .i64 y, .int .i64 8] w fun e w' => e = .returned (.int .i64 31) ∧ w' = w := by
  go_enter Tryz.func76, Tryz.ntmps76
  go_wp2_with fail
  go_ret
  exact ⟨rfl, rfl⟩
theorem long_9 (y : Nat) (w : World) : Calls Tryz.prog 76 #[.int .i64 y, .int .i64 9] w fun e w' => e = .returned (.int .i64 30) ∧ w' = w := by
  go_enter Tryz.func76, Tryz.ntmps76
  go_wp2_with fail
  go_ret
  exact ⟨rfl, rfl⟩
theorem long_10 (y : Nat) (w : World) : Calls Tryz.prog 76 #[.int .i64 y, .int .i64 10] w fun e w' => e = .returned (.int .i64 31) ∧ w' = w := by
  go_enter Tryz.func76, Tryz.ntmps76
  go_wp2_with fail
  go_ret
  exact ⟨rfl, rfl⟩
theorem long_11 (y : Nat) (w : World) : Calls Tryz.prog 76 #[.int .i64 y, .int .i64 11] w fun e w' => e = .returned (.int .i64 30) ∧ w' = w := by
  go_enter Tryz.func76, Tryz.ntmps76
  go_wp2_with fail
  go_ret
  exact ⟨rfl, rfl⟩
theorem long_12 (y : Nat) (w : World) : Calls Tryz.prog 76 #[.int .i64 y, .int .i64 12] w fun e w' => e = .returned (.int .i64 31) ∧ w' = w := by
  go_enter Tryz.func76, Tryz.ntmps76
  go_wp2_with fail
  go_ret
  exact ⟨rfl, rfl⟩

theorem ret_date1 {a b c a' b' c' : Int} (h : a = a') (h' : b = b') (h2 : c = c') : Ending.returned (.agg #[.int .i64 a, .int .i64 b, .int .i64 c]) = .returned (.agg #[.int .i64 a', .int .i64 b', .int .i64 c']) := by rw [h, h', h2]
theorem ne_bool {r : Int} (h : r ≠ 0) : (r == 0) = false := by simpa using h
theorem leap_yes {y : Nat} (h : leapB y = true) : longN y 2 = 29 := by unfold longN; simp [h]
theorem leap_no {y : Nat} (h : leapB y = false) : longN y 2 = 28 := by unfold longN; simp [h]
theorem long_any (y m : Nat) (hy : y ≤ 10000) (h1 : 1 ≤ m) (h2 : m ≤ 12) (w : World) : Calls Tryz.prog 76 #[.int .i64 y, .int .i64 m] w fun e w' => e = .returned (.int .i64 (longN y m)) ∧ w' = w := by
  match m, h1, h2 with
  | 1, _, _ => exact long_1 y w
  | 2, _, _ =>
    by_cases a : y % 4 = 0
    · by_cases b : y % 100 = 0
      · by_cases c : y % 400 = 0
        · rw [leap_yes (by unfold leapB; simp [a, b, c])]
          exact long_2d y hy (by omega) (by omega) (by omega) w
        · rw [leap_no (by unfold leapB; simp [a, b, c])]
          exact long_2e y hy (by omega) (by omega) _ rfl (ne_bool (by omega)) w
      · rw [leap_yes (by unfold leapB; simp [a, b])]
        exact long_2a y hy (by omega) _ rfl (ne_bool (by omega)) w
    · by_cases c : y % 400 = 0
      · omega
      · rw [leap_no (by unfold leapB; simp [a, c])]
        exact long_2c y hy _ rfl (ne_bool (by omega)) _ rfl (ne_bool (by omega)) w
  | 3, _, _ => exact long_3 y w
  | 4, _, _ => exact long_4 y w
  | 5, _, _ => exact long_5 y w
  | 6, _, _ => exact long_6 y w
  | 7, _, _ => exact long_7 y w
  | 8, _, _ => exact long_8 y w
  | 9, _, _ => exact long_9 y w
  | 10, _, _ => exact long_10 y w
  | 11, _, _ => exact long_11 y w
  | 12, _, _ => exact long_12 y w

set_option maxHeartbeats 1000000 in
set_option maxRecDepth 100000 in
theorem monthr_any (m : Nat) (hm : m < 2400) (w : World) : Calls Tryz.prog 77 #[.int .i64 m] w fun e w' => e = .returned (.tuple #[.int .i64 (fstN m), .int .i64 (lngN m)]) ∧ w = w' := by
  have HC : Hid (∀ j : Nat, j < 2400 → ∀ (y k : Nat), y = j / 12 → k = j % 12 → ∀ w, Calls Tryz.prog 76 #[.int .i64 (2000 + (y : Int)), .int .i64 ((k : Int) + 1)] w fun e w' => e = .returned (.int .i64 (lngN j)) ∧ w' = w) := Lib.hid (fun j hj y k hy hk w => by
    have h := long_any (2000 + y) (k + 1) (by omega) (by omega) (by omega) w
    unfold lngN
    rw [← hy, ← hk]
    exact h)
  have HF := Lib.hid (fun j (h : j < m) => fst_step j (by omega))
  have HL := Lib.hid (fun j (h : j ≤ m) => fst_le (m := j) (by omega))
  have HZ := Lib.hid fst_zero
  go_enter Tryz.func77, Tryz.ntmps77
  go_wp2_with fail
  go_loop [4, 5] (fun va vi => ∃ j : Nat, j ≤ m ∧ vi = .int .i64 j ∧ va = .int .i64 (fstN j)) (fun _ vi => 2400 - (RowKit.intOf vi).toNat)
  case atStart => exact ⟨0, by omega, rfl, by rw [HZ.out]; rfl⟩
  case round =>
    obtain ⟨j, hj, rfl, rfl⟩ := hrel
    have hle := HL.out j hj
    obtain ⟨y, hy⟩ : ∃ y, y = j / 12 := ⟨_, rfl⟩
    obtain ⟨k, hk⟩ : ∃ k, k = j % 12 := ⟨_, rfl⟩
    have HC1 := Lib.hid (HC.out j (by omega) y k hy hk)
    have d1 : (j : Int) / 12 = (y : Int) := by omega
    have d2 : (j : Int) % 12 = (k : Int) := by omega
    have y2 : y ≤ 200 := by omega
    have k2 : k < 12 := by omega
    clear hy hk
    by_cases hlt : j < m
    · obtain ⟨s1, s2, s3⟩ := HF.out j hlt
      have S1 : Hid (((fstN (j + 1) : Nat) : Int) = (fstN j : Int) + lngN j) := Lib.hid (by omega)
      have hlt' : (j : Int) < (m : Int) := by omega
      clear s1
      generalize fstN j = F at *
      generalize lngN j = N at *
      go_wp2_with fail
      refine (HC1.out _).mono ?_
      rintro e w1 ⟨rfl, rfl⟩
      go_wp2_with fail
      go_round
      case rel => exact ⟨j + 1, by omega, by go_num, by rw [S1.out]⟩
      case measure => simp [RowKit.intOf]; omega
    · obtain rfl : j = m := by omega
      clear HF HL hlt
      go_wp2_with fail
      refine (HC1.out _).mono ?_
      rintro e w1 ⟨rfl, rfl⟩
      go_wp2_with fail
      go_ret2
      exact ⟨rfl, rfl⟩

end Go.Proofs.YtdmdgoeacafpiaaGreatDoor

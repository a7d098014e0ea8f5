/-
  Package days: firstOf, Month, Bounds, Weekday, Months: what they answer.
-/
import Derived.Test.YtfeaopaglhlojaaDoorDayB
namespace Go.Proofs.YtfeaopaglhlojaaDoor
open Go.RowKit Go.Lib
set_option linter.unusedVariables false

theorem lp_1000 (y : Nat) (hy : y ≤ 1000) : lpN y ≤ 1000 := by unfold lpN; omega
theorem len_31 : ∀ k < 12, lenT.getD k 0 ≤ 31 := by decide
theorem head_le : ∀ k ≤ 12, headN k ≤ 372 := by decide

set_option maxHeartbeats 1000000 in
set_option maxRecDepth 100000 in
theorem first_any (m : Nat) (hm : m ≤ 2400) (w : World) (L : LenW w) : Calls Tryd.prog 53 #[.int .i64 m] w fun e w' => e = .returned (.int .i64 (fstN m)) ∧ w = w' := by
  have HT := Lib.hid L
  obtain ⟨y, hy⟩ : ∃ y, y = m / 12 := ⟨_, rfl⟩
  obtain ⟨k, hk⟩ : ∃ k, k = m % 12 := ⟨_, rfl⟩
  have h1 : (m : Int).tdiv 12 = (y : Int) := by rw [ediv_of (by omega)]; omega
  have h2 : (m : Int).tmod 12 = (k : Int) := by rw [Int.tmod_eq_emod_of_nonneg (by omega)]; omega
  have HF : Hid (fstN m = y * 365 + lpN y + headN k + (if 1 < k ∧ lpN y < lpN (y + 1) then 1 else 0)) := Lib.hid (by unfold fstN upN; rw [hy, hk])
  have hy2 : y ≤ 200 := by omega
  have hk2 : k < 12 := by omega
  have HA : Hid (∀ w, Calls Tryd.prog 69 #[.int .i64 (y : Int)] w fun e w' => e = .returned (.int .i64 (lpN y)) ∧ w = w') := Lib.hid (fun w => leaps_any y (by omega) w)
  have HB : Hid (∀ w, Calls Tryd.prog 69 #[.int .i64 ((y : Int) + 1)] w fun e w' => e = .returned (.int .i64 (lpN (y + 1))) ∧ w = w') := Lib.hid (fun w => leaps_any (y + 1) (by omega) w)
  have a1 := lp_1000 y (by omega)
  have b1 := lp_1000 (y + 1) (by omega)
  generalize fstN m = R at HF ⊢
  generalize lpN (y + 1) = b at HB HF b1
  generalize lpN y = a at HA HF a1
  have HK := Lib.hid hk2
  clear L hy hk
  go_enter Tryd.func53, Tryd.ntmps53
  go_wp2_with fail
  refine (HA.out _).mono ?_
  rintro e w1 ⟨rfl, rfl⟩
  go_wp2_with fail
  go_loop [4, 5, 15] (fun vd _ vi => ∃ j : Nat, j ≤ k ∧ vi = .int .i64 j ∧ vd = .int .i64 ((y : Int) * 365 + a + headN j)) (fun _ _ vi => 12 - (RowKit.intOf vi).toNat)
  case atStart => exact ⟨0, by omega, rfl, rfl⟩
  case round =>
    obtain ⟨j, hj, rfl, rfl⟩ := hrel
    have h372 := head_le j (by omega)
    by_cases hlt : j < k
    · have hc := HT.out.at_ j (by omega)
      have hq1 := len_31 j (by omega)
      have HH : Hid (headN (j + 1) = headN j + lenT.getD j 0) := Lib.hid rfl
      generalize headN j = H at HH h372 ⊢
      generalize lenT.getD j 0 = q at HH hc hq1
      have i0 : (0 : Int) ≤ (j : Int) := by omega
      have i1 : (j : Int) < 12 := by omega
      have i2 : (j : Int) < (k : Int) := by omega
      go_wp2_with fail
      go_round
      case rel => exact ⟨j + 1, by omega, by go_num, by rw [HH.out]; go_num⟩
      case measure => simp [RowKit.intOf]; omega
    · obtain rfl : j = k := by omega
      clear hlt hj hk2
      generalize headN j = H at HF h372 ⊢
      by_cases c1 : 1 < j
      · have C1 := Lib.hid c1
        have c1' : (1 : Int) < (j : Int) := by omega
        by_cases c2 : a < b
        · have HR : Hid (R = y * 365 + a + H + 1) := Lib.hid (by rw [HF.out, if_pos ⟨C1.out, c2⟩])
          have c2' : (a : Int) < (b : Int) := by omega
          clear c1 c2 HF
          go_wp2_with fail
          refine (HB.out _).mono ?_
          rintro e w1 ⟨rfl, rfl⟩
          go_wp2_with fail
          refine (HA.out _).mono ?_
          rintro e w1 ⟨rfl, rfl⟩
          go_wp2_with fail
          go_ret
          exact ⟨ret_int (by rw [HR.out]; omega), rfl⟩
        · have HR : Hid (R = y * 365 + a + H) := Lib.hid (by rw [HF.out, if_neg (by omega)]; rfl)
          have c2' : ¬ (a : Int) < (b : Int) := by omega
          clear c1 c2 HF
          go_wp2_with fail
          refine (HB.out _).mono ?_
          rintro e w1 ⟨rfl, rfl⟩
          go_wp2_with fail
          refine (HA.out _).mono ?_
          rintro e w1 ⟨rfl, rfl⟩
          go_wp2_with fail
          go_ret
          exact ⟨ret_int (by rw [HR.out]; omega), rfl⟩
      · have HR : Hid (R = y * 365 + a + H) := Lib.hid (by rw [HF.out, if_neg (by omega)]; rfl)
        have c1' : ¬ (1 : Int) < (j : Int) := by omega
        clear c1 HF
        go_wp2_with fail
        go_ret
        exact ⟨ret_int (by rw [HR.out]; omega), rfl⟩

theorem mon_start {d : Nat} (h : d < 73049) : d / 366 * 12 ≤ mon d := by
  obtain ⟨h1, h2⟩ := mon_guess h
  have h3 := mon_next h
  rcases Nat.lt_or_ge (mon d) (d / 366 * 12) with c | c
  · have := fst_mono (i := mon d + 1) (j := d / 366 * 12) (by omega) (by omega); omega
  · exact c
set_option maxHeartbeats 1000000 in
set_option maxRecDepth 100000 in
theorem month_any (d : Nat) (hd : d < 73049) (w : World) (L : LenW w) : Calls Tryd.prog 28 #[.int .i64 d] w fun e w' => e = .returned (.tuple #[.int .i64 (mon d), .int .i64 0]) ∧ w = w' := by
  have HT := Lib.hid (fun w => dthere_yes d w hd)
  have HS := Lib.hid (mon_start hd)
  have HF1 := Lib.hid (fun m (h : m < mon d) => (Nat.le_trans (fst_mono (i := m + 1) (j := mon d) (by omega) (by have := mon_lt d; omega)) (mon_fst d) : fstN (m + 1) ≤ d))
  have HF2 := Lib.hid (mon_next hd)
  have HB := mon_lt d
  have HC : Hid (∀ m : Nat, m < 2400 → Calls Tryd.prog 53 #[.int .i64 ((m : Int) + 1)] w fun e w' => e = .returned (.int .i64 (fstN (m + 1))) ∧ w = w') := Lib.hid (fun m h => first_any (m + 1) (by omega) w L)
  obtain ⟨q, hq⟩ : ∃ q, q = d / 366 := ⟨_, rfl⟩
  have h3 : (d : Int).tdiv 366 = (q : Int) := by rw [ediv_of (by omega)]; omega
  have hq2 : q ≤ 200 := by omega
  rw [← hq] at HS
  generalize mon d = M at *
  clear L hq
  go_enter Tryd.func28, Tryd.ntmps28
  go_wp2_with fail
  refine (HT.out _).mono ?_
  rintro e w1 ⟨rfl, rfl⟩
  go_wp2_with fail
  go_loop [4] (fun vm => ∃ m : Nat, m ≤ M ∧ vm = .int .i64 m) (fun vm => 2400 - (RowKit.intOf vm).toNat)
  case atStart => exact ⟨q * 12, HS.out, by go_num⟩
  case round =>
    obtain ⟨m, hm, rfl⟩ := hrel
    have HC1 := Lib.hid (HC.out m (by omega))
    by_cases hlt : m < M
    · have hle := HF1.out m hlt
      generalize fstN (m + 1) = F at *
      have hle' : (F : Int) ≤ (d : Int) := by omega
      go_wp2_with fail
      refine HC1.out.mono ?_
      rintro e w1 ⟨rfl, rfl⟩
      go_wp2_with fail
      go_round
      case rel => exact ⟨m + 1, by omega, by go_num⟩
      case measure => simp [RowKit.intOf]; omega
    · obtain rfl : m = M := by omega
      have hle := HF2.out
      clear HF2
      generalize fstN (m + 1) = F at *
      have hle' : ¬ (F : Int) ≤ (d : Int) := by omega
      go_wp2_with fail
      refine HC1.out.mono ?_
      rintro e w1 ⟨rfl, rfl⟩
      go_wp2_with fail
      go_ret2
      exact ⟨rfl, rfl⟩
theorem month_no (d : Int) (h : d < 0 ∨ 73048 < d) (w : World) : Calls Tryd.prog 28 #[.int .i64 d] w fun e w' => e = .returned (.tuple #[.int .i64 0, .int .i64 18]) ∧ w = w' := by
  have HT := Lib.hid (fun w => dthere_no d w h)
  clear h
  go_enter Tryd.func28, Tryd.ntmps28
  go_wp2_with fail
  refine (HT.out _).mono ?_
  rintro e w1 ⟨rfl, rfl⟩
  go_wp2_with fail
  go_ret2
  exact ⟨rfl, rfl⟩

theorem week_any (d : Nat) (hd : d < 73049) (w : World) : Calls Tryd.prog 29 #[.int .i64 d] w fun e w' => e = .returned (.tuple #[.int .i64 (((d + 5) % 7 : Nat)), .int .i64 0]) ∧ w = w' := by
  have HT := Lib.hid (fun w => dthere_yes d w hd)
  have h1 : ((d : Int) + 5).tmod 7 = (((d + 5) % 7 : Nat) : Int) := by rw [Int.tmod_eq_emod_of_nonneg (by omega)]; omega
  generalize (d + 5) % 7 = W at *
  go_enter Tryd.func29, Tryd.ntmps29
  go_wp2_with fail
  refine (HT.out _).mono ?_
  rintro e w1 ⟨rfl, rfl⟩
  go_wp2_with fail
  go_ret2
  exact ⟨rfl, rfl⟩
theorem week_no (d : Int) (h : d < 0 ∨ 73048 < d) (w : World) : Calls Tryd.prog 29 #[.int .i64 d] w fun e w' => e = .returned (.tuple #[.int .i64 0, .int .i64 18]) ∧ w = w' := by
  have HT := Lib.hid (fun w => dthere_no d w h)
  clear h
  go_enter Tryd.func29, Tryd.ntmps29
  go_wp2_with fail
  refine (HT.out _).mono ?_
  rintro e w1 ⟨rfl, rfl⟩
  go_wp2_with fail
  go_ret2
  exact ⟨rfl, rfl⟩

theorem ret_i3 {a b c a' b' c' : Int} (h : a = a') (h' : b = b') (h2 : c = c') : Ending.returned (.tuple #[.int .i64 a, .int .i64 b, .int .i64 c]) = .returned (.tuple #[.int .i64 a', .int .i64 b', .int .i64 c']) := by rw [h, h', h2]
theorem ret_i2 {a b a' b' : Int} (h : a = a') (h' : b = b') : Ending.returned (.tuple #[.int .i64 a, .int .i64 b]) = .returned (.tuple #[.int .i64 a', .int .i64 b']) := by rw [h, h']
set_option maxHeartbeats 1000000 in
theorem bounds_any (m : Nat) (hm : m < 2400) (w : World) (L : LenW w) : Calls Tryd.prog 30 #[.int .i64 m] w fun e w' => e = .returned (.tuple #[.int .i64 (fstN m), .int .i64 ((fstN m : Int) + lngN m - 1), .int .i64 0]) ∧ w = w' := by
  have HA := Lib.hid (first_any m (by omega) w L)
  have HC : Hid (Calls Tryd.prog 53 #[.int .i64 ((m : Int) + 1)] w fun e w' => e = .returned (.int .i64 (fstN (m + 1))) ∧ w = w') := Lib.hid (first_any (m + 1) (by omega) w L)
  have hs := fst_step m hm
  have hle := fst_le (m := m + 1) (by omega)
  generalize fstN (m + 1) = F1 at *
  generalize fstN m = F at *
  generalize lngN m = N at *
  obtain ⟨e1, e2, e3⟩ := hs
  have E1 := Lib.hid e1
  have h0 : ¬ (m : Int) < 0 := by omega
  have h1 : ¬ (2400 : Int) ≤ (m : Int) := by omega
  have h2 : F ≤ 80000 := by omega
  clear L e1
  go_enter Tryd.func30, Tryd.ntmps30
  go_wp2_with fail
  refine HA.out.mono ?_
  rintro e w1 ⟨rfl, rfl⟩
  go_wp2_with fail
  refine HC.out.mono ?_
  rintro e w1 ⟨rfl, rfl⟩
  go_wp2_with fail
  go_ret3
  exact ⟨ret_i3 rfl (by rw [E1.out]; omega) rfl, rfl⟩
theorem bounds_no (m : Int) (h : m < 0 ∨ 2400 ≤ m) (w : World) : Calls Tryd.prog 30 #[.int .i64 m] w fun e w' => e = .returned (.tuple #[.int .i64 0, .int .i64 0, .int .i64 10]) ∧ w = w' := by
  rcases h with h | h
  · go_enter Tryd.func30, Tryd.ntmps30
    go_wp2_with fail
    go_ret3
    exact ⟨rfl, rfl⟩
  · have h0 : ¬ m < 0 := by omega
    go_enter Tryd.func30, Tryd.ntmps30
    go_wp2_with fail
    go_ret3
    exact ⟨rfl, rfl⟩

end Go.Proofs.YtfeaopaglhlojaaDoor

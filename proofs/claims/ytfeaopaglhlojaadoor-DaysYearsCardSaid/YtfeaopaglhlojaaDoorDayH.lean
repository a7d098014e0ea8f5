/-
  chattellaw04.DaysYears's walk.
-/
import Derived.Test.YtfeaopaglhlojaaDoorDayG
namespace Go.Proofs.YtfeaopaglhlojaaDoor
open Go.RowKit Go.Lib
set_option linter.unusedVariables false

theorem year_all : ∀ y < 199, ∀ k < 12, (fstN (12 * y + k + 12) = fstN (12 * y + k) + 365 ∨ fstN (12 * y + k + 12) = fstN (12 * y + k) + 366) ∧
    (lngN (12 * y + k) ≤ lngN (12 * y + k + 12) ∨ (k = 1 ∧ lngN (12 * y + k) = 29 ∧ lngN (12 * y + k + 12) = 28 ∧ fstN (12 * y + k + 12) = fstN (12 * y + k) + 366)) := by decide +kernel
theorem year_on (m : Nat) (hm : m < 2388) : (fstN (m + 12) = fstN m + 365 ∨ fstN (m + 12) = fstN m + 366) ∧
    (lngN m ≤ lngN (m + 12) ∨ (m % 12 = 1 ∧ lngN m = 29 ∧ lngN (m + 12) = 28 ∧ fstN (m + 12) = fstN m + 366)) := by
  have h := year_all (m / 12) (by omega) (m % 12) (by omega)
  rw [show 12 * (m / 12) + m % 12 = m by omega] at h
  exact h
/-- Twelve months on. -/
theorem on_year {d : Nat} (hd : d < 73049) (hm : mon d < 2388) : ∃ D : Nat, D < 73049 ∧ onN d (mon d + 12) = D ∧ yrN D = yrN d + 1 ∧ moN D = moN d ∧ (daN D = daN d ∨ (daN D ≠ daN d ∧ moN d = 2 ∧ daN d = 29 ∧ daN D = 28)) ∧ d + 365 ≤ D ∧ D ≤ d + 366 := by
  have a := mon_fst d
  have b := mon_long hd
  obtain ⟨h1, h2⟩ := year_on (mon d) hm
  have hs := fst_step (mon d + 12) (by omega)
  have hle := fst_le (m := mon d + 12 + 1) (by omega)
  by_cases c : d - fstN (mon d) < lngN (mon d + 12)
  · refine ⟨fstN (mon d + 12) + (d - fstN (mon d)), by omega, by unfold onN; omega, ?_⟩
    have he : mon (fstN (mon d + 12) + (d - fstN (mon d))) = mon d + 12 := mon_in (by omega) (by omega) (by omega)
    refine ⟨by unfold yrN; rw [he]; omega, by unfold moN; rw [he]; omega, Or.inl (by unfold daN; rw [he]; omega), by omega, by omega⟩
  · rcases h2 with h2 | ⟨h2, h3, h4, h5⟩
    · omega
    · refine ⟨fstN (mon d + 12) + 27, by omega, by unfold onN; omega, ?_⟩
      have he : mon (fstN (mon d + 12) + 27) = mon d + 12 := mon_in (by omega) (by omega) (by omega)
      refine ⟨by unfold yrN; rw [he]; omega, by unfold moN; rw [he]; omega, Or.inr ⟨by unfold daN; rw [he]; omega, by unfold moN; omega, by unfold daN; omega, by unfold daN; rw [he]; omega⟩, by omega, by omega⟩

set_option maxHeartbeats 1000000 in
set_option maxRecDepth 100000 in
theorem years_no (d : Int) (h : d < 0 ∨ 73048 < d) (w : World) (L : LenW w) : Calls Tryd.prog 11 #[.int .i64 d] w fun e w' => e = .returned (.bool true) ∧ Below w.heap.size w w' := by
  have HD := Lib.hid (date_no d h w)
  have HR := Lib.hid (fun w => right_no d w h)
  have HL := Lib.hid L
  have HA := Lib.hid (fun w L => awake4_any w L)
  clear h L
  go_enter Tryd.func11, Tryd.ntmps11
  go_wp2_with fail
  refine HD.out.mono ?_
  rintro e w1 ⟨rfl, hb⟩
  have HB := Lib.hid hb
  clear hb
  go_wp2_with fail
  refine (HR.out _).mono ?_
  rintro e w2 ⟨rfl, rfl⟩
  go_wp2_with fail
  refine (HA.out _ (HL.out.keep HB.out)).mono ?_
  rintro e w2 ⟨rfl, hb⟩
  have HB2 := Lib.hid (bel_on HB.out hb)
  clear hb
  go_wp2_with fail
  go_ret
  exact ⟨rfl, HB2.out⟩

set_option maxHeartbeats 2000000 in
set_option maxRecDepth 100000 in
theorem years_last_a (d : Nat) (hd : d < 73049) (hw : d ≤ 73041) (y m t : Nat) (hy : y ≤ 2199) (hD : (∀ w, LenW w → Calls Tryd.prog 18 #[.int .i64 (d : Nat)] w fun e w' => e = .returned (.tuple #[.int .i64 (y : Nat), .int .i64 (m : Nat), .int .i64 (t : Nat), .int .i64 0]) ∧ Below w.heap.size w w')) (h99 : y = 2199) (hM : ∀ w, LenW w → Calls Tryd.prog 31 #[.int .i64 (d : Nat), .int .i64 12] w fun e w' => e = .returned (.tuple #[.int .i64 0, .int .i64 18]) ∧ w = w') (w : World) (L : LenW w) :
    Calls Tryd.prog 11 #[.int .i64 (d : Nat)] w fun e w' => e = .returned (.bool true) ∧ Below w.heap.size w w' := by
  have HL := Lib.hid L
  have HA := Lib.hid (fun w L => awake4_any w L)
  have HW0 := Lib.hid (fun w => week_any d hd w)
  have HD := Lib.hid (hD w L)
  have HM := Lib.hid hM
  subst h99
  clear hD hM L
  have HW7 : Hid (∀ w, Calls Tryd.prog 29 #[.int .i64 ((d : Int) + 7)] w fun e w' => e = .returned (.tuple #[.int .i64 (((d + 5) % 7 : Nat)), .int .i64 0]) ∧ w = w') := Lib.hid (fun w => by
    have h := week_any (d + 7) (by omega) w
    rw [show (d + 7 + 5) % 7 = (d + 5) % 7 by omega] at h; exact h)
  have HW1 : Hid (∀ w, Calls Tryd.prog 29 #[.int .i64 ((d : Int) + 1)] w fun e w' => e = .returned (.tuple #[.int .i64 (((d + 6) % 7 : Nat)), .int .i64 0]) ∧ w = w') := Lib.hid (fun w => week_any (d + 1) (by omega) w)
  have x1 : (((d + 5) % 7 : Nat) : Int) + 1 = (((d + 5) % 7 + 1 : Nat) : Int) := by omega
  have x2 : ((((d + 5) % 7 : Nat) : Int) + 1) % 7 = (((d + 6) % 7 : Nat) : Int) := by omega
  have x3 : ((((d + 5) % 7 : Nat) : Int) + 1).tmod 7 = (((d + 6) % 7 : Nat) : Int) := by rw [Int.tmod_eq_emod_of_nonneg (by omega)]; omega
  have c7 : (d : Int) ≤ 73041 := by omega
  have wl : (d + 5) % 7 ≤ 6 := by omega
  generalize (d + 6) % 7 = W1 at *
  generalize (d + 5) % 7 = W0 at *
  clear x1
  go_enter Tryd.func11, Tryd.ntmps11
  go_wp2_with fail
  refine HD.out.mono ?_
  rintro e w1 ⟨rfl, hb⟩
  have HB := Lib.hid hb
  have HL1 := Lib.hid (HL.out.keep hb)
  clear hb
  go_wp2_with fail
  refine (HW0.out _).mono ?_
  rintro e w2 ⟨rfl, rfl⟩
  go_wp2_with fail
  refine (HW7.out _).mono ?_
  rintro e w2 ⟨rfl, rfl⟩
  go_wp2_with fail
  refine (HW1.out _).mono ?_
  rintro e w2 ⟨rfl, rfl⟩
  go_wp2_with fail
  refine (HM.out _ HL1.out).mono ?_
  rintro e w2 ⟨rfl, rfl⟩
  go_wp2_with fail
  refine (HA.out _ HL1.out).mono ?_
  rintro e w2 ⟨rfl, hb⟩
  have HB2 := Lib.hid (bel_on HB.out hb)
  clear hb
  go_wp2_with fail
  go_ret
  exact ⟨rfl, HB2.out⟩

set_option maxHeartbeats 2000000 in
set_option maxRecDepth 100000 in
theorem years_last_b (d : Nat) (hd : d < 73049) (hw : ¬ d ≤ 73041) (y m t : Nat) (hy : y ≤ 2199) (hD : (∀ w, LenW w → Calls Tryd.prog 18 #[.int .i64 (d : Nat)] w fun e w' => e = .returned (.tuple #[.int .i64 (y : Nat), .int .i64 (m : Nat), .int .i64 (t : Nat), .int .i64 0]) ∧ Below w.heap.size w w')) (h99 : y = 2199) (hM : ∀ w, LenW w → Calls Tryd.prog 31 #[.int .i64 (d : Nat), .int .i64 12] w fun e w' => e = .returned (.tuple #[.int .i64 0, .int .i64 18]) ∧ w = w') (w : World) (L : LenW w) :
    Calls Tryd.prog 11 #[.int .i64 (d : Nat)] w fun e w' => e = .returned (.bool true) ∧ Below w.heap.size w w' := by
  have HL := Lib.hid L
  have HA := Lib.hid (fun w L => awake4_any w L)
  have HW0 := Lib.hid (fun w => week_any d hd w)
  have HD := Lib.hid (hD w L)
  have HM := Lib.hid hM
  subst h99
  clear hD hM L
  have c7 : ¬ (d : Int) ≤ 73041 := by omega
  have wl : (d + 5) % 7 ≤ 6 := by omega
  generalize (d + 5) % 7 = W0 at *
  go_enter Tryd.func11, Tryd.ntmps11
  go_wp2_with fail
  refine HD.out.mono ?_
  rintro e w1 ⟨rfl, hb⟩
  have HB := Lib.hid hb
  have HL1 := Lib.hid (HL.out.keep hb)
  clear hb
  go_wp2_with fail
  refine (HW0.out _).mono ?_
  rintro e w2 ⟨rfl, rfl⟩
  go_wp2_with fail
  refine (HM.out _ HL1.out).mono ?_
  rintro e w2 ⟨rfl, rfl⟩
  go_wp2_with fail
  refine (HA.out _ HL1.out).mono ?_
  rintro e w2 ⟨rfl, hb⟩
  have HB2 := Lib.hid (bel_on HB.out hb)
  clear hb
  go_wp2_with fail
  go_ret
  exact ⟨rfl, HB2.out⟩

set_option maxHeartbeats 2000000 in
set_option maxRecDepth 100000 in
theorem years_same_a (d : Nat) (hd : d < 73049) (hw : d ≤ 73041) (y m t : Nat) (hy : y ≤ 2199) (hD : (∀ w, LenW w → Calls Tryd.prog 18 #[.int .i64 (d : Nat)] w fun e w' => e = .returned (.tuple #[.int .i64 (y : Nat), .int .i64 (m : Nat), .int .i64 (t : Nat), .int .i64 0]) ∧ Below w.heap.size w w')) (h99 : y ≠ 2199) (D c : Nat) (hD2 : D < 73049) (b0 : d + 365 ≤ D) (b1 : D ≤ d + 366) (hM : ∀ w, LenW w → Calls Tryd.prog 31 #[.int .i64 (d : Nat), .int .i64 12] w fun e w' => e = .returned (.tuple #[.int .i64 (D : Nat), .int .i64 0]) ∧ w = w') (hE : (∀ w, LenW w → Calls Tryd.prog 18 #[.int .i64 (D : Nat)] w fun e w' => e = .returned (.tuple #[.int .i64 ((y + 1) : Nat), .int .i64 (m : Nat), .int .i64 (c : Nat), .int .i64 0]) ∧ Below w.heap.size w w')) (hc : c = t) (w : World) (L : LenW w) :
    Calls Tryd.prog 11 #[.int .i64 (d : Nat)] w fun e w' => e = .returned (.bool true) ∧ Below w.heap.size w w' := by
  have HL := Lib.hid L
  have HA := Lib.hid (fun w L => awake4_any w L)
  have HW0 := Lib.hid (fun w => week_any d hd w)
  have HD := Lib.hid (hD w L)
  have HM := Lib.hid hM
  have HE : Hid (∀ w, LenW w → Calls Tryd.prog 18 #[.int .i64 (D : Nat)] w fun e w' => e = .returned (.tuple #[.int .i64 ((y + 1) : Nat), .int .i64 (m : Nat), .int .i64 (c : Nat), .int .i64 0]) ∧ Below w.heap.size w w') := Lib.hid hE
  have hy2 : ((y : Int) == 2199) = false := by simp; omega
  have y1 : ((y + 1 : Nat) : Int) = (y : Int) + 1 := by omega
  subst hc
  clear hD hM L hE h99
  have HW7 : Hid (∀ w, Calls Tryd.prog 29 #[.int .i64 ((d : Int) + 7)] w fun e w' => e = .returned (.tuple #[.int .i64 (((d + 5) % 7 : Nat)), .int .i64 0]) ∧ w = w') := Lib.hid (fun w => by
    have h := week_any (d + 7) (by omega) w
    rw [show (d + 7 + 5) % 7 = (d + 5) % 7 by omega] at h; exact h)
  have HW1 : Hid (∀ w, Calls Tryd.prog 29 #[.int .i64 ((d : Int) + 1)] w fun e w' => e = .returned (.tuple #[.int .i64 (((d + 6) % 7 : Nat)), .int .i64 0]) ∧ w = w') := Lib.hid (fun w => week_any (d + 1) (by omega) w)
  have x1 : (((d + 5) % 7 : Nat) : Int) + 1 = (((d + 5) % 7 + 1 : Nat) : Int) := by omega
  have x2 : ((((d + 5) % 7 : Nat) : Int) + 1) % 7 = (((d + 6) % 7 : Nat) : Int) := by omega
  have x3 : ((((d + 5) % 7 : Nat) : Int) + 1).tmod 7 = (((d + 6) % 7 : Nat) : Int) := by rw [Int.tmod_eq_emod_of_nonneg (by omega)]; omega
  have c7 : (d : Int) ≤ 73041 := by omega
  have wl : (d + 5) % 7 ≤ 6 := by omega
  generalize (d + 6) % 7 = W1 at *
  generalize (d + 5) % 7 = W0 at *
  clear x1
  go_enter Tryd.func11, Tryd.ntmps11
  go_wp2_with fail
  refine HD.out.mono ?_
  rintro e w1 ⟨rfl, hb⟩
  have HB := Lib.hid hb
  have HL1 := Lib.hid (HL.out.keep hb)
  clear hb
  go_wp2_with fail
  refine (HW0.out _).mono ?_
  rintro e w2 ⟨rfl, rfl⟩
  go_wp2_with fail
  refine (HW7.out _).mono ?_
  rintro e w2 ⟨rfl, rfl⟩
  go_wp2_with fail
  refine (HW1.out _).mono ?_
  rintro e w2 ⟨rfl, rfl⟩
  go_wp2_with fail
  refine (HM.out _ HL1.out).mono ?_
  rintro e w2 ⟨rfl, rfl⟩
  go_wp2_with fail
  refine (HE.out _ HL1.out).mono ?_
  rintro e w2 ⟨rfl, hb⟩
  have HB2 := Lib.hid (bel_on HB.out hb)
  have HL2 := Lib.hid (HL1.out.keep hb)
  clear hb
  go_wp2_with fail
  refine (HA.out _ HL2.out).mono ?_
  rintro e w3 ⟨rfl, hb⟩
  have HB3 := Lib.hid (bel_on HB2.out hb)
  clear hb
  go_wp2_with fail
  go_ret
  exact ⟨rfl, HB3.out⟩

set_option maxHeartbeats 2000000 in
set_option maxRecDepth 100000 in
theorem years_other_a (d : Nat) (hd : d < 73049) (hw : d ≤ 73041) (y m t : Nat) (hy : y ≤ 2199) (hD : (∀ w, LenW w → Calls Tryd.prog 18 #[.int .i64 (d : Nat)] w fun e w' => e = .returned (.tuple #[.int .i64 (y : Nat), .int .i64 (m : Nat), .int .i64 (t : Nat), .int .i64 0]) ∧ Below w.heap.size w w')) (h99 : y ≠ 2199) (D c : Nat) (hD2 : D < 73049) (b0 : d + 365 ≤ D) (b1 : D ≤ d + 366) (hM : ∀ w, LenW w → Calls Tryd.prog 31 #[.int .i64 (d : Nat), .int .i64 12] w fun e w' => e = .returned (.tuple #[.int .i64 (D : Nat), .int .i64 0]) ∧ w = w') (hE : (∀ w, LenW w → Calls Tryd.prog 18 #[.int .i64 (D : Nat)] w fun e w' => e = .returned (.tuple #[.int .i64 ((y + 1) : Nat), .int .i64 (m : Nat), .int .i64 (c : Nat), .int .i64 0]) ∧ Below w.heap.size w w')) (hc : c ≠ t) (hm2 : m = 2) (ht : t = 29) (hc2 : c = 28) (w : World) (L : LenW w) :
    Calls Tryd.prog 11 #[.int .i64 (d : Nat)] w fun e w' => e = .returned (.bool true) ∧ Below w.heap.size w w' := by
  have HL := Lib.hid L
  have HA := Lib.hid (fun w L => awake4_any w L)
  have HW0 := Lib.hid (fun w => week_any d hd w)
  have HD := Lib.hid (hD w L)
  have HM := Lib.hid hM
  have HE : Hid (∀ w, LenW w → Calls Tryd.prog 18 #[.int .i64 (D : Nat)] w fun e w' => e = .returned (.tuple #[.int .i64 ((y + 1) : Nat), .int .i64 (m : Nat), .int .i64 (c : Nat), .int .i64 0]) ∧ Below w.heap.size w w') := Lib.hid hE
  have hy2 : ((y : Int) == 2199) = false := by simp; omega
  have y1 : ((y + 1 : Nat) : Int) = (y : Int) + 1 := by omega
  have hct : ((c : Int) == (t : Int)) = false := by simp; omega
  subst hm2 ht hc2
  clear hD hM L hE h99
  have HW7 : Hid (∀ w, Calls Tryd.prog 29 #[.int .i64 ((d : Int) + 7)] w fun e w' => e = .returned (.tuple #[.int .i64 (((d + 5) % 7 : Nat)), .int .i64 0]) ∧ w = w') := Lib.hid (fun w => by
    have h := week_any (d + 7) (by omega) w
    rw [show (d + 7 + 5) % 7 = (d + 5) % 7 by omega] at h; exact h)
  have HW1 : Hid (∀ w, Calls Tryd.prog 29 #[.int .i64 ((d : Int) + 1)] w fun e w' => e = .returned (.tuple #[.int .i64 (((d + 6) % 7 : Nat)), .int .i64 0]) ∧ w = w') := Lib.hid (fun w => week_any (d + 1) (by omega) w)
  have x1 : (((d + 5) % 7 : Nat) : Int) + 1 = (((d + 5) % 7 + 1 : Nat) : Int) := by omega
  have x2 : ((((d + 5) % 7 : Nat) : Int) + 1) % 7 = (((d + 6) % 7 : Nat) : Int) := by omega
  have x3 : ((((d + 5) % 7 : Nat) : Int) + 1).tmod 7 = (((d + 6) % 7 : Nat) : Int) := by rw [Int.tmod_eq_emod_of_nonneg (by omega)]; omega
  have c7 : (d : Int) ≤ 73041 := by omega
  have wl : (d + 5) % 7 ≤ 6 := by omega
  generalize (d + 6) % 7 = W1 at *
  generalize (d + 5) % 7 = W0 at *
  clear x1
  go_enter Tryd.func11, Tryd.ntmps11
  go_wp2_with fail
  refine HD.out.mono ?_
  rintro e w1 ⟨rfl, hb⟩
  have HB := Lib.hid hb
  have HL1 := Lib.hid (HL.out.keep hb)
  clear hb
  go_wp2_with fail
  refine (HW0.out _).mono ?_
  rintro e w2 ⟨rfl, rfl⟩
  go_wp2_with fail
  refine (HW7.out _).mono ?_
  rintro e w2 ⟨rfl, rfl⟩
  go_wp2_with fail
  refine (HW1.out _).mono ?_
  rintro e w2 ⟨rfl, rfl⟩
  go_wp2_with fail
  refine (HM.out _ HL1.out).mono ?_
  rintro e w2 ⟨rfl, rfl⟩
  go_wp2_with fail
  refine (HE.out _ HL1.out).mono ?_
  rintro e w2 ⟨rfl, hb⟩
  have HB2 := Lib.hid (bel_on HB.out hb)
  have HL2 := Lib.hid (HL1.out.keep hb)
  clear hb
  go_wp2_with fail
  refine (HA.out _ HL2.out).mono ?_
  rintro e w3 ⟨rfl, hb⟩
  have HB3 := Lib.hid (bel_on HB2.out hb)
  clear hb
  go_wp2_with fail
  go_ret
  exact ⟨rfl, HB3.out⟩

theorem years_walk (d : Int) (_ : I64d d) (w : World) (L : LenW w) : Calls Tryd.prog 11 #[.int .i64 d] w fun e w' => e = .returned (.bool true) ∧ Below w.heap.size w w' := by
  by_cases h : d < 0 ∨ 73048 < d
  · exact years_no d h w L
  · obtain ⟨d, rfl⟩ : ∃ k : Nat, d = k := ⟨d.toNat, by omega⟩
    have hd : d < 73049 := by omega
    have hD := fun w L => date_any d hd w L
    have hml := mon_lt d
    have hy9 : yrN d ≤ 2199 := by unfold yrN; omega
    by_cases h99 : yrN d = 2199
    · have hM := fun w L => months_no d hd 12 (by decide) (by decide) (Or.inr (by unfold yrN at h99; omega)) w L
      by_cases hw : d ≤ 73041
      · exact years_last_a d hd hw _ _ _ hy9 hD h99 hM w L
      · exact years_last_b d hd hw _ _ _ hy9 hD h99 hM w L
    · have hmk : mon d < 2388 := by unfold yrN at h99; omega
      obtain ⟨D, h1, h2, h3, h4, h5, h6, h7⟩ := on_year hd hmk
      have hM : ∀ w, LenW w → Calls Tryd.prog 31 #[.int .i64 (d : Nat), .int .i64 12] w fun e w' => e = .returned (.tuple #[.int .i64 (D : Nat), .int .i64 0]) ∧ w = w' := fun w L => by
        have := months_ok d hd 12 (mon d + 12) (by omega) (by omega) w L
        rw [h2] at this; exact this
      have hE := fun w L => date_any D h1 w L
      rw [h3, h4] at hE
      rcases h5 with h5 | ⟨h5, h8, h9, h10⟩
      · by_cases hw : d ≤ 73041
        · exact years_same_a d hd hw _ _ _ hy9 hD h99 D _ h1 h6 h7 hM hE h5 w L
        · omega
      · by_cases hw : d ≤ 73041
        · exact years_other_a d hd hw _ _ _ hy9 hD h99 D _ h1 h6 h7 hM hE h5 h8 h9 h10 w L
        · omega

end Go.Proofs.YtfeaopaglhlojaaDoor

/-
  chattelref04: Day: what it answers; chattellaw04.DaysDates's walk.
-/
import Derived.Test.YtdmdgoeacafpiaaGreatDoorDayJ
namespace Go.Proofs.YtdmdgoeacafpiaaGreatDoor
open Go.RowKit Go.Lib
set_option linter.unusedVariables false

set_option maxHeartbeats 1000000 in
set_option maxRecDepth 100000 in
theorem dayr_no0 (y m d : Int) (h : y < 2000) (w : World) : Calls Tryz.prog 50 #[.agg #[.int .i64 y, .int .i64 m, .int .i64 d]] w fun e w' => e = .returned (.int .i64 (-1)) ∧ Below w.heap.size w w' := by
  go_enter Tryz.func50, Tryz.ntmps50
  go_wp2_with fail
  go_quiet (fail)
  go_wp2_with fail
  go_ret
  exact ⟨rfl, bel_on (below_new w _) (below_drew _ nq)⟩

set_option maxHeartbeats 1000000 in
set_option maxRecDepth 100000 in
theorem dayr_no1 (y m d : Int) (h : 2199 < y) (g0 : decide (y < 2000) = false) (w : World) : Calls Tryz.prog 50 #[.agg #[.int .i64 y, .int .i64 m, .int .i64 d]] w fun e w' => e = .returned (.int .i64 (-1)) ∧ Below w.heap.size w w' := by
  go_enter Tryz.func50, Tryz.ntmps50
  go_wp2_with fail
  go_quiet (fail)
  go_wp2_with fail
  go_ret
  exact ⟨rfl, bel_on (below_new w _) (below_drew _ nq)⟩

set_option maxHeartbeats 1000000 in
set_option maxRecDepth 100000 in
theorem dayr_no2 (y m d : Int) (h : m < 1) (g0 : decide (y < 2000) = false) (g1 : decide (2199 < y) = false) (w : World) : Calls Tryz.prog 50 #[.agg #[.int .i64 y, .int .i64 m, .int .i64 d]] w fun e w' => e = .returned (.int .i64 (-1)) ∧ Below w.heap.size w w' := by
  go_enter Tryz.func50, Tryz.ntmps50
  go_wp2_with fail
  go_quiet (fail)
  go_wp2_with fail
  go_ret
  exact ⟨rfl, bel_on (below_new w _) (below_drew _ nq)⟩

set_option maxHeartbeats 1000000 in
set_option maxRecDepth 100000 in
theorem dayr_no3 (y m d : Int) (h : 12 < m) (g0 : decide (y < 2000) = false) (g1 : decide (2199 < y) = false) (g2 : decide (m < 1) = false) (w : World) : Calls Tryz.prog 50 #[.agg #[.int .i64 y, .int .i64 m, .int .i64 d]] w fun e w' => e = .returned (.int .i64 (-1)) ∧ Below w.heap.size w w' := by
  go_enter Tryz.func50, Tryz.ntmps50
  go_wp2_with fail
  go_quiet (fail)
  go_wp2_with fail
  go_ret
  exact ⟨rfl, bel_on (below_new w _) (below_drew _ nq)⟩

set_option maxHeartbeats 1000000 in
set_option maxRecDepth 100000 in
theorem dayr_no4 (y m d : Int) (h : d < 1) (g0 : decide (y < 2000) = false) (g1 : decide (2199 < y) = false) (g2 : decide (m < 1) = false) (g3 : decide (12 < m) = false) (w : World) : Calls Tryz.prog 50 #[.agg #[.int .i64 y, .int .i64 m, .int .i64 d]] w fun e w' => e = .returned (.int .i64 (-1)) ∧ Below w.heap.size w w' := by
  go_enter Tryz.func50, Tryz.ntmps50
  go_wp2_with fail
  go_quiet (fail)
  go_wp2_with fail
  go_ret
  exact ⟨rfl, bel_on (below_new w _) (below_drew _ nq)⟩

set_option maxHeartbeats 1000000 in
set_option maxRecDepth 100000 in
theorem dayr_far (y m : Nat) (d : Int) (h0 : 2000 ≤ y) (h1 : y ≤ 2199) (h2 : 1 ≤ m) (h3 : m ≤ 12) (h4 : 1 ≤ d) (h : (longN y m : Int) < d) (w : World) : Calls Tryz.prog 50 #[.agg #[.int .i64 y, .int .i64 m, .int .i64 d]] w fun e w' => e = .returned (.int .i64 (-1)) ∧ Below w.heap.size w w' := by
  have HL := Lib.hid (fun w => long_any y m (by omega) h2 h3 w)
  have HM : Hid (∀ w, Calls Tryz.prog 77 #[.int .i64 (12 * ((y : Int) - 2000) + m - 1)] w fun e w' => e = .returned (.tuple #[.int .i64 (fstN (atN y m)), .int .i64 (lngN (atN y m))]) ∧ w = w') := Lib.hid (fun w => by
    have h := monthr_any (atN y m) (by unfold atN; omega) w
    rw [show ((atN y m : Nat) : Int) = 12 * ((y : Int) - 2000) + m - 1 by unfold atN; omega] at h
    exact h)
  generalize longN y m = N at *
  have g0 : decide ((y : Int) < 2000) = false := decide_eq_false (by omega)
  have g1 : decide ((2199 : Int) < (y : Int)) = false := decide_eq_false (by omega)
  have g2 : decide ((m : Int) < 1) = false := decide_eq_false (by omega)
  have g3 : decide ((12 : Int) < (m : Int)) = false := decide_eq_false (by omega)
  have g4 : decide (d < 1) = false := decide_eq_false (by omega)
  go_enter Tryz.func50, Tryz.ntmps50
  go_wp2_with fail
  go_quiet ((go_at_call 76; with_reducible refine Calls.quiet_of_same (HL.out _)))
  go_wp2_with fail
  go_ret
  exact ⟨rfl, bel_on (below_new w _) (below_drew _ nq)⟩

set_option maxHeartbeats 1000000 in
set_option maxRecDepth 100000 in
theorem dayr_yes (y m : Nat) (d : Int) (h0 : 2000 ≤ y) (h1 : y ≤ 2199) (h2 : 1 ≤ m) (h3 : m ≤ 12) (h4 : 1 ≤ d) (h : d ≤ longN y m) (w : World) : Calls Tryz.prog 50 #[.agg #[.int .i64 y, .int .i64 m, .int .i64 d]] w fun e w' => e = .returned (.int .i64 (dayN y m d)) ∧ Below w.heap.size w w' := by
  have HL := Lib.hid (fun w => long_any y m (by omega) h2 h3 w)
  have HM : Hid (∀ w, Calls Tryz.prog 77 #[.int .i64 (12 * ((y : Int) - 2000) + m - 1)] w fun e w' => e = .returned (.tuple #[.int .i64 (fstN (atN y m)), .int .i64 (lngN (atN y m))]) ∧ w = w') := Lib.hid (fun w => by
    have h := monthr_any (atN y m) (by unfold atN; omega) w
    rw [show ((atN y m : Nat) : Int) = 12 * ((y : Int) - 2000) + m - 1 by unfold atN; omega] at h
    exact h)
  have fl := fst_le (m := atN y m) (by unfold atN; omega)
  have l31 : longN y m ≤ 31 := by unfold longN; split; split <;> omega; split <;> omega
  have HD : Hid (((dayN y m d : Nat) : Int) = (fstN (atN y m) : Int) + d - 1) := Lib.hid (by unfold dayN; omega)
  generalize dayN y m d = R at *
  generalize lngN (atN y m) = Nk at *
  generalize fstN (atN y m) = Fk at *
  generalize longN y m = N at *
  have g0 : decide ((y : Int) < 2000) = false := decide_eq_false (by omega)
  have g1 : decide ((2199 : Int) < (y : Int)) = false := decide_eq_false (by omega)
  have g2 : decide ((m : Int) < 1) = false := decide_eq_false (by omega)
  have g3 : decide ((12 : Int) < (m : Int)) = false := decide_eq_false (by omega)
  have g4 : decide (d < 1) = false := decide_eq_false (by omega)
  have g5 : decide ((N : Int) < d) = false := decide_eq_false (by omega)
  have d31 : d ≤ 31 := by omega
  go_enter Tryz.func50, Tryz.ntmps50
  go_wp2_with fail
  go_quiet ((go_at_call 76; with_reducible refine Calls.quiet_of_same (HL.out _)))
  go_wp2_with fail
  refine (HM.out _).mono ?_
  rintro e w1 ⟨rfl, rfl⟩
  go_wp2_with fail
  go_ret
  exact ⟨dret_int (by rw [HD.out]), bel_on (below_new w _) (below_drew _ nq)⟩

theorem dayr_none (y m d : Int) (h : ¬ IsDate y m d) (w : World) : Calls Tryz.prog 50 #[.agg #[.int .i64 y, .int .i64 m, .int .i64 d]] w fun e w' => e = .returned (.int .i64 (-1)) ∧ Below w.heap.size w w' := by
  by_cases c0 : y < 2000
  · exact dayr_no0 y m d c0 w
  · by_cases c1 : 2199 < y
    · exact dayr_no1 y m d c1 (decide_eq_false c0) w
    · by_cases c2 : m < 1
      · exact dayr_no2 y m d c2 (decide_eq_false c0) (decide_eq_false c1) w
      · by_cases c3 : 12 < m
        · exact dayr_no3 y m d c3 (decide_eq_false c0) (decide_eq_false c1) (decide_eq_false c2) w
        · by_cases c4 : d < 1
          · exact dayr_no4 y m d c4 (decide_eq_false c0) (decide_eq_false c1) (decide_eq_false c2) (decide_eq_false c3) w
          · obtain ⟨y, rfl⟩ : ∃ j : Nat, y = j := ⟨y.toNat, by omega⟩
            obtain ⟨m, rfl⟩ : ∃ j : Nat, m = j := ⟨m.toNat, by omega⟩
            refine dayr_far y m d (by omega) (by omega) (by omega) (by omega) (by omega) ?_ w
            have : ¬ d ≤ longN y m := fun c => h ⟨by omega, by omega, by omega, by omega, by omega, by simpa using c⟩
            omega
theorem dayr_some (y m d : Int) (h : IsDate y m d) (w : World) : Calls Tryz.prog 50 #[.agg #[.int .i64 y, .int .i64 m, .int .i64 d]] w fun e w' => e = .returned (.int .i64 (dayN y m d)) ∧ Below w.heap.size w w' := by
  obtain ⟨h0, h1, h2, h3, h4, h5⟩ := h
  obtain ⟨y, rfl⟩ : ∃ j : Nat, y = j := ⟨y.toNat, by omega⟩
  obtain ⟨m, rfl⟩ : ∃ j : Nat, m = j := ⟨m.toNat, by omega⟩
  exact dayr_yes y m d (by omega) (by omega) (by omega) (by omega) h4 (by simpa using h5) w

end Go.Proofs.YtdmdgoeacafpiaaGreatDoor

/-
  chattelref04: Day: what it answers; chattellaw04.DaysDates's walk.
-/
import Derived.Test.YtfeaopaglhlojaaDoorDayJ
namespace Go.Proofs.YtfeaopaglhlojaaDoor
open Go.RowKit Go.Lib
set_option linter.unusedVariables false

set_option maxHeartbeats 1000000 in
set_option maxRecDepth 100000 in
theorem dayr_no0 (y m d : Int) (h : y < 2000) (w : World) : Calls Tryd.prog 22 #[.agg #[.int .i64 y, .int .i64 m, .int .i64 d]] w fun e w' => e = .returned (.int .i64 (-1)) ∧ Below w.heap.size w w' := by
  go_enter Tryd.func22, Tryd.ntmps22
  go_wp2_with fail
  go_quiet (fail)
  go_wp2_with fail
  go_ret
  exact ⟨rfl, bel_on (below_new w _) (below_drew _ nq)⟩

set_option maxHeartbeats 1000000 in
set_option maxRecDepth 100000 in
theorem dayr_no1 (y m d : Int) (h : 2199 < y) (g0 : decide (y < 2000) = false) (w : World) : Calls Tryd.prog 22 #[.agg #[.int .i64 y, .int .i64 m, .int .i64 d]] w fun e w' => e = .returned (.int .i64 (-1)) ∧ Below w.heap.size w w' := by
  go_enter Tryd.func22, Tryd.ntmps22
  go_wp2_with fail
  go_quiet (fail)
  go_wp2_with fail
  go_ret
  exact ⟨rfl, bel_on (below_new w _) (below_drew _ nq)⟩

set_option maxHeartbeats 1000000 in
set_option maxRecDepth 100000 in
theorem dayr_no2 (y m d : Int) (h : m < 1) (g0 : decide (y < 2000) = false) (g1 : decide (2199 < y) = false) (w : World) : Calls Tryd.prog 22 #[.agg #[.int .i64 y, .int .i64 m, .int .i64 d]] w fun e w' => e = .returned (.int .i64 (-1)) ∧ Below w.heap.size w w' := by
  go_enter Tryd.func22, Tryd.ntmps22
  go_wp2_with fail
  go_quiet (fail)
  go_wp2_with fail
  go_ret
  exact ⟨rfl, bel_on (below_new w _) (below_drew _ nq)⟩

set_option maxHeartbeats 1000000 in
set_option maxRecDepth 100000 in
theorem dayr_no3 (y m d : Int) (h : 12 < m) (g0 : decide (y < 2000) = false) (g1 : decide (2199 < y) = false) (g2 : decide (m < 1) = false) (w : World) : Calls Tryd.prog 22 #[.agg #[.int .i64 y, .int .i64 m, .int .i64 d]] w fun e w' => e = .returned (.int .i64 (-1)) ∧ Below w.heap.size w w' := by
  go_enter Tryd.func22, Tryd.ntmps22
  go_wp2_with fail
  go_quiet (fail)
  go_wp2_with fail
  go_ret
  exact ⟨rfl, bel_on (below_new w _) (below_drew _ nq)⟩

set_option maxHeartbeats 1000000 in
set_option maxRecDepth 100000 in
theorem dayr_no4 (y m d : Int) (h : d < 1) (g0 : decide (y < 2000) = false) (g1 : decide (2199 < y) = false) (g2 : decide (m < 1) = false) (g3 : decide (12 < m) = false) (w : World) : Calls Tryd.prog 22 #[.agg #[.int .i64 y, .int .i64 m, .int .i64 d]] w fun e w' => e = .returned (.int .i64 (-1)) ∧ Below w.heap.size w w' := by
  go_enter Tryd.func22, Tryd.ntmps22
  go_wp2_with fail
  go_quiet (fail)
  go_wp2_with fail
  go_ret
  exact ⟨rfl, bel_on (below_new w _) (below_drew _ nq)⟩

set_option maxHeartbeats 1000000 in
set_option maxRecDepth 100000 in
theorem dayr_far (y m : Nat) (d : Int) (h0 : 2000 ≤ y) (h1 : y ≤ 2199) (h2 : 1 ≤ m) (h3 : m ≤ 12) (h4 : 1 ≤ d) (h : (longN y m : Int) < d) (w : World) : Calls Tryd.prog 22 #[.agg #[.int .i64 y, .int .i64 m, .int .i64 d]] w fun e w' => e = .returned (.int .i64 (-1)) ∧ Below w.heap.size w w' := by
  have HL := Lib.hid (fun w => long_any y m (by omega) h2 h3 w)
  have HM : Hid (∀ w, Calls Tryd.prog 32 #[.int .i64 (12 * ((y : Int) - 2000) + m - 1)] w fun e w' => e = .returned (.tuple #[.int .i64 (fstN (atN y m)), .int .i64 (lngN (atN y m))]) ∧ w = w') := Lib.hid (fun w => by
    have h := monthr_any (atN y m) (by unfold atN; omega) w
    rw [show ((atN y m : Nat) : Int) = 12 * ((y : Int) - 2000) + m - 1 by unfold atN; omega] at h
    exact h)
  generalize longN y m = N at *
  have g0 : decide ((y : Int) < 2000) = false := decide_eq_false (by omega)
  have g1 : decide ((2199 : Int) < (y : Int)) = false := decide_eq_false (by omega)
  have g2 : decide ((m : Int) < 1) = false := decide_eq_false (by omega)
  have g3 : decide ((12 : Int) < (m : Int)) = false := decide_eq_false (by omega)
  have g4 : decide (d < 1) = false := decide_eq_false (by omega)
  go_enter Tryd.func22, Tryd.ntmps22
  go_wp2_with fail
  go_quiet ((go_at_call 46; with_reducible refine Calls.quiet_of_same (HL.out _)))
  go_wp2_with fail
  go_ret
  exact ⟨rfl, bel_on (below_new w _) (below_drew _ nq)⟩

set_option maxHeartbeats 1000000 in
set_option maxRecDepth 100000 in
theorem dayr_yes (y m : Nat) (d : Int) (h0 : 2000 ≤ y) (h1 : y ≤ 2199) (h2 : 1 ≤ m) (h3 : m ≤ 12) (h4 : 1 ≤ d) (h : d ≤ longN y m) (w : World) : Calls Tryd.prog 22 #[.agg #[.int .i64 y, .int .i64 m, .int .i64 d]] w fun e w' => e = .returned (.int .i64 (dayN y m d)) ∧ Below w.heap.size w w' := by
  have HL := Lib.hid (fun w => long_any y m (by omega) h2 h3 w)
  have HM : Hid (∀ w, Calls Tryd.prog 32 #[.int .i64 (12 * ((y : Int) - 2000) + m - 1)] w fun e w' => e = .returned (.tuple #[.int .i64 (fstN (atN y m)), .int .i64 (lngN (atN y m))]) ∧ w = w') := Lib.hid (fun w => by
    have h := monthr_any (atN y m) (by unfold atN; omega) w
    rw [show ((atN y m : Nat) : Int) = 12 * ((y : Int) - 2000) + m - 1 by unfold atN; omega] at h
    exact h)
  have fl := fst_le (m := atN y m) (by unfold atN; omega)
  have l31 : longN y m ≤ 31 := by unfold longN; split; split <;> omega; split <;> omega
  have HD : Hid (((dayN y m d : Nat) : Int) = (fstN (atN y m) : Int) + d - 1) := Lib.hid (by unfold dayN; omega)
  generalize dayN y m d = R at *
  generalize lngN (atN y m) = Nk at *
  generalize fstN (atN y m) = Fk at *
  generalize longN y m = N at *
  have g0 : decide ((y : Int) < 2000) = false := decide_eq_false (by omega)
  have g1 : decide ((2199 : Int) < (y : Int)) = false := decide_eq_false (by omega)
  have g2 : decide ((m : Int) < 1) = false := decide_eq_false (by omega)
  have g3 : decide ((12 : Int) < (m : Int)) = false := decide_eq_false (by omega)
  have g4 : decide (d < 1) = false := decide_eq_false (by omega)
  have g5 : decide ((N : Int) < d) = false := decide_eq_false (by omega)
  have d31 : d ≤ 31 := by omega
  go_enter Tryd.func22, Tryd.ntmps22
  go_wp2_with fail
  go_quiet ((go_at_call 46; with_reducible refine Calls.quiet_of_same (HL.out _)))
  go_wp2_with fail
  refine (HM.out _).mono ?_
  rintro e w1 ⟨rfl, rfl⟩
  go_wp2_with fail
  go_ret
  exact ⟨ret_int (by rw [HD.out]), bel_on (below_new w _) (below_drew _ nq)⟩

theorem dayr_none (y m d : Int) (h : ¬ IsDate y m d) (w : World) : Calls Tryd.prog 22 #[.agg #[.int .i64 y, .int .i64 m, .int .i64 d]] w fun e w' => e = .returned (.int .i64 (-1)) ∧ Below w.heap.size w w' := by
  by_cases c0 : y < 2000
  · exact dayr_no0 y m d c0 w
  · by_cases c1 : 2199 < y
    · exact dayr_no1 y m d c1 (decide_eq_false c0) w
    · by_cases c2 : m < 1
      · exact dayr_no2 y m d c2 (decide_eq_false c0) (decide_eq_false c1) w
      · by_cases c3 : 12 < m
        · exact dayr_no3 y m d c3 (decide_eq_false c0) (decide_eq_false c1) (decide_eq_false c2) w
        · by_cases c4 : d < 1
          · exact dayr_no4 y m d c4 (decide_eq_false c0) (decide_eq_false c1) (decide_eq_false c2) (decide_eq_false c3) w
          · obtain ⟨y, rfl⟩ : ∃ j : Nat, y = j := ⟨y.toNat, by omega⟩
            obtain ⟨m, rfl⟩ : ∃ j : Nat, m = j := ⟨m.toNat, by omega⟩
            refine dayr_far y m d (by omega) (by omega) (by omega) (by omega) (by omega) ?_ w
            have : ¬ d ≤ longN y m := fun c => h ⟨by omega, by omega, by omega, by omega, by omega, by simpa using c⟩
            omega
theorem dayr_some (y m d : Int) (h : IsDate y m d) (w : World) : Calls Tryd.prog 22 #[.agg #[.int .i64 y, .int .i64 m, .int .i64 d]] w fun e w' => e = .returned (.int .i64 (dayN y m d)) ∧ Below w.heap.size w w' := by
  obtain ⟨h0, h1, h2, h3, h4, h5⟩ := h
  obtain ⟨y, rfl⟩ : ∃ j : Nat, y = j := ⟨y.toNat, by omega⟩
  obtain ⟨m, rfl⟩ : ∃ j : Nat, m = j := ⟨m.toNat, by omega⟩
  exact dayr_yes y m d (by omega) (by omega) (by omega) (by omega) h4 (by simpa using h5) w

set_option maxHeartbeats 2000000 in
set_option maxRecDepth 100000 in
theorem dates_yy (a : Nat) (ha : a < 73049) (y m d : Int) (hy : I64d y) (hm : I64d m) (hd : I64d d) (hs : IsDate y m d) (w : World) (L : LenW w) :
    Calls Tryd.prog 6 #[.int .i64 a, .agg #[.int .i64 y, .int .i64 m, .int .i64 d]] w fun e w' => e = .returned (.bool true) ∧ Below w.heap.size w w' := by
  have HL := Lib.hid L
  have HA := Lib.hid (fun w L => awake4_any w L)
  have HD := Lib.hid (fun w L => date_any a ha w L)
  have HR := Lib.hid (fun w => right_yes a w ha)
  have HO := Lib.hid (fun w => ofr_any a ha w)
  generalize yrN a = Y at *
  generalize moN a = Mo at *
  generalize daN a = Da at *
  have HY := Lib.hid (fun w L => day_yes y m d hs w L)
  have HZ := Lib.hid (fun w => dayr_some y m d hs w)
  generalize dayN y m d = D at *
  have HL1 := Lib.hid (L.keep (below_new w (.cells #[.int .i64 y, .int .i64 m, .int .i64 d] 38)))
  clear L ha hs
  go_enter Tryd.func6, Tryd.ntmps6
  go_wp2_with fail
  refine (HD.out _ HL1.out).mono ?_
  rintro e w1 ⟨rfl, hb⟩
  have HB1 := Lib.hid (bel_on (below_new w _) hb)
  have HL2 := Lib.hid (HL1.out.keep hb)
  obtain ⟨c0, c1, c2⟩ := box3 hb
  clear hb
  have C1 := Lib.hid (And.intro c0 (And.intro c1 c2))
  go_wp2_with fail
  refine (HR.out _).mono ?_
  rintro e w2 ⟨rfl, rfl⟩
  go_wp2_with fail
  refine (HO.out _).mono ?_
  rintro e w2 ⟨rfl, hb⟩
  have HB2 := Lib.hid (bel_on HB1.out hb)
  have HL3 := Lib.hid (HL2.out.keep hb)
  have d0 := (hb.cell (p := ⟨w.heap.size, 0, none⟩) (cell_lt c0)).trans c0
  have d1 := (hb.cell (p := ⟨w.heap.size, 1, none⟩) (cell_lt c1)).trans c1
  have d2 := (hb.cell (p := ⟨w.heap.size, 2, none⟩) (cell_lt c2)).trans c2
  clear hb c0 c1 c2 C1
  go_wp2_with fail
  refine (HY.out _ HL3.out).mono ?_
  rintro e w3 ⟨rfl, hb⟩
  have HB3 := Lib.hid (bel_on HB2.out hb)
  have HL4 := Lib.hid (HL3.out.keep hb)
  have e0 := (hb.cell (p := ⟨w.heap.size, 0, none⟩) (cell_lt d0)).trans d0
  have e1 := (hb.cell (p := ⟨w.heap.size, 1, none⟩) (cell_lt d1)).trans d1
  have e2 := (hb.cell (p := ⟨w.heap.size, 2, none⟩) (cell_lt d2)).trans d2
  clear hb d0 d1 d2
  go_wp2_with fail
  refine (HZ.out _).mono ?_
  rintro e w4 ⟨rfl, hb⟩
  have HB4 := Lib.hid (bel_on HB3.out hb)
  have HL5 := Lib.hid (HL4.out.keep hb)
  clear hb e0 e1 e2
  go_wp2_with fail
  refine (HA.out _ HL5.out).mono ?_
  rintro e w5 ⟨rfl, hb⟩
  have HB5 := Lib.hid (bel_on HB4.out hb)
  clear hb
  go_wp2_with fail
  go_ret
  exact ⟨rfl, HB5.out⟩

set_option maxHeartbeats 2000000 in
set_option maxRecDepth 100000 in
theorem dates_yn (a : Nat) (ha : a < 73049) (y m d : Int) (hy : I64d y) (hm : I64d m) (hd : I64d d) (hs : ¬ IsDate y m d) (w : World) (L : LenW w) :
    Calls Tryd.prog 6 #[.int .i64 a, .agg #[.int .i64 y, .int .i64 m, .int .i64 d]] w fun e w' => e = .returned (.bool true) ∧ Below w.heap.size w w' := by
  have HL := Lib.hid L
  have HA := Lib.hid (fun w L => awake4_any w L)
  have HD := Lib.hid (fun w L => date_any a ha w L)
  have HR := Lib.hid (fun w => right_yes a w ha)
  have HO := Lib.hid (fun w => ofr_any a ha w)
  generalize yrN a = Y at *
  generalize moN a = Mo at *
  generalize daN a = Da at *
  have HY := Lib.hid (fun w L => day_no y m d hy hm hd hs w L)
  have HZ := Lib.hid (fun w => dayr_none y m d hs w)
  have HL1 := Lib.hid (L.keep (below_new w (.cells #[.int .i64 y, .int .i64 m, .int .i64 d] 38)))
  clear L ha hs
  go_enter Tryd.func6, Tryd.ntmps6
  go_wp2_with fail
  refine (HD.out _ HL1.out).mono ?_
  rintro e w1 ⟨rfl, hb⟩
  have HB1 := Lib.hid (bel_on (below_new w _) hb)
  have HL2 := Lib.hid (HL1.out.keep hb)
  obtain ⟨c0, c1, c2⟩ := box3 hb
  clear hb
  have C1 := Lib.hid (And.intro c0 (And.intro c1 c2))
  go_wp2_with fail
  refine (HR.out _).mono ?_
  rintro e w2 ⟨rfl, rfl⟩
  go_wp2_with fail
  refine (HO.out _).mono ?_
  rintro e w2 ⟨rfl, hb⟩
  have HB2 := Lib.hid (bel_on HB1.out hb)
  have HL3 := Lib.hid (HL2.out.keep hb)
  have d0 := (hb.cell (p := ⟨w.heap.size, 0, none⟩) (cell_lt c0)).trans c0
  have d1 := (hb.cell (p := ⟨w.heap.size, 1, none⟩) (cell_lt c1)).trans c1
  have d2 := (hb.cell (p := ⟨w.heap.size, 2, none⟩) (cell_lt c2)).trans c2
  clear hb c0 c1 c2 C1
  go_wp2_with fail
  refine (HY.out _ HL3.out).mono ?_
  rintro e w3 ⟨rfl, hb⟩
  have HB3 := Lib.hid (bel_on HB2.out hb)
  have HL4 := Lib.hid (HL3.out.keep hb)
  have e0 := (hb.cell (p := ⟨w.heap.size, 0, none⟩) (cell_lt d0)).trans d0
  have e1 := (hb.cell (p := ⟨w.heap.size, 1, none⟩) (cell_lt d1)).trans d1
  have e2 := (hb.cell (p := ⟨w.heap.size, 2, none⟩) (cell_lt d2)).trans d2
  clear hb d0 d1 d2
  go_wp2_with fail
  refine (HZ.out _).mono ?_
  rintro e w4 ⟨rfl, hb⟩
  have HB4 := Lib.hid (bel_on HB3.out hb)
  have HL5 := Lib.hid (HL4.out.keep hb)
  clear hb e0 e1 e2
  go_wp2_with fail
  refine (HA.out _ HL5.out).mono ?_
  rintro e w5 ⟨rfl, hb⟩
  have HB5 := Lib.hid (bel_on HB4.out hb)
  clear hb
  go_wp2_with fail
  go_ret
  exact ⟨rfl, HB5.out⟩

set_option maxHeartbeats 2000000 in
set_option maxRecDepth 100000 in
theorem dates_ny (a : Int) (ha : a < 0 ∨ 73048 < a) (y m d : Int) (hy : I64d y) (hm : I64d m) (hd : I64d d) (hs : IsDate y m d) (w : World) (L : LenW w) :
    Calls Tryd.prog 6 #[.int .i64 a, .agg #[.int .i64 y, .int .i64 m, .int .i64 d]] w fun e w' => e = .returned (.bool true) ∧ Below w.heap.size w w' := by
  have HL := Lib.hid L
  have HA := Lib.hid (fun w L => awake4_any w L)
  have HD := Lib.hid (fun w (_ : LenW w) => date_no a ha w)
  have HR := Lib.hid (fun w => right_no a w ha)
  have HY := Lib.hid (fun w L => day_yes y m d hs w L)
  have HZ := Lib.hid (fun w => dayr_some y m d hs w)
  generalize dayN y m d = D at *
  have HL1 := Lib.hid (L.keep (below_new w (.cells #[.int .i64 y, .int .i64 m, .int .i64 d] 38)))
  clear L ha hs
  go_enter Tryd.func6, Tryd.ntmps6
  go_wp2_with fail
  refine (HD.out _ HL1.out).mono ?_
  rintro e w1 ⟨rfl, hb⟩
  have HB1 := Lib.hid (bel_on (below_new w _) hb)
  have HL2 := Lib.hid (HL1.out.keep hb)
  obtain ⟨c0, c1, c2⟩ := box3 hb
  clear hb
  have C1 := Lib.hid (And.intro c0 (And.intro c1 c2))
  go_wp2_with fail
  refine (HR.out _).mono ?_
  rintro e w2 ⟨rfl, rfl⟩
  go_wp2_with fail
  have HB2 := HB1
  have HL3 := HL2
  have d0 := c0
  have d1 := c1
  have d2 := c2
  clear c0 c1 c2 C1
  refine (HY.out _ HL3.out).mono ?_
  rintro e w3 ⟨rfl, hb⟩
  have HB3 := Lib.hid (bel_on HB2.out hb)
  have HL4 := Lib.hid (HL3.out.keep hb)
  have e0 := (hb.cell (p := ⟨w.heap.size, 0, none⟩) (cell_lt d0)).trans d0
  have e1 := (hb.cell (p := ⟨w.heap.size, 1, none⟩) (cell_lt d1)).trans d1
  have e2 := (hb.cell (p := ⟨w.heap.size, 2, none⟩) (cell_lt d2)).trans d2
  clear hb d0 d1 d2
  go_wp2_with fail
  refine (HZ.out _).mono ?_
  rintro e w4 ⟨rfl, hb⟩
  have HB4 := Lib.hid (bel_on HB3.out hb)
  have HL5 := Lib.hid (HL4.out.keep hb)
  clear hb e0 e1 e2
  go_wp2_with fail
  refine (HA.out _ HL5.out).mono ?_
  rintro e w5 ⟨rfl, hb⟩
  have HB5 := Lib.hid (bel_on HB4.out hb)
  clear hb
  go_wp2_with fail
  go_ret
  exact ⟨rfl, HB5.out⟩

set_option maxHeartbeats 2000000 in
set_option maxRecDepth 100000 in
theorem dates_nn (a : Int) (ha : a < 0 ∨ 73048 < a) (y m d : Int) (hy : I64d y) (hm : I64d m) (hd : I64d d) (hs : ¬ IsDate y m d) (w : World) (L : LenW w) :
    Calls Tryd.prog 6 #[.int .i64 a, .agg #[.int .i64 y, .int .i64 m, .int .i64 d]] w fun e w' => e = .returned (.bool true) ∧ Below w.heap.size w w' := by
  have HL := Lib.hid L
  have HA := Lib.hid (fun w L => awake4_any w L)
  have HD := Lib.hid (fun w (_ : LenW w) => date_no a ha w)
  have HR := Lib.hid (fun w => right_no a w ha)
  have HY := Lib.hid (fun w L => day_no y m d hy hm hd hs w L)
  have HZ := Lib.hid (fun w => dayr_none y m d hs w)
  have HL1 := Lib.hid (L.keep (below_new w (.cells #[.int .i64 y, .int .i64 m, .int .i64 d] 38)))
  clear L ha hs
  go_enter Tryd.func6, Tryd.ntmps6
  go_wp2_with fail
  refine (HD.out _ HL1.out).mono ?_
  rintro e w1 ⟨rfl, hb⟩
  have HB1 := Lib.hid (bel_on (below_new w _) hb)
  have HL2 := Lib.hid (HL1.out.keep hb)
  obtain ⟨c0, c1, c2⟩ := box3 hb
  clear hb
  have C1 := Lib.hid (And.intro c0 (And.intro c1 c2))
  go_wp2_with fail
  refine (HR.out _).mono ?_
  rintro e w2 ⟨rfl, rfl⟩
  go_wp2_with fail
  have HB2 := HB1
  have HL3 := HL2
  have d0 := c0
  have d1 := c1
  have d2 := c2
  clear c0 c1 c2 C1
  refine (HY.out _ HL3.out).mono ?_
  rintro e w3 ⟨rfl, hb⟩
  have HB3 := Lib.hid (bel_on HB2.out hb)
  have HL4 := Lib.hid (HL3.out.keep hb)
  have e0 := (hb.cell (p := ⟨w.heap.size, 0, none⟩) (cell_lt d0)).trans d0
  have e1 := (hb.cell (p := ⟨w.heap.size, 1, none⟩) (cell_lt d1)).trans d1
  have e2 := (hb.cell (p := ⟨w.heap.size, 2, none⟩) (cell_lt d2)).trans d2
  clear hb d0 d1 d2
  go_wp2_with fail
  refine (HZ.out _).mono ?_
  rintro e w4 ⟨rfl, hb⟩
  have HB4 := Lib.hid (bel_on HB3.out hb)
  have HL5 := Lib.hid (HL4.out.keep hb)
  clear hb e0 e1 e2
  go_wp2_with fail
  refine (HA.out _ HL5.out).mono ?_
  rintro e w5 ⟨rfl, hb⟩
  have HB5 := Lib.hid (bel_on HB4.out hb)
  clear hb
  go_wp2_with fail
  go_ret
  exact ⟨rfl, HB5.out⟩

theorem dates_walk (a : Int) (_ : I64d a) (y m d : Int) (hy : I64d y) (hm : I64d m) (hd : I64d d) (w : World) (L : LenW w) :
    Calls Tryd.prog 6 #[.int .i64 a, .agg #[.int .i64 y, .int .i64 m, .int .i64 d]] w fun e w' => e = .returned (.bool true) ∧ Below w.heap.size w w' := by
  by_cases h : a < 0 ∨ 73048 < a
  · by_cases c : IsDate y m d
    · exact dates_ny a h y m d hy hm hd c w L
    · exact dates_nn a h y m d hy hm hd c w L
  · obtain ⟨a, rfl⟩ : ∃ j : Nat, a = j := ⟨a.toNat, by omega⟩
    by_cases c : IsDate y m d
    · exact dates_yy a (by omega) y m d hy hm hd c w L
    · exact dates_yn a (by omega) y m d hy hm hd c w L

end Go.Proofs.YtfeaopaglhlojaaDoor

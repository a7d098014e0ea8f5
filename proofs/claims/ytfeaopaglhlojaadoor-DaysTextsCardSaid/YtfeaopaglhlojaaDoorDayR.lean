/-
  chattellaw04.DaysTexts's walk.
-/
import Derived.Test.YtfeaopaglhlojaaDoorDayL
import Derived.Test.YtfeaopaglhlojaaDoorDayQ
namespace Go.Proofs.YtfeaopaglhlojaaDoor
open Go.RowKit Go.Lib
set_option linter.unusedVariables false

theorem parse_l2 (l : List UInt8) (hm : l.length ≤ 1000) (w : World) (L : LenW w) :
    Calls Tryd.prog 26 #[.string ⟨l.toArray⟩] w fun e w' => e = .returned (.tuple #[.int .i64 (parN l).1, .int .i64 (parN l).2]) ∧ Below w.heap.size w w' :=
  parse_any ⟨l.toArray⟩ (by rw [size_len]; show l.length ≤ _; omega) w L
theorem readr_l (l : List UInt8) (hm : l.length ≤ 1000) (w : World) : Calls Tryd.prog 27 #[.string ⟨l.toArray⟩] w (ReadRAns l w) :=
  readr_any ⟨l.toArray⟩ (by rw [size_len]; show l.length ≤ _; omega) w
theorem printr_day (d : Nat) (h : d < 73049) (w : World) : Calls Tryd.prog 25 #[.agg #[.int .i64 (yrN d), .int .i64 (moN d), .int .i64 (daN d)]] w fun e w' => e = .returned (.string ⟨(dayL (yrN d) (moN d) (daN d)).toArray⟩) ∧ Below w.heap.size w w' := by
  have hml := mon_lt d
  have hs := (fst_step _ hml).2
  have hb := mon_long h
  exact printr_any _ _ _ (by unfold yrN; omega) (by unfold moN; omega) (by unfold daN; omega) w

set_option maxHeartbeats 1000000 in
set_option maxRecDepth 100000 in
theorem dtexts_long (d : Int) (l : List UInt8) (h : 40 < l.length) (w : World) (L : LenW w) : Calls Tryd.prog 7 #[.int .i64 d, .string ⟨l.toArray⟩] w fun e w' => e = .returned (.bool true) ∧ Below w.heap.size w w' := by
  have HA := Lib.hid (awake4_any w L)
  have h1 : (40 : Int) < (l.length : Int) := by omega
  clear L
  go_enter Tryd.func7, Tryd.ntmps7
  go_wp2_with fail
  refine HA.out.mono ?_
  rintro e w1 ⟨rfl, hb1⟩
  go_wp2_with fail
  go_ret
  exact ⟨rfl, hb1⟩

set_option maxHeartbeats 2000000 in
set_option maxRecDepth 100000 in
theorem dtexts_y_form (d : Nat) (hd : d < 73049) (l : List UInt8) (h : ¬ 40 < l.length) (hf : formB l = false) (hp : parN l = (0, 13)) (w : World) (L : LenW w) : Calls Tryd.prog 7 #[.int .i64 d, .string ⟨l.toArray⟩] w fun e w' => e = .returned (.bool true) ∧ Below w.heap.size w w' := by
  have HL := Lib.hid L
  have HA := Lib.hid (fun w L => awake4_any w L)
  have h1 : ¬ (40 : Int) < (l.length : Int) := by omega
  have HQ := Lib.hid (fun w L => parse_l2 l (by omega) w L)
  rw [hp] at HQ
  have HRd := Lib.hid (fun w => readr_l l (by omega) w)
  have HF := Lib.hid hf
  have HP := Lib.hid (fun w L => print_any d hd w L)
  have HR := Lib.hid (fun w => right_yes d w hd)
  have HO := Lib.hid (fun w => ofr_any d hd w)
  have HT := Lib.hid (fun w => printr_day d hd w)
  generalize dayL (yrN d) (moN d) (daN d) = X at *
  generalize yrN d = Y at *
  generalize moN d = Mo at *
  generalize daN d = Da at *
  clear L h hd hf hp
  go_enter Tryd.func7, Tryd.ntmps7
  go_wp2_with fail
  refine (HP.out _ HL.out).mono ?_
  rintro e w1 ⟨rfl, hb⟩
  have B1 := Lib.hid hb
  have L1 := Lib.hid (HL.out.keep hb)
  clear hb
  go_wp2_with fail
  refine (HR.out _).mono ?_
  rintro e w9 ⟨rfl, rfl⟩
  go_wp2_with fail
  refine (HO.out _).mono ?_
  rintro e w2 ⟨rfl, hb⟩
  have B2 := Lib.hid (bel_on B1.out hb)
  have L2 := Lib.hid (L1.out.keep hb)
  clear hb
  go_wp2_with fail
  refine (HT.out _).mono ?_
  rintro e w3 ⟨rfl, hb⟩
  have B3 := Lib.hid (bel_on B2.out hb)
  have L3 := Lib.hid (L2.out.keep hb)
  clear hb
  go_wp2_with fail
  refine (HQ.out _ L3.out).mono ?_
  rintro e w4 ⟨rfl, hb⟩
  have B4 := Lib.hid (bel_on B3.out hb)
  have L4 := Lib.hid (L3.out.keep hb)
  clear hb
  go_wp2_with fail
  refine (HRd.out _).mono ?_
  rintro e w5 ⟨⟨x, y, z, b, rfl, hbf, hbt⟩, hb⟩
  have B5 := Lib.hid (bel_on B4.out hb)
  have L5 := Lib.hid (L4.out.keep hb)
  clear hb
  rw [HF.out] at hbf
  subst hbf
  clear hbt
  have B5x := Lib.hid (bel_on B5.out (below_new w5 (.cells #[.int .i64 x, .int .i64 y, .int .i64 z] 43)))
  have L5x := Lib.hid (L5.out.keep (below_new w5 (.cells #[.int .i64 x, .int .i64 y, .int .i64 z] 43)))
  go_wp2_with fail
  refine (HA.out _ L5x.out).mono ?_
  rintro e w8 ⟨rfl, hb⟩
  have B8 := Lib.hid (bel_on B5x.out hb)
  clear hb
  go_wp2_with fail
  go_ret
  exact ⟨rfl, B8.out⟩

set_option maxHeartbeats 2000000 in
set_option maxRecDepth 100000 in
theorem dtexts_y_none (d : Nat) (hd : d < 73049) (l : List UInt8) (h : ¬ 40 < l.length) (hf : formB l = true) (hp : parN l = (0, 18)) (hi : ¬ IsDate (yOf l) (mOf l) (dOf l)) (w : World) (L : LenW w) : Calls Tryd.prog 7 #[.int .i64 d, .string ⟨l.toArray⟩] w fun e w' => e = .returned (.bool true) ∧ Below w.heap.size w w' := by
  have HL := Lib.hid L
  have HA := Lib.hid (fun w L => awake4_any w L)
  have h1 : ¬ (40 : Int) < (l.length : Int) := by omega
  have HQ := Lib.hid (fun w L => parse_l2 l (by omega) w L)
  rw [hp] at HQ
  have HRd := Lib.hid (fun w => readr_l l (by omega) w)
  have HF := Lib.hid hf
  have HZ := Lib.hid (fun w => dayr_none _ _ _ hi w)
  obtain ⟨Y1, hY1⟩ : ∃ y, y = yOf l := ⟨_, rfl⟩
  obtain ⟨M1, hM1⟩ : ∃ y, y = mOf l := ⟨_, rfl⟩
  obtain ⟨D1, hD1⟩ : ∃ y, y = dOf l := ⟨_, rfl⟩
  rw [← hY1, ← hM1, ← hD1] at HZ
  have HY := Lib.hid (And.intro hY1 (And.intro hM1 hD1))
  clear hY1 hM1 hD1
  have HP := Lib.hid (fun w L => print_any d hd w L)
  have HR := Lib.hid (fun w => right_yes d w hd)
  have HO := Lib.hid (fun w => ofr_any d hd w)
  have HT := Lib.hid (fun w => printr_day d hd w)
  generalize dayL (yrN d) (moN d) (daN d) = X at *
  generalize yrN d = Y at *
  generalize moN d = Mo at *
  generalize daN d = Da at *
  clear L h hd hf hp hi
  go_enter Tryd.func7, Tryd.ntmps7
  go_wp2_with fail
  refine (HP.out _ HL.out).mono ?_
  rintro e w1 ⟨rfl, hb⟩
  have B1 := Lib.hid hb
  have L1 := Lib.hid (HL.out.keep hb)
  clear hb
  go_wp2_with fail
  refine (HR.out _).mono ?_
  rintro e w9 ⟨rfl, rfl⟩
  go_wp2_with fail
  refine (HO.out _).mono ?_
  rintro e w2 ⟨rfl, hb⟩
  have B2 := Lib.hid (bel_on B1.out hb)
  have L2 := Lib.hid (L1.out.keep hb)
  clear hb
  go_wp2_with fail
  refine (HT.out _).mono ?_
  rintro e w3 ⟨rfl, hb⟩
  have B3 := Lib.hid (bel_on B2.out hb)
  have L3 := Lib.hid (L2.out.keep hb)
  clear hb
  go_wp2_with fail
  refine (HQ.out _ L3.out).mono ?_
  rintro e w4 ⟨rfl, hb⟩
  have B4 := Lib.hid (bel_on B3.out hb)
  have L4 := Lib.hid (L3.out.keep hb)
  clear hb
  go_wp2_with fail
  refine (HRd.out _).mono ?_
  rintro e w5 ⟨⟨x, y, z, b, rfl, hbf, hbt⟩, hb⟩
  have B5 := Lib.hid (bel_on B4.out hb)
  have L5 := Lib.hid (L4.out.keep hb)
  clear hb
  rw [HF.out] at hbf
  subst hbf
  obtain ⟨rfl, rfl, rfl⟩ := hbt rfl
  rw [← HY.out.1, ← HY.out.2.1, ← HY.out.2.2]
  clear hbt
  have B5x := Lib.hid (bel_on B5.out (below_new w5 (.cells #[.int .i64 (Y1 : Nat), .int .i64 (M1 : Nat), .int .i64 (D1 : Nat)] 43)))
  have L5x := Lib.hid (L5.out.keep (below_new w5 (.cells #[.int .i64 (Y1 : Nat), .int .i64 (M1 : Nat), .int .i64 (D1 : Nat)] 43)))
  go_wp2_with fail
  refine (HZ.out _).mono ?_
  rintro e w7 ⟨rfl, hb⟩
  have B7 := Lib.hid (bel_on B5x.out hb)
  have L7 := Lib.hid (L5x.out.keep hb)
  clear hb
  go_wp2_with fail
  refine (HA.out _ L7.out).mono ?_
  rintro e w8 ⟨rfl, hb⟩
  have B8 := Lib.hid (bel_on B7.out hb)
  clear hb
  go_wp2_with fail
  go_ret
  exact ⟨rfl, B8.out⟩

set_option maxHeartbeats 2000000 in
set_option maxRecDepth 100000 in
theorem dtexts_y_day (d : Nat) (hd : d < 73049) (l : List UInt8) (h : ¬ 40 < l.length) (hf : formB l = true) (hp : parN l = (((dayN (yOf l) (mOf l) (dOf l) : Nat) : Int), 0)) (hi : IsDate (yOf l) (mOf l) (dOf l)) (w : World) (L : LenW w) : Calls Tryd.prog 7 #[.int .i64 d, .string ⟨l.toArray⟩] w fun e w' => e = .returned (.bool true) ∧ Below w.heap.size w w' := by
  have HL := Lib.hid L
  have HA := Lib.hid (fun w L => awake4_any w L)
  have h1 : ¬ (40 : Int) < (l.length : Int) := by omega
  have HQ := Lib.hid (fun w L => parse_l2 l (by omega) w L)
  rw [hp] at HQ
  have HRd := Lib.hid (fun w => readr_l l (by omega) w)
  have HF := Lib.hid hf
  have HZ := Lib.hid (fun w => dayr_some _ _ _ hi w)
  generalize dayN (yOf l) (mOf l) (dOf l) = D at *
  obtain ⟨Y1, hY1⟩ : ∃ y, y = yOf l := ⟨_, rfl⟩
  obtain ⟨M1, hM1⟩ : ∃ y, y = mOf l := ⟨_, rfl⟩
  obtain ⟨D1, hD1⟩ : ∃ y, y = dOf l := ⟨_, rfl⟩
  rw [← hY1, ← hM1, ← hD1] at HZ
  have HY := Lib.hid (And.intro hY1 (And.intro hM1 hD1))
  clear hY1 hM1 hD1
  have HP := Lib.hid (fun w L => print_any d hd w L)
  have HR := Lib.hid (fun w => right_yes d w hd)
  have HO := Lib.hid (fun w => ofr_any d hd w)
  have HT := Lib.hid (fun w => printr_day d hd w)
  generalize dayL (yrN d) (moN d) (daN d) = X at *
  generalize yrN d = Y at *
  generalize moN d = Mo at *
  generalize daN d = Da at *
  clear L h hd hf hp hi
  go_enter Tryd.func7, Tryd.ntmps7
  go_wp2_with fail
  refine (HP.out _ HL.out).mono ?_
  rintro e w1 ⟨rfl, hb⟩
  have B1 := Lib.hid hb
  have L1 := Lib.hid (HL.out.keep hb)
  clear hb
  go_wp2_with fail
  refine (HR.out _).mono ?_
  rintro e w9 ⟨rfl, rfl⟩
  go_wp2_with fail
  refine (HO.out _).mono ?_
  rintro e w2 ⟨rfl, hb⟩
  have B2 := Lib.hid (bel_on B1.out hb)
  have L2 := Lib.hid (L1.out.keep hb)
  clear hb
  go_wp2_with fail
  refine (HT.out _).mono ?_
  rintro e w3 ⟨rfl, hb⟩
  have B3 := Lib.hid (bel_on B2.out hb)
  have L3 := Lib.hid (L2.out.keep hb)
  clear hb
  go_wp2_with fail
  refine (HQ.out _ L3.out).mono ?_
  rintro e w4 ⟨rfl, hb⟩
  have B4 := Lib.hid (bel_on B3.out hb)
  have L4 := Lib.hid (L3.out.keep hb)
  clear hb
  go_wp2_with fail
  refine (HRd.out _).mono ?_
  rintro e w5 ⟨⟨x, y, z, b, rfl, hbf, hbt⟩, hb⟩
  have B5 := Lib.hid (bel_on B4.out hb)
  have L5 := Lib.hid (L4.out.keep hb)
  clear hb
  rw [HF.out] at hbf
  subst hbf
  obtain ⟨rfl, rfl, rfl⟩ := hbt rfl
  rw [← HY.out.1, ← HY.out.2.1, ← HY.out.2.2]
  clear hbt
  have B5x := Lib.hid (bel_on B5.out (below_new w5 (.cells #[.int .i64 (Y1 : Nat), .int .i64 (M1 : Nat), .int .i64 (D1 : Nat)] 43)))
  have L5x := Lib.hid (L5.out.keep (below_new w5 (.cells #[.int .i64 (Y1 : Nat), .int .i64 (M1 : Nat), .int .i64 (D1 : Nat)] 43)))
  go_wp2_with fail
  refine (HZ.out _).mono ?_
  rintro e w7 ⟨rfl, hb⟩
  have B7 := Lib.hid (bel_on B5x.out hb)
  have L7 := Lib.hid (L5x.out.keep hb)
  clear hb
  go_wp2_with fail
  refine (HA.out _ L7.out).mono ?_
  rintro e w8 ⟨rfl, hb⟩
  have B8 := Lib.hid (bel_on B7.out hb)
  clear hb
  go_wp2_with fail
  go_ret
  exact ⟨rfl, B8.out⟩

set_option maxHeartbeats 2000000 in
set_option maxRecDepth 100000 in
theorem dtexts_n_form (d : Int) (hd : d < 0 ∨ 73048 < d) (l : List UInt8) (h : ¬ 40 < l.length) (hf : formB l = false) (hp : parN l = (0, 13)) (w : World) (L : LenW w) : Calls Tryd.prog 7 #[.int .i64 d, .string ⟨l.toArray⟩] w fun e w' => e = .returned (.bool true) ∧ Below w.heap.size w w' := by
  have HL := Lib.hid L
  have HA := Lib.hid (fun w L => awake4_any w L)
  have h1 : ¬ (40 : Int) < (l.length : Int) := by omega
  have HQ := Lib.hid (fun w L => parse_l2 l (by omega) w L)
  rw [hp] at HQ
  have HRd := Lib.hid (fun w => readr_l l (by omega) w)
  have HF := Lib.hid hf
  have HP := Lib.hid (fun w (_ : LenW w) => print_no d hd w)
  have HR := Lib.hid (fun w => right_no d w hd)
  clear L h hd hf hp
  go_enter Tryd.func7, Tryd.ntmps7
  go_wp2_with fail
  refine (HP.out _ HL.out).mono ?_
  rintro e w1 ⟨rfl, hb⟩
  have B1 := Lib.hid hb
  have L1 := Lib.hid (HL.out.keep hb)
  clear hb
  go_wp2_with fail
  refine (HR.out _).mono ?_
  rintro e w9 ⟨rfl, rfl⟩
  go_wp2_with fail
  refine (HQ.out _ L1.out).mono ?_
  rintro e w2 ⟨rfl, hb⟩
  have B2 := Lib.hid (bel_on B1.out hb)
  have L2 := Lib.hid (L1.out.keep hb)
  clear hb
  go_wp2_with fail
  refine (HRd.out _).mono ?_
  rintro e w3 ⟨⟨x, y, z, b, rfl, hbf, hbt⟩, hb⟩
  have B3 := Lib.hid (bel_on B2.out hb)
  have L3 := Lib.hid (L2.out.keep hb)
  clear hb
  rw [HF.out] at hbf
  subst hbf
  clear hbt
  have B3x := Lib.hid (bel_on B3.out (below_new w3 (.cells #[.int .i64 x, .int .i64 y, .int .i64 z] 43)))
  have L3x := Lib.hid (L3.out.keep (below_new w3 (.cells #[.int .i64 x, .int .i64 y, .int .i64 z] 43)))
  go_wp2_with fail
  refine (HA.out _ L3x.out).mono ?_
  rintro e w8 ⟨rfl, hb⟩
  have B8 := Lib.hid (bel_on B3x.out hb)
  clear hb
  go_wp2_with fail
  go_ret
  exact ⟨rfl, B8.out⟩

set_option maxHeartbeats 2000000 in
set_option maxRecDepth 100000 in
theorem dtexts_n_none (d : Int) (hd : d < 0 ∨ 73048 < d) (l : List UInt8) (h : ¬ 40 < l.length) (hf : formB l = true) (hp : parN l = (0, 18)) (hi : ¬ IsDate (yOf l) (mOf l) (dOf l)) (w : World) (L : LenW w) : Calls Tryd.prog 7 #[.int .i64 d, .string ⟨l.toArray⟩] w fun e w' => e = .returned (.bool true) ∧ Below w.heap.size w w' := by
  have HL := Lib.hid L
  have HA := Lib.hid (fun w L => awake4_any w L)
  have h1 : ¬ (40 : Int) < (l.length : Int) := by omega
  have HQ := Lib.hid (fun w L => parse_l2 l (by omega) w L)
  rw [hp] at HQ
  have HRd := Lib.hid (fun w => readr_l l (by omega) w)
  have HF := Lib.hid hf
  have HZ := Lib.hid (fun w => dayr_none _ _ _ hi w)
  obtain ⟨Y1, hY1⟩ : ∃ y, y = yOf l := ⟨_, rfl⟩
  obtain ⟨M1, hM1⟩ : ∃ y, y = mOf l := ⟨_, rfl⟩
  obtain ⟨D1, hD1⟩ : ∃ y, y = dOf l := ⟨_, rfl⟩
  rw [← hY1, ← hM1, ← hD1] at HZ
  have HY := Lib.hid (And.intro hY1 (And.intro hM1 hD1))
  clear hY1 hM1 hD1
  have HP := Lib.hid (fun w (_ : LenW w) => print_no d hd w)
  have HR := Lib.hid (fun w => right_no d w hd)
  clear L h hd hf hp hi
  go_enter Tryd.func7, Tryd.ntmps7
  go_wp2_with fail
  refine (HP.out _ HL.out).mono ?_
  rintro e w1 ⟨rfl, hb⟩
  have B1 := Lib.hid hb
  have L1 := Lib.hid (HL.out.keep hb)
  clear hb
  go_wp2_with fail
  refine (HR.out _).mono ?_
  rintro e w9 ⟨rfl, rfl⟩
  go_wp2_with fail
  refine (HQ.out _ L1.out).mono ?_
  rintro e w2 ⟨rfl, hb⟩
  have B2 := Lib.hid (bel_on B1.out hb)
  have L2 := Lib.hid (L1.out.keep hb)
  clear hb
  go_wp2_with fail
  refine (HRd.out _).mono ?_
  rintro e w3 ⟨⟨x, y, z, b, rfl, hbf, hbt⟩, hb⟩
  have B3 := Lib.hid (bel_on B2.out hb)
  have L3 := Lib.hid (L2.out.keep hb)
  clear hb
  rw [HF.out] at hbf
  subst hbf
  obtain ⟨rfl, rfl, rfl⟩ := hbt rfl
  rw [← HY.out.1, ← HY.out.2.1, ← HY.out.2.2]
  clear hbt
  have B3x := Lib.hid (bel_on B3.out (below_new w3 (.cells #[.int .i64 (Y1 : Nat), .int .i64 (M1 : Nat), .int .i64 (D1 : Nat)] 43)))
  have L3x := Lib.hid (L3.out.keep (below_new w3 (.cells #[.int .i64 (Y1 : Nat), .int .i64 (M1 : Nat), .int .i64 (D1 : Nat)] 43)))
  go_wp2_with fail
  refine (HZ.out _).mono ?_
  rintro e w7 ⟨rfl, hb⟩
  have B7 := Lib.hid (bel_on B3x.out hb)
  have L7 := Lib.hid (L3x.out.keep hb)
  clear hb
  go_wp2_with fail
  refine (HA.out _ L7.out).mono ?_
  rintro e w8 ⟨rfl, hb⟩
  have B8 := Lib.hid (bel_on B7.out hb)
  clear hb
  go_wp2_with fail
  go_ret
  exact ⟨rfl, B8.out⟩

set_option maxHeartbeats 2000000 in
set_option maxRecDepth 100000 in
theorem dtexts_n_day (d : Int) (hd : d < 0 ∨ 73048 < d) (l : List UInt8) (h : ¬ 40 < l.length) (hf : formB l = true) (hp : parN l = (((dayN (yOf l) (mOf l) (dOf l) : Nat) : Int), 0)) (hi : IsDate (yOf l) (mOf l) (dOf l)) (w : World) (L : LenW w) : Calls Tryd.prog 7 #[.int .i64 d, .string ⟨l.toArray⟩] w fun e w' => e = .returned (.bool true) ∧ Below w.heap.size w w' := by
  have HL := Lib.hid L
  have HA := Lib.hid (fun w L => awake4_any w L)
  have h1 : ¬ (40 : Int) < (l.length : Int) := by omega
  have HQ := Lib.hid (fun w L => parse_l2 l (by omega) w L)
  rw [hp] at HQ
  have HRd := Lib.hid (fun w => readr_l l (by omega) w)
  have HF := Lib.hid hf
  have HZ := Lib.hid (fun w => dayr_some _ _ _ hi w)
  generalize dayN (yOf l) (mOf l) (dOf l) = D at *
  obtain ⟨Y1, hY1⟩ : ∃ y, y = yOf l := ⟨_, rfl⟩
  obtain ⟨M1, hM1⟩ : ∃ y, y = mOf l := ⟨_, rfl⟩
  obtain ⟨D1, hD1⟩ : ∃ y, y = dOf l := ⟨_, rfl⟩
  rw [← hY1, ← hM1, ← hD1] at HZ
  have HY := Lib.hid (And.intro hY1 (And.intro hM1 hD1))
  clear hY1 hM1 hD1
  have HP := Lib.hid (fun w (_ : LenW w) => print_no d hd w)
  have HR := Lib.hid (fun w => right_no d w hd)
  clear L h hd hf hp hi
  go_enter Tryd.func7, Tryd.ntmps7
  go_wp2_with fail
  refine (HP.out _ HL.out).mono ?_
  rintro e w1 ⟨rfl, hb⟩
  have B1 := Lib.hid hb
  have L1 := Lib.hid (HL.out.keep hb)
  clear hb
  go_wp2_with fail
  refine (HR.out _).mono ?_
  rintro e w9 ⟨rfl, rfl⟩
  go_wp2_with fail
  refine (HQ.out _ L1.out).mono ?_
  rintro e w2 ⟨rfl, hb⟩
  have B2 := Lib.hid (bel_on B1.out hb)
  have L2 := Lib.hid (L1.out.keep hb)
  clear hb
  go_wp2_with fail
  refine (HRd.out _).mono ?_
  rintro e w3 ⟨⟨x, y, z, b, rfl, hbf, hbt⟩, hb⟩
  have B3 := Lib.hid (bel_on B2.out hb)
  have L3 := Lib.hid (L2.out.keep hb)
  clear hb
  rw [HF.out] at hbf
  subst hbf
  obtain ⟨rfl, rfl, rfl⟩ := hbt rfl
  rw [← HY.out.1, ← HY.out.2.1, ← HY.out.2.2]
  clear hbt
  have B3x := Lib.hid (bel_on B3.out (below_new w3 (.cells #[.int .i64 (Y1 : Nat), .int .i64 (M1 : Nat), .int .i64 (D1 : Nat)] 43)))
  have L3x := Lib.hid (L3.out.keep (below_new w3 (.cells #[.int .i64 (Y1 : Nat), .int .i64 (M1 : Nat), .int .i64 (D1 : Nat)] 43)))
  go_wp2_with fail
  refine (HZ.out _).mono ?_
  rintro e w7 ⟨rfl, hb⟩
  have B7 := Lib.hid (bel_on B3x.out hb)
  have L7 := Lib.hid (L3x.out.keep hb)
  clear hb
  go_wp2_with fail
  refine (HA.out _ L7.out).mono ?_
  rintro e w8 ⟨rfl, hb⟩
  have B8 := Lib.hid (bel_on B7.out hb)
  clear hb
  go_wp2_with fail
  go_ret
  exact ⟨rfl, B8.out⟩

theorem dtexts_walk (d : Int) (_ : I64d d) (s : ByteArray) (w : World) (L : LenW w) : Calls Tryd.prog 7 #[.int .i64 d, .string s] w fun e w' => e = .returned (.bool true) ∧ Below w.heap.size w w' := by
  rw [← Lib.mk_data s]
  generalize s.data.toList = l
  by_cases h : 40 < l.length
  · exact dtexts_long d l h w L
  · by_cases hf : formB l = true
    · by_cases hi : IsDate (yOf l) (mOf l) (dOf l)
      · have hp : parN l = (((dayN (yOf l) (mOf l) (dOf l) : Nat) : Int), 0) := by unfold parN; rw [if_pos hf, if_pos hi]
        by_cases g : d < 0 ∨ 73048 < d
        · exact dtexts_n_day d g l h hf hp hi w L
        · obtain ⟨d, rfl⟩ : ∃ j : Nat, d = j := ⟨d.toNat, by omega⟩
          exact dtexts_y_day d (by omega) l h hf hp hi w L
      · have hp : parN l = (0, 18) := by unfold parN; rw [if_pos hf, if_neg hi]
        by_cases g : d < 0 ∨ 73048 < d
        · exact dtexts_n_none d g l h hf hp hi w L
        · obtain ⟨d, rfl⟩ : ∃ j : Nat, d = j := ⟨d.toNat, by omega⟩
          exact dtexts_y_none d (by omega) l h hf hp hi w L
    · have hp : parN l = (0, 13) := by unfold parN; rw [if_neg hf]
      have hf' : formB l = false := by simpa using hf
      by_cases g : d < 0 ∨ 73048 < d
      · exact dtexts_n_form d g l h hf' hp w L
      · obtain ⟨d, rfl⟩ : ∃ j : Nat, d = j := ⟨d.toNat, by omega⟩
        exact dtexts_y_form d (by omega) l h hf' hp w L

end Go.Proofs.YtfeaopaglhlojaaDoor

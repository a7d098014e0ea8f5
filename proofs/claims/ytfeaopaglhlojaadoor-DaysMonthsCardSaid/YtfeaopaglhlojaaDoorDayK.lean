/-
  chattellaw04.DaysMonths's walk.
-/
import Derived.Test.YtfeaopaglhlojaaDoorDayJ
namespace Go.Proofs.YtfeaopaglhlojaaDoor
open Go.RowKit Go.Lib
set_option linter.unusedVariables false

set_option maxHeartbeats 2000000 in
set_option maxRecDepth 100000 in
theorem dmonths_y_no (d : Int) (hd : d < 0 ∨ 73048 < d) (k : Nat) (hk : k < 2400) (n : Int) (hn : I64d n) (w : World) (L : LenW w) :
    Calls Tryd.prog 8 #[.int .i64 d, .int .i64 k, .int .i64 n] w fun e w' => e = .returned (.bool true) ∧ Below w.heap.size w w' := by
  have HL := Lib.hid L
  have HA := Lib.hid (fun w L => awake4_any w L)
  have HBd := Lib.hid (bounds_any k hk w L)
  have HRm := Lib.hid (fun w => monthr_any k hk w)
  have fk := fst_le (m := k) (by omega)
  have gk := (fst_step k hk).2
  have k0 : ¬ (k : Int) < 0 := by omega
  have k1 : ¬ (2399 : Int) < (k : Int) := by omega
  have HMo := Lib.hid (month_no d hd w)
  have HWk := Lib.hid (week_no d hd w)
  have HOn := Lib.hid (months_bad d hd n w)
  have HR := Lib.hid (fun w => right_no d w hd)
  obtain ⟨gk1, gk2⟩ := gk
  generalize fstN k = Fk at *
  generalize lngN k = Nk at *
  clear L
  go_enter Tryd.func8, Tryd.ntmps8
  go_wp2_with fail
  refine HMo.out.mono ?_
  rintro e w1 ⟨rfl, rfl⟩
  go_wp2_with fail
  refine HWk.out.mono ?_
  rintro e w1 ⟨rfl, rfl⟩
  go_wp2_with fail
  refine HBd.out.mono ?_
  rintro e w1 ⟨rfl, rfl⟩
  go_wp2_with fail
  refine HOn.out.mono ?_
  rintro e w1 ⟨rfl, rfl⟩
  go_wp2_with fail
  refine (HRm.out _).mono ?_
  rintro e w1 ⟨rfl, rfl⟩
  go_wp2_with fail
  refine (HR.out _).mono ?_
  rintro e w1 ⟨rfl, rfl⟩
  go_wp2_with fail
  refine (HA.out _ HL.out).mono ?_
  rintro e w2 ⟨rfl, hb⟩
  have HB := Lib.hid hb
  clear hb
  go_wp2_with fail
  go_ret
  exact ⟨rfl, HB.out⟩

set_option maxHeartbeats 2000000 in
set_option maxRecDepth 100000 in
theorem dmonths_y_lo (d : Nat) (hd : d < 73049) (k : Nat) (hk : k < 2400) (n : Int) (hn : I64d n) (M : Nat) (hM : mon d = M) (ho : n < -(M : Int)) (w : World) (L : LenW w) :
    Calls Tryd.prog 8 #[.int .i64 d, .int .i64 k, .int .i64 n] w fun e w' => e = .returned (.bool true) ∧ Below w.heap.size w w' := by
  have HL := Lib.hid L
  have HA := Lib.hid (fun w L => awake4_any w L)
  have HBd := Lib.hid (bounds_any k hk w L)
  have HRm := Lib.hid (fun w => monthr_any k hk w)
  have fk := fst_le (m := k) (by omega)
  have gk := (fst_step k hk).2
  have k0 : ¬ (k : Int) < 0 := by omega
  have k1 : ¬ (2399 : Int) < (k : Int) := by omega
  have HMo := Lib.hid (month_any d hd w L)
  rw [hM] at HMo
  have HWk := Lib.hid (week_any d hd w)
  have HR := Lib.hid (fun w => right_yes d w hd)
  have HOf := Lib.hid (fun w => ofr_any d hd w)
  have hM24 : M < 2400 := by rw [← hM]; exact mon_lt d
  have w1 : ((d : Int) + 5) % 7 = (((d + 5) % 7 : Nat) : Int) := by omega
  have wl : (d + 5) % 7 ≤ 6 := by omega
  have hnow : 12 * ((yrN d : Int) - 2000) + (moN d : Int) - 1 = (M : Int) := by unfold yrN moN; rw [hM]; omega
  have yl : yrN d ≤ 2300 := by unfold yrN; rw [hM]; omega
  have y0 : 2000 ≤ yrN d := by unfold yrN; omega
  have ml : moN d ≤ 12 := by unfold moN; omega
  have dl : daN d ≤ 100000 := by unfold daN; omega
  have HOn := Lib.hid (months_no d hd n hn.1 hn.2 (by rw [hM]; omega) w L)
  have n0 : n < -(M : Int) := by omega
  generalize yrN d = Y at *
  generalize moN d = Mo at *
  generalize daN d = Da at *
  generalize (d + 5) % 7 = Wk at *
  obtain ⟨gk1, gk2⟩ := gk
  generalize fstN k = Fk at *
  generalize lngN k = Nk at *
  clear L hM
  go_enter Tryd.func8, Tryd.ntmps8
  go_wp2_with fail
  refine HMo.out.mono ?_
  rintro e w1 ⟨rfl, rfl⟩
  go_wp2_with fail
  refine HWk.out.mono ?_
  rintro e w1 ⟨rfl, rfl⟩
  go_wp2_with fail
  refine HBd.out.mono ?_
  rintro e w1 ⟨rfl, rfl⟩
  go_wp2_with fail
  refine HOn.out.mono ?_
  rintro e w1 ⟨rfl, rfl⟩
  go_wp2_with fail
  refine (HRm.out _).mono ?_
  rintro e w1 ⟨rfl, rfl⟩
  go_wp2_with fail
  refine (HR.out _).mono ?_
  rintro e w1 ⟨rfl, rfl⟩
  go_wp2_with fail
  refine (HOf.out _).mono ?_
  rintro e w2 ⟨rfl, hb⟩
  have HB := Lib.hid (bel_on hb (below_new w2 (.cells #[.int .i64 Y, .int .i64 Mo, .int .i64 Da] 43)))
  have HL2 := Lib.hid (HL.out.keep HB.out)
  clear hb
  go_wp2_with fail
  refine (HA.out _ HL2.out).mono ?_
  rintro e w3 ⟨rfl, hb⟩
  have HB3 := Lib.hid (bel_on HB.out hb)
  clear hb
  go_wp2_with fail
  go_ret
  exact ⟨rfl, HB3.out⟩

set_option maxHeartbeats 2000000 in
set_option maxRecDepth 100000 in
theorem dmonths_y_hi (d : Nat) (hd : d < 73049) (k : Nat) (hk : k < 2400) (n : Int) (hn : I64d n) (M : Nat) (hM : mon d = M) (ho : 2399 - (M : Int) < n) (w : World) (L : LenW w) :
    Calls Tryd.prog 8 #[.int .i64 d, .int .i64 k, .int .i64 n] w fun e w' => e = .returned (.bool true) ∧ Below w.heap.size w w' := by
  have HL := Lib.hid L
  have HA := Lib.hid (fun w L => awake4_any w L)
  have HBd := Lib.hid (bounds_any k hk w L)
  have HRm := Lib.hid (fun w => monthr_any k hk w)
  have fk := fst_le (m := k) (by omega)
  have gk := (fst_step k hk).2
  have k0 : ¬ (k : Int) < 0 := by omega
  have k1 : ¬ (2399 : Int) < (k : Int) := by omega
  have HMo := Lib.hid (month_any d hd w L)
  rw [hM] at HMo
  have HWk := Lib.hid (week_any d hd w)
  have HR := Lib.hid (fun w => right_yes d w hd)
  have HOf := Lib.hid (fun w => ofr_any d hd w)
  have hM24 : M < 2400 := by rw [← hM]; exact mon_lt d
  have w1 : ((d : Int) + 5) % 7 = (((d + 5) % 7 : Nat) : Int) := by omega
  have wl : (d + 5) % 7 ≤ 6 := by omega
  have hnow : 12 * ((yrN d : Int) - 2000) + (moN d : Int) - 1 = (M : Int) := by unfold yrN moN; rw [hM]; omega
  have yl : yrN d ≤ 2300 := by unfold yrN; rw [hM]; omega
  have y0 : 2000 ≤ yrN d := by unfold yrN; omega
  have ml : moN d ≤ 12 := by unfold moN; omega
  have dl : daN d ≤ 100000 := by unfold daN; omega
  have HOn := Lib.hid (months_no d hd n hn.1 hn.2 (by rw [hM]; omega) w L)
  have n0 : ¬ n < -(M : Int) := by omega
  have n1 : 2399 - (M : Int) < n := by omega
  generalize yrN d = Y at *
  generalize moN d = Mo at *
  generalize daN d = Da at *
  generalize (d + 5) % 7 = Wk at *
  obtain ⟨gk1, gk2⟩ := gk
  generalize fstN k = Fk at *
  generalize lngN k = Nk at *
  clear L hM
  go_enter Tryd.func8, Tryd.ntmps8
  go_wp2_with fail
  refine HMo.out.mono ?_
  rintro e w1 ⟨rfl, rfl⟩
  go_wp2_with fail
  refine HWk.out.mono ?_
  rintro e w1 ⟨rfl, rfl⟩
  go_wp2_with fail
  refine HBd.out.mono ?_
  rintro e w1 ⟨rfl, rfl⟩
  go_wp2_with fail
  refine HOn.out.mono ?_
  rintro e w1 ⟨rfl, rfl⟩
  go_wp2_with fail
  refine (HRm.out _).mono ?_
  rintro e w1 ⟨rfl, rfl⟩
  go_wp2_with fail
  refine (HR.out _).mono ?_
  rintro e w1 ⟨rfl, rfl⟩
  go_wp2_with fail
  refine (HOf.out _).mono ?_
  rintro e w2 ⟨rfl, hb⟩
  have HB := Lib.hid (bel_on hb (below_new w2 (.cells #[.int .i64 Y, .int .i64 Mo, .int .i64 Da] 43)))
  have HL2 := Lib.hid (HL.out.keep HB.out)
  clear hb
  go_wp2_with fail
  refine (HA.out _ HL2.out).mono ?_
  rintro e w3 ⟨rfl, hb⟩
  have HB3 := Lib.hid (bel_on HB.out hb)
  clear hb
  go_wp2_with fail
  go_ret
  exact ⟨rfl, HB3.out⟩

set_option maxHeartbeats 2000000 in
set_option maxRecDepth 100000 in
theorem dmonths_y_a (d : Nat) (hd : d < 73049) (k : Nat) (hk : k < 2400) (n : Int) (hn : I64d n) (M : Nat) (hM : mon d = M) (K : Nat) (hK : K < 2400) (ho : (M : Int) + n = K) (hc : daN d ≤ lngN K) (w : World) (L : LenW w) :
    Calls Tryd.prog 8 #[.int .i64 d, .int .i64 k, .int .i64 n] w fun e w' => e = .returned (.bool true) ∧ Below w.heap.size w w' := by
  have HL := Lib.hid L
  have HA := Lib.hid (fun w L => awake4_any w L)
  have HBd := Lib.hid (bounds_any k hk w L)
  have HRm := Lib.hid (fun w => monthr_any k hk w)
  have fk := fst_le (m := k) (by omega)
  have gk := (fst_step k hk).2
  have k0 : ¬ (k : Int) < 0 := by omega
  have k1 : ¬ (2399 : Int) < (k : Int) := by omega
  have HMo := Lib.hid (month_any d hd w L)
  rw [hM] at HMo
  have HWk := Lib.hid (week_any d hd w)
  have HR := Lib.hid (fun w => right_yes d w hd)
  have HOf := Lib.hid (fun w => ofr_any d hd w)
  have hM24 : M < 2400 := by rw [← hM]; exact mon_lt d
  have w1 : ((d : Int) + 5) % 7 = (((d + 5) % 7 : Nat) : Int) := by omega
  have wl : (d + 5) % 7 ≤ 6 := by omega
  have hnow : 12 * ((yrN d : Int) - 2000) + (moN d : Int) - 1 = (M : Int) := by unfold yrN moN; rw [hM]; omega
  have yl : yrN d ≤ 2300 := by unfold yrN; rw [hM]; omega
  have y0 : 2000 ≤ yrN d := by unfold yrN; omega
  have ml : moN d ≤ 12 := by unfold moN; omega
  have dl : daN d ≤ 100000 := by unfold daN; omega
  have f1 := mon_fst d
  rw [hM] at f1
  have HOn : Hid (Calls Tryd.prog 31 #[.int .i64 d, .int .i64 n] w fun e w' => e = .returned (.tuple #[.int .i64 ((fstN K : Int) + daN d - 1), .int .i64 0]) ∧ w = w') := Lib.hid (by
    have h := months_ok d hd n K hK (by rw [hM]; exact ho) w L
    have e : onN d K = (fstN K : Int) + daN d - 1 := by unfold onN daN at *; rw [hM] at hc ⊢; omega
    rw [e] at h; exact h)
  have HRK := Lib.hid (fun w => monthr_any K hK w)
  have fK := fst_le (m := K) (by omega)
  have gK := (fst_step K hK).2
  have n0 : ¬ n < -(M : Int) := by omega
  have n1 : ¬ 2399 - (M : Int) < n := by omega
  have c1 : (daN d : Int) ≤ (lngN K : Int) := by omega
  generalize yrN d = Y at *
  generalize moN d = Mo at *
  generalize daN d = Da at *
  generalize (d + 5) % 7 = Wk at *
  obtain ⟨gK1, gK2⟩ := gK
  obtain ⟨gk1, gk2⟩ := gk
  generalize fstN K = FK at *
  generalize lngN K = NK at *
  generalize fstN k = Fk at *
  generalize lngN k = Nk at *
  clear L hM hc f1
  go_enter Tryd.func8, Tryd.ntmps8
  go_wp2_with fail
  refine HMo.out.mono ?_
  rintro e w1 ⟨rfl, rfl⟩
  go_wp2_with fail
  refine HWk.out.mono ?_
  rintro e w1 ⟨rfl, rfl⟩
  go_wp2_with fail
  refine HBd.out.mono ?_
  rintro e w1 ⟨rfl, rfl⟩
  go_wp2_with fail
  refine HOn.out.mono ?_
  rintro e w1 ⟨rfl, rfl⟩
  go_wp2_with fail
  refine (HRm.out _).mono ?_
  rintro e w1 ⟨rfl, rfl⟩
  go_wp2_with fail
  refine (HR.out _).mono ?_
  rintro e w1 ⟨rfl, rfl⟩
  go_wp2_with fail
  refine (HOf.out _).mono ?_
  rintro e w2 ⟨rfl, hb⟩
  have HB := Lib.hid (bel_on hb (below_new w2 (.cells #[.int .i64 Y, .int .i64 Mo, .int .i64 Da] 43)))
  have HL2 := Lib.hid (HL.out.keep HB.out)
  clear hb
  go_wp2_with fail
  refine (HRK.out _).mono ?_
  rintro e w1 ⟨rfl, rfl⟩
  go_wp2_with fail
  refine (HA.out _ HL2.out).mono ?_
  rintro e w3 ⟨rfl, hb⟩
  have HB3 := Lib.hid (bel_on HB.out hb)
  clear hb
  go_wp2_with fail
  go_ret
  exact ⟨rfl, HB3.out⟩

set_option maxHeartbeats 2000000 in
set_option maxRecDepth 100000 in
theorem dmonths_y_b (d : Nat) (hd : d < 73049) (k : Nat) (hk : k < 2400) (n : Int) (hn : I64d n) (M : Nat) (hM : mon d = M) (K : Nat) (hK : K < 2400) (ho : (M : Int) + n = K) (hc : lngN K < daN d) (w : World) (L : LenW w) :
    Calls Tryd.prog 8 #[.int .i64 d, .int .i64 k, .int .i64 n] w fun e w' => e = .returned (.bool true) ∧ Below w.heap.size w w' := by
  have HL := Lib.hid L
  have HA := Lib.hid (fun w L => awake4_any w L)
  have HBd := Lib.hid (bounds_any k hk w L)
  have HRm := Lib.hid (fun w => monthr_any k hk w)
  have fk := fst_le (m := k) (by omega)
  have gk := (fst_step k hk).2
  have k0 : ¬ (k : Int) < 0 := by omega
  have k1 : ¬ (2399 : Int) < (k : Int) := by omega
  have HMo := Lib.hid (month_any d hd w L)
  rw [hM] at HMo
  have HWk := Lib.hid (week_any d hd w)
  have HR := Lib.hid (fun w => right_yes d w hd)
  have HOf := Lib.hid (fun w => ofr_any d hd w)
  have hM24 : M < 2400 := by rw [← hM]; exact mon_lt d
  have w1 : ((d : Int) + 5) % 7 = (((d + 5) % 7 : Nat) : Int) := by omega
  have wl : (d + 5) % 7 ≤ 6 := by omega
  have hnow : 12 * ((yrN d : Int) - 2000) + (moN d : Int) - 1 = (M : Int) := by unfold yrN moN; rw [hM]; omega
  have yl : yrN d ≤ 2300 := by unfold yrN; rw [hM]; omega
  have y0 : 2000 ≤ yrN d := by unfold yrN; omega
  have ml : moN d ≤ 12 := by unfold moN; omega
  have dl : daN d ≤ 100000 := by unfold daN; omega
  have f1 := mon_fst d
  rw [hM] at f1
  have HOn : Hid (Calls Tryd.prog 31 #[.int .i64 d, .int .i64 n] w fun e w' => e = .returned (.tuple #[.int .i64 ((fstN K : Int) + lngN K - 1), .int .i64 0]) ∧ w = w') := Lib.hid (by
    have h := months_ok d hd n K hK (by rw [hM]; exact ho) w L
    have e : onN d K = (fstN K : Int) + lngN K - 1 := by unfold onN daN at *; rw [hM] at hc ⊢; omega
    rw [e] at h; exact h)
  have HRK := Lib.hid (fun w => monthr_any K hK w)
  have fK := fst_le (m := K) (by omega)
  have gK := (fst_step K hK).2
  have n0 : ¬ n < -(M : Int) := by omega
  have n1 : ¬ 2399 - (M : Int) < n := by omega
  have c1 : ¬ (daN d : Int) ≤ (lngN K : Int) := by omega
  have c2 : (lngN K : Int) ≤ (daN d : Int) := by omega
  have c3 : (lngN K : Int) < (daN d : Int) := by omega
  generalize yrN d = Y at *
  generalize moN d = Mo at *
  generalize daN d = Da at *
  generalize (d + 5) % 7 = Wk at *
  obtain ⟨gK1, gK2⟩ := gK
  obtain ⟨gk1, gk2⟩ := gk
  generalize fstN K = FK at *
  generalize lngN K = NK at *
  generalize fstN k = Fk at *
  generalize lngN k = Nk at *
  clear L hM hc f1
  go_enter Tryd.func8, Tryd.ntmps8
  go_wp2_with fail
  refine HMo.out.mono ?_
  rintro e w1 ⟨rfl, rfl⟩
  go_wp2_with fail
  refine HWk.out.mono ?_
  rintro e w1 ⟨rfl, rfl⟩
  go_wp2_with fail
  refine HBd.out.mono ?_
  rintro e w1 ⟨rfl, rfl⟩
  go_wp2_with fail
  refine HOn.out.mono ?_
  rintro e w1 ⟨rfl, rfl⟩
  go_wp2_with fail
  refine (HRm.out _).mono ?_
  rintro e w1 ⟨rfl, rfl⟩
  go_wp2_with fail
  refine (HR.out _).mono ?_
  rintro e w1 ⟨rfl, rfl⟩
  go_wp2_with fail
  refine (HOf.out _).mono ?_
  rintro e w2 ⟨rfl, hb⟩
  have HB := Lib.hid (bel_on hb (below_new w2 (.cells #[.int .i64 Y, .int .i64 Mo, .int .i64 Da] 43)))
  have HL2 := Lib.hid (HL.out.keep HB.out)
  clear hb
  go_wp2_with fail
  refine (HRK.out _).mono ?_
  rintro e w1 ⟨rfl, rfl⟩
  go_wp2_with fail
  refine (HA.out _ HL2.out).mono ?_
  rintro e w3 ⟨rfl, hb⟩
  have HB3 := Lib.hid (bel_on HB.out hb)
  clear hb
  go_wp2_with fail
  go_ret
  exact ⟨rfl, HB3.out⟩

set_option maxHeartbeats 2000000 in
set_option maxRecDepth 100000 in
theorem dmonths_n_no (d : Int) (hd : d < 0 ∨ 73048 < d) (k : Int) (hk : k < 0 ∨ 2400 ≤ k) (n : Int) (hn : I64d n) (w : World) (L : LenW w) :
    Calls Tryd.prog 8 #[.int .i64 d, .int .i64 k, .int .i64 n] w fun e w' => e = .returned (.bool true) ∧ Below w.heap.size w w' := by
  have HL := Lib.hid L
  have HA := Lib.hid (fun w L => awake4_any w L)
  have HBd := Lib.hid (bounds_no k hk w)
  have HMo := Lib.hid (month_no d hd w)
  have HWk := Lib.hid (week_no d hd w)
  have HOn := Lib.hid (months_bad d hd n w)
  have HR := Lib.hid (fun w => right_no d w hd)
  clear L
  rcases hk with hk | hk
  all_goals first | (have k0 : ¬ k < 0 := by omega) | skip
  all_goals first | (have k1 : 2399 < k := by omega) | skip
  all_goals
    go_enter Tryd.func8, Tryd.ntmps8
    go_wp2_with fail
    refine HMo.out.mono ?_
    rintro e w1 ⟨rfl, rfl⟩
    go_wp2_with fail
    refine HWk.out.mono ?_
    rintro e w1 ⟨rfl, rfl⟩
    go_wp2_with fail
    refine HBd.out.mono ?_
    rintro e w1 ⟨rfl, rfl⟩
    go_wp2_with fail
    refine HOn.out.mono ?_
    rintro e w1 ⟨rfl, rfl⟩
    go_wp2_with fail
    refine (HR.out _).mono ?_
    rintro e w1 ⟨rfl, rfl⟩
    go_wp2_with fail
    refine (HA.out _ HL.out).mono ?_
    rintro e w2 ⟨rfl, hb⟩
    have HB := Lib.hid hb
    clear hb
    go_wp2_with fail
    go_ret
    exact ⟨rfl, HB.out⟩

set_option maxHeartbeats 2000000 in
set_option maxRecDepth 100000 in
theorem dmonths_n_lo (d : Nat) (hd : d < 73049) (k : Int) (hk : k < 0 ∨ 2400 ≤ k) (n : Int) (hn : I64d n) (M : Nat) (hM : mon d = M) (ho : n < -(M : Int)) (w : World) (L : LenW w) :
    Calls Tryd.prog 8 #[.int .i64 d, .int .i64 k, .int .i64 n] w fun e w' => e = .returned (.bool true) ∧ Below w.heap.size w w' := by
  have HL := Lib.hid L
  have HA := Lib.hid (fun w L => awake4_any w L)
  have HBd := Lib.hid (bounds_no k hk w)
  have HMo := Lib.hid (month_any d hd w L)
  rw [hM] at HMo
  have HWk := Lib.hid (week_any d hd w)
  have HR := Lib.hid (fun w => right_yes d w hd)
  have HOf := Lib.hid (fun w => ofr_any d hd w)
  have hM24 : M < 2400 := by rw [← hM]; exact mon_lt d
  have w1 : ((d : Int) + 5) % 7 = (((d + 5) % 7 : Nat) : Int) := by omega
  have wl : (d + 5) % 7 ≤ 6 := by omega
  have hnow : 12 * ((yrN d : Int) - 2000) + (moN d : Int) - 1 = (M : Int) := by unfold yrN moN; rw [hM]; omega
  have yl : yrN d ≤ 2300 := by unfold yrN; rw [hM]; omega
  have y0 : 2000 ≤ yrN d := by unfold yrN; omega
  have ml : moN d ≤ 12 := by unfold moN; omega
  have dl : daN d ≤ 100000 := by unfold daN; omega
  have HOn := Lib.hid (months_no d hd n hn.1 hn.2 (by rw [hM]; omega) w L)
  have n0 : n < -(M : Int) := by omega
  generalize yrN d = Y at *
  generalize moN d = Mo at *
  generalize daN d = Da at *
  generalize (d + 5) % 7 = Wk at *
  clear L hM
  rcases hk with hk | hk
  all_goals first | (have k0 : ¬ k < 0 := by omega) | skip
  all_goals first | (have k1 : 2399 < k := by omega) | skip
  all_goals
    go_enter Tryd.func8, Tryd.ntmps8
    go_wp2_with fail
    refine HMo.out.mono ?_
    rintro e w1 ⟨rfl, rfl⟩
    go_wp2_with fail
    refine HWk.out.mono ?_
    rintro e w1 ⟨rfl, rfl⟩
    go_wp2_with fail
    refine HBd.out.mono ?_
    rintro e w1 ⟨rfl, rfl⟩
    go_wp2_with fail
    refine HOn.out.mono ?_
    rintro e w1 ⟨rfl, rfl⟩
    go_wp2_with fail
    refine (HR.out _).mono ?_
    rintro e w1 ⟨rfl, rfl⟩
    go_wp2_with fail
    refine (HOf.out _).mono ?_
    rintro e w2 ⟨rfl, hb⟩
    have HB := Lib.hid (bel_on hb (below_new w2 (.cells #[.int .i64 Y, .int .i64 Mo, .int .i64 Da] 43)))
    have HL2 := Lib.hid (HL.out.keep HB.out)
    clear hb
    go_wp2_with fail
    refine (HA.out _ HL2.out).mono ?_
    rintro e w3 ⟨rfl, hb⟩
    have HB3 := Lib.hid (bel_on HB.out hb)
    clear hb
    go_wp2_with fail
    go_ret
    exact ⟨rfl, HB3.out⟩

set_option maxHeartbeats 2000000 in
set_option maxRecDepth 100000 in
theorem dmonths_n_hi (d : Nat) (hd : d < 73049) (k : Int) (hk : k < 0 ∨ 2400 ≤ k) (n : Int) (hn : I64d n) (M : Nat) (hM : mon d = M) (ho : 2399 - (M : Int) < n) (w : World) (L : LenW w) :
    Calls Tryd.prog 8 #[.int .i64 d, .int .i64 k, .int .i64 n] w fun e w' => e = .returned (.bool true) ∧ Below w.heap.size w w' := by
  have HL := Lib.hid L
  have HA := Lib.hid (fun w L => awake4_any w L)
  have HBd := Lib.hid (bounds_no k hk w)
  have HMo := Lib.hid (month_any d hd w L)
  rw [hM] at HMo
  have HWk := Lib.hid (week_any d hd w)
  have HR := Lib.hid (fun w => right_yes d w hd)
  have HOf := Lib.hid (fun w => ofr_any d hd w)
  have hM24 : M < 2400 := by rw [← hM]; exact mon_lt d
  have w1 : ((d : Int) + 5) % 7 = (((d + 5) % 7 : Nat) : Int) := by omega
  have wl : (d + 5) % 7 ≤ 6 := by omega
  have hnow : 12 * ((yrN d : Int) - 2000) + (moN d : Int) - 1 = (M : Int) := by unfold yrN moN; rw [hM]; omega
  have yl : yrN d ≤ 2300 := by unfold yrN; rw [hM]; omega
  have y0 : 2000 ≤ yrN d := by unfold yrN; omega
  have ml : moN d ≤ 12 := by unfold moN; omega
  have dl : daN d ≤ 100000 := by unfold daN; omega
  have HOn := Lib.hid (months_no d hd n hn.1 hn.2 (by rw [hM]; omega) w L)
  have n0 : ¬ n < -(M : Int) := by omega
  have n1 : 2399 - (M : Int) < n := by omega
  generalize yrN d = Y at *
  generalize moN d = Mo at *
  generalize daN d = Da at *
  generalize (d + 5) % 7 = Wk at *
  clear L hM
  rcases hk with hk | hk
  all_goals first | (have k0 : ¬ k < 0 := by omega) | skip
  all_goals first | (have k1 : 2399 < k := by omega) | skip
  all_goals
    go_enter Tryd.func8, Tryd.ntmps8
    go_wp2_with fail
    refine HMo.out.mono ?_
    rintro e w1 ⟨rfl, rfl⟩
    go_wp2_with fail
    refine HWk.out.mono ?_
    rintro e w1 ⟨rfl, rfl⟩
    go_wp2_with fail
    refine HBd.out.mono ?_
    rintro e w1 ⟨rfl, rfl⟩
    go_wp2_with fail
    refine HOn.out.mono ?_
    rintro e w1 ⟨rfl, rfl⟩
    go_wp2_with fail
    refine (HR.out _).mono ?_
    rintro e w1 ⟨rfl, rfl⟩
    go_wp2_with fail
    refine (HOf.out _).mono ?_
    rintro e w2 ⟨rfl, hb⟩
    have HB := Lib.hid (bel_on hb (below_new w2 (.cells #[.int .i64 Y, .int .i64 Mo, .int .i64 Da] 43)))
    have HL2 := Lib.hid (HL.out.keep HB.out)
    clear hb
    go_wp2_with fail
    refine (HA.out _ HL2.out).mono ?_
    rintro e w3 ⟨rfl, hb⟩
    have HB3 := Lib.hid (bel_on HB.out hb)
    clear hb
    go_wp2_with fail
    go_ret
    exact ⟨rfl, HB3.out⟩

set_option maxHeartbeats 2000000 in
set_option maxRecDepth 100000 in
theorem dmonths_n_a (d : Nat) (hd : d < 73049) (k : Int) (hk : k < 0 ∨ 2400 ≤ k) (n : Int) (hn : I64d n) (M : Nat) (hM : mon d = M) (K : Nat) (hK : K < 2400) (ho : (M : Int) + n = K) (hc : daN d ≤ lngN K) (w : World) (L : LenW w) :
    Calls Tryd.prog 8 #[.int .i64 d, .int .i64 k, .int .i64 n] w fun e w' => e = .returned (.bool true) ∧ Below w.heap.size w w' := by
  have HL := Lib.hid L
  have HA := Lib.hid (fun w L => awake4_any w L)
  have HBd := Lib.hid (bounds_no k hk w)
  have HMo := Lib.hid (month_any d hd w L)
  rw [hM] at HMo
  have HWk := Lib.hid (week_any d hd w)
  have HR := Lib.hid (fun w => right_yes d w hd)
  have HOf := Lib.hid (fun w => ofr_any d hd w)
  have hM24 : M < 2400 := by rw [← hM]; exact mon_lt d
  have w1 : ((d : Int) + 5) % 7 = (((d + 5) % 7 : Nat) : Int) := by omega
  have wl : (d + 5) % 7 ≤ 6 := by omega
  have hnow : 12 * ((yrN d : Int) - 2000) + (moN d : Int) - 1 = (M : Int) := by unfold yrN moN; rw [hM]; omega
  have yl : yrN d ≤ 2300 := by unfold yrN; rw [hM]; omega
  have y0 : 2000 ≤ yrN d := by unfold yrN; omega
  have ml : moN d ≤ 12 := by unfold moN; omega
  have dl : daN d ≤ 100000 := by unfold daN; omega
  have f1 := mon_fst d
  rw [hM] at f1
  have HOn : Hid (Calls Tryd.prog 31 #[.int .i64 d, .int .i64 n] w fun e w' => e = .returned (.tuple #[.int .i64 ((fstN K : Int) + daN d - 1), .int .i64 0]) ∧ w = w') := Lib.hid (by
    have h := months_ok d hd n K hK (by rw [hM]; exact ho) w L
    have e : onN d K = (fstN K : Int) + daN d - 1 := by unfold onN daN at *; rw [hM] at hc ⊢; omega
    rw [e] at h; exact h)
  have HRK := Lib.hid (fun w => monthr_any K hK w)
  have fK := fst_le (m := K) (by omega)
  have gK := (fst_step K hK).2
  have n0 : ¬ n < -(M : Int) := by omega
  have n1 : ¬ 2399 - (M : Int) < n := by omega
  have c1 : (daN d : Int) ≤ (lngN K : Int) := by omega
  generalize yrN d = Y at *
  generalize moN d = Mo at *
  generalize daN d = Da at *
  generalize (d + 5) % 7 = Wk at *
  obtain ⟨gK1, gK2⟩ := gK
  generalize fstN K = FK at *
  generalize lngN K = NK at *
  clear L hM hc f1
  rcases hk with hk | hk
  all_goals first | (have k0 : ¬ k < 0 := by omega) | skip
  all_goals first | (have k1 : 2399 < k := by omega) | skip
  all_goals
    go_enter Tryd.func8, Tryd.ntmps8
    go_wp2_with fail
    refine HMo.out.mono ?_
    rintro e w1 ⟨rfl, rfl⟩
    go_wp2_with fail
    refine HWk.out.mono ?_
    rintro e w1 ⟨rfl, rfl⟩
    go_wp2_with fail
    refine HBd.out.mono ?_
    rintro e w1 ⟨rfl, rfl⟩
    go_wp2_with fail
    refine HOn.out.mono ?_
    rintro e w1 ⟨rfl, rfl⟩
    go_wp2_with fail
    refine (HR.out _).mono ?_
    rintro e w1 ⟨rfl, rfl⟩
    go_wp2_with fail
    refine (HOf.out _).mono ?_
    rintro e w2 ⟨rfl, hb⟩
    have HB := Lib.hid (bel_on hb (below_new w2 (.cells #[.int .i64 Y, .int .i64 Mo, .int .i64 Da] 43)))
    have HL2 := Lib.hid (HL.out.keep HB.out)
    clear hb
    go_wp2_with fail
    refine (HRK.out _).mono ?_
    rintro e w1 ⟨rfl, rfl⟩
    go_wp2_with fail
    refine (HA.out _ HL2.out).mono ?_
    rintro e w3 ⟨rfl, hb⟩
    have HB3 := Lib.hid (bel_on HB.out hb)
    clear hb
    go_wp2_with fail
    go_ret
    exact ⟨rfl, HB3.out⟩

set_option maxHeartbeats 2000000 in
set_option maxRecDepth 100000 in
theorem dmonths_n_b (d : Nat) (hd : d < 73049) (k : Int) (hk : k < 0 ∨ 2400 ≤ k) (n : Int) (hn : I64d n) (M : Nat) (hM : mon d = M) (K : Nat) (hK : K < 2400) (ho : (M : Int) + n = K) (hc : lngN K < daN d) (w : World) (L : LenW w) :
    Calls Tryd.prog 8 #[.int .i64 d, .int .i64 k, .int .i64 n] w fun e w' => e = .returned (.bool true) ∧ Below w.heap.size w w' := by
  have HL := Lib.hid L
  have HA := Lib.hid (fun w L => awake4_any w L)
  have HBd := Lib.hid (bounds_no k hk w)
  have HMo := Lib.hid (month_any d hd w L)
  rw [hM] at HMo
  have HWk := Lib.hid (week_any d hd w)
  have HR := Lib.hid (fun w => right_yes d w hd)
  have HOf := Lib.hid (fun w => ofr_any d hd w)
  have hM24 : M < 2400 := by rw [← hM]; exact mon_lt d
  have w1 : ((d : Int) + 5) % 7 = (((d + 5) % 7 : Nat) : Int) := by omega
  have wl : (d + 5) % 7 ≤ 6 := by omega
  have hnow : 12 * ((yrN d : Int) - 2000) + (moN d : Int) - 1 = (M : Int) := by unfold yrN moN; rw [hM]; omega
  have yl : yrN d ≤ 2300 := by unfold yrN; rw [hM]; omega
  have y0 : 2000 ≤ yrN d := by unfold yrN; omega
  have ml : moN d ≤ 12 := by unfold moN; omega
  have dl : daN d ≤ 100000 := by unfold daN; omega
  have f1 := mon_fst d
  rw [hM] at f1
  have HOn : Hid (Calls Tryd.prog 31 #[.int .i64 d, .int .i64 n] w fun e w' => e = .returned (.tuple #[.int .i64 ((fstN K : Int) + lngN K - 1), .int .i64 0]) ∧ w = w') := Lib.hid (by
    have h := months_ok d hd n K hK (by rw [hM]; exact ho) w L
    have e : onN d K = (fstN K : Int) + lngN K - 1 := by unfold onN daN at *; rw [hM] at hc ⊢; omega
    rw [e] at h; exact h)
  have HRK := Lib.hid (fun w => monthr_any K hK w)
  have fK := fst_le (m := K) (by omega)
  have gK := (fst_step K hK).2
  have n0 : ¬ n < -(M : Int) := by omega
  have n1 : ¬ 2399 - (M : Int) < n := by omega
  have c1 : ¬ (daN d : Int) ≤ (lngN K : Int) := by omega
  have c2 : (lngN K : Int) ≤ (daN d : Int) := by omega
  have c3 : (lngN K : Int) < (daN d : Int) := by omega
  generalize yrN d = Y at *
  generalize moN d = Mo at *
  generalize daN d = Da at *
  generalize (d + 5) % 7 = Wk at *
  obtain ⟨gK1, gK2⟩ := gK
  generalize fstN K = FK at *
  generalize lngN K = NK at *
  clear L hM hc f1
  rcases hk with hk | hk
  all_goals first | (have k0 : ¬ k < 0 := by omega) | skip
  all_goals first | (have k1 : 2399 < k := by omega) | skip
  all_goals
    go_enter Tryd.func8, Tryd.ntmps8
    go_wp2_with fail
    refine HMo.out.mono ?_
    rintro e w1 ⟨rfl, rfl⟩
    go_wp2_with fail
    refine HWk.out.mono ?_
    rintro e w1 ⟨rfl, rfl⟩
    go_wp2_with fail
    refine HBd.out.mono ?_
    rintro e w1 ⟨rfl, rfl⟩
    go_wp2_with fail
    refine HOn.out.mono ?_
    rintro e w1 ⟨rfl, rfl⟩
    go_wp2_with fail
    refine (HR.out _).mono ?_
    rintro e w1 ⟨rfl, rfl⟩
    go_wp2_with fail
    refine (HOf.out _).mono ?_
    rintro e w2 ⟨rfl, hb⟩
    have HB := Lib.hid (bel_on hb (below_new w2 (.cells #[.int .i64 Y, .int .i64 Mo, .int .i64 Da] 43)))
    have HL2 := Lib.hid (HL.out.keep HB.out)
    clear hb
    go_wp2_with fail
    refine (HRK.out _).mono ?_
    rintro e w1 ⟨rfl, rfl⟩
    go_wp2_with fail
    refine (HA.out _ HL2.out).mono ?_
    rintro e w3 ⟨rfl, hb⟩
    have HB3 := Lib.hid (bel_on HB.out hb)
    clear hb
    go_wp2_with fail
    go_ret
    exact ⟨rfl, HB3.out⟩

theorem dmonths_walk (d : Int) (_ : I64d d) (k : Int) (_ : I64d k) (n : Int) (hn : I64d n) (w : World) (L : LenW w) : Calls Tryd.prog 8 #[.int .i64 d, .int .i64 k, .int .i64 n] w fun e w' => e = .returned (.bool true) ∧ Below w.heap.size w w' := by
  by_cases h : d < 0 ∨ 73048 < d
  · by_cases hk : k < 0 ∨ 2400 ≤ k
    · exact dmonths_n_no d h k hk n hn w L
    · obtain ⟨k, rfl⟩ : ∃ j : Nat, k = j := ⟨k.toNat, by omega⟩
      exact dmonths_y_no d h k (by omega) n hn w L
  · obtain ⟨d, rfl⟩ : ∃ j : Nat, d = j := ⟨d.toNat, by omega⟩
    have hd : d < 73049 := by omega
    have hml := mon_lt d
    by_cases h1 : n < -(mon d : Int)
    · by_cases hk : k < 0 ∨ 2400 ≤ k
      · exact dmonths_n_lo d hd k hk n hn _ rfl h1 w L
      · obtain ⟨k, rfl⟩ : ∃ j : Nat, k = j := ⟨k.toNat, by omega⟩
        exact dmonths_y_lo d hd k (by omega) n hn _ rfl h1 w L
    · by_cases h2 : 2399 - (mon d : Int) < n
      · by_cases hk : k < 0 ∨ 2400 ≤ k
        · exact dmonths_n_hi d hd k hk n hn _ rfl h2 w L
        · obtain ⟨k, rfl⟩ : ∃ j : Nat, k = j := ⟨k.toNat, by omega⟩
          exact dmonths_y_hi d hd k (by omega) n hn _ rfl h2 w L
      · obtain ⟨K, hK⟩ : ∃ K : Nat, (mon d : Int) + n = K := ⟨((mon d : Int) + n).toNat, by omega⟩
        by_cases hc : daN d ≤ lngN K
        · by_cases hk : k < 0 ∨ 2400 ≤ k
          · exact dmonths_n_a d hd k hk n hn _ rfl K (by omega) hK hc w L
          · obtain ⟨k, rfl⟩ : ∃ j : Nat, k = j := ⟨k.toNat, by omega⟩
            exact dmonths_y_a d hd k (by omega) n hn _ rfl K (by omega) hK hc w L
        · by_cases hk : k < 0 ∨ 2400 ≤ k
          · exact dmonths_n_b d hd k hk n hn _ rfl K (by omega) hK (by omega) w L
          · obtain ⟨k, rfl⟩ : ∃ j : Nat, k = j := ⟨k.toNat, by omega⟩
            exact dmonths_y_b d hd k (by omega) n hn _ rfl K (by omega) hK (by omega) w L

end Go.Proofs.YtfeaopaglhlojaaDoor

/-
  chattellaw04.DaysWithin's walk.
-/
import Derived.Test.YtfeaopaglhlojaaDoorDayG
namespace Go.Proofs.YtfeaopaglhlojaaDoor
open Go.RowKit Go.Lib
set_option linter.unusedVariables false

/-- Months on, and back. -/
theorem on_back {d : Nat} (hd : d < 73049) {K : Nat} (hK : K < 2400) : ∃ D : Nat, D < 73049 ∧ onN d K = D ∧ mon D = K ∧ ∃ B : Nat, onN D (mon d) = B ∧ B ≤ d ∧ d ≤ B + 3 ∧ (B = d ∨ (B ≠ d ∧ 28 ≤ d - fstN (mon d))) := by
  have a := mon_fst d
  have b := mon_long hd
  have c := mon_lt d
  have hs := fst_step K hK
  have hs2 := fst_step _ c
  have hle := fst_le (m := K + 1) (by omega)
  by_cases h : d - fstN (mon d) < lngN K
  · have he : mon (fstN K + (d - fstN (mon d))) = K := mon_in hK (by omega) (by omega)
    refine ⟨fstN K + (d - fstN (mon d)), by omega, by unfold onN; omega, he, d, ?_, by omega, by omega, Or.inl rfl⟩
    unfold onN; rw [he]; omega
  · have he : mon (fstN K + (lngN K - 1)) = K := mon_in hK (by omega) (by omega)
    refine ⟨fstN K + (lngN K - 1), by omega, by unfold onN; omega, he, fstN (mon d) + (lngN K - 1), ?_, by omega, by omega, Or.inr ⟨by omega, by omega⟩⟩
    unfold onN; rw [he]; omega

set_option maxHeartbeats 1000000 in
set_option maxRecDepth 100000 in
theorem within_no (d n : Int) (h : d < 0 ∨ 73048 < d) (w : World) (L : LenW w) : Calls Tryd.prog 10 #[.int .i64 d, .int .i64 n] w fun e w' => e = .returned (.bool true) ∧ Below w.heap.size w w' := by
  have HD := Lib.hid (month_no d h w)
  have HR := Lib.hid (fun w => right_no d w h)
  have HA := Lib.hid (awake4_any w L)
  clear h L
  go_enter Tryd.func10, Tryd.ntmps10
  go_wp2_with fail
  refine HD.out.mono ?_
  rintro e w1 ⟨rfl, rfl⟩
  go_wp2_with fail
  refine (HR.out _).mono ?_
  rintro e w2 ⟨rfl, rfl⟩
  go_wp2_with fail
  refine HA.out.mono ?_
  rintro e w2 ⟨rfl, hb⟩
  have HB := Lib.hid hb
  clear hb
  go_wp2_with fail
  go_ret
  exact ⟨rfl, HB.out⟩

set_option maxHeartbeats 2000000 in
set_option maxRecDepth 100000 in
theorem within_a_off (d : Nat) (hd : d < 73049) (n : Int) (hn : I64d n) (M : Nat) (hM : mon d = M) (hm : M = 2399) (ho : (M : Int) + n < 0 ∨ 2400 ≤ (M : Int) + n) (w : World) (L : LenW w) :
    Calls Tryd.prog 10 #[.int .i64 d, .int .i64 n] w fun e w' => e = .returned (.bool true) ∧ Below w.heap.size w w' := by
  have HMo := Lib.hid (month_any d hd w L)
  rw [hM] at HMo
  have HBd := Lib.hid (bounds_any M (by omega) w L)
  have HA := Lib.hid (awake4_any w L)
  have f1 := mon_fst d
  have f2 := mon_long hd
  have hs := fst_step M (by omega)
  rw [hM] at f1 f2
  have HB2 := Lib.hid (bounds_no ((M : Int) + 1) (by omega) w)
  have HO := Lib.hid (months_no d hd n hn.1 hn.2 (by rw [hM]; exact ho) w L)
  have fl := fst_le (m := M) (by omega)
  generalize fstN M = F at *
  generalize lngN M = N at *
  obtain ⟨s1, s2, s3⟩ := hs
  clear s1 L hM ho
  have t1 : (F : Int) ≤ (d : Int) := by omega
  have t2 : (d : Int) ≤ (F : Int) + N - 1 := by omega
  subst hm
  go_enter Tryd.func10, Tryd.ntmps10
  go_wp2_with fail
  refine HMo.out.mono ?_
  rintro e w1 ⟨rfl, rfl⟩
  go_wp2_with fail
  refine HBd.out.mono ?_
  rintro e w1 ⟨rfl, rfl⟩
  go_wp2_with fail
  refine HB2.out.mono ?_
  rintro e w1 ⟨rfl, rfl⟩
  go_wp2_with fail
  refine HO.out.mono ?_
  rintro e w1 ⟨rfl, rfl⟩
  go_wp2_with fail
  refine HA.out.mono ?_
  rintro e w2 ⟨rfl, hb⟩
  have HB := Lib.hid hb
  clear hb
  go_wp2_with fail
  go_ret
  exact ⟨rfl, HB.out⟩

set_option maxHeartbeats 2000000 in
set_option maxRecDepth 100000 in
theorem within_a_same (d : Nat) (hd : d < 73049) (n : Int) (hn : I64d n) (M : Nat) (hM : mon d = M) (hm : M = 2399) (K : Nat) (hK : K < 2400) (hKn : (M : Int) + n = K) (D : Nat) (hD : D < 73049) (hon : onN d K = D) (hmD : mon D = K) (B : Nat) (hB : onN D M = B) (hb0 : B = d) (w : World) (L : LenW w) :
    Calls Tryd.prog 10 #[.int .i64 d, .int .i64 n] w fun e w' => e = .returned (.bool true) ∧ Below w.heap.size w w' := by
  have HMo := Lib.hid (month_any d hd w L)
  rw [hM] at HMo
  have HBd := Lib.hid (bounds_any M (by omega) w L)
  have HA := Lib.hid (awake4_any w L)
  have f1 := mon_fst d
  have f2 := mon_long hd
  have hs := fst_step M (by omega)
  rw [hM] at f1 f2
  have HB2 := Lib.hid (bounds_no ((M : Int) + 1) (by omega) w)
  have HO : Hid (Calls Tryd.prog 31 #[.int .i64 d, .int .i64 n] w fun e w' => e = .returned (.tuple #[.int .i64 (D : Nat), .int .i64 0]) ∧ w = w') := Lib.hid (by
    have h := months_ok d hd n K hK (by rw [hM]; exact hKn) w L
    rw [hon] at h; exact h)
  have HK := Lib.hid (month_any D hD w L)
  rw [hmD] at HK
  have HP : Hid (Calls Tryd.prog 31 #[.int .i64 D, .int .i64 (-n)] w fun e w' => e = .returned (.tuple #[.int .i64 (B : Nat), .int .i64 0]) ∧ w = w') := Lib.hid (by
    have h := months_ok D hD (-n) M (by omega) (by rw [hmD]; omega) w L
    rw [hB] at h; exact h)
  have n0 : -2400 < n := by omega
  have n1 : n < 2400 := by omega
  rw [hb0] at HP
  have fl := fst_le (m := M) (by omega)
  generalize fstN M = F at *
  generalize lngN M = N at *
  obtain ⟨s1, s2, s3⟩ := hs
  clear s1 L hM hon hmD hB hb0
  have t1 : (F : Int) ≤ (d : Int) := by omega
  have t2 : (d : Int) ≤ (F : Int) + N - 1 := by omega
  subst hm
  go_enter Tryd.func10, Tryd.ntmps10
  go_wp2_with fail
  refine HMo.out.mono ?_
  rintro e w1 ⟨rfl, rfl⟩
  go_wp2_with fail
  refine HBd.out.mono ?_
  rintro e w1 ⟨rfl, rfl⟩
  go_wp2_with fail
  refine HB2.out.mono ?_
  rintro e w1 ⟨rfl, rfl⟩
  go_wp2_with fail
  refine HO.out.mono ?_
  rintro e w1 ⟨rfl, rfl⟩
  go_wp2_with fail
  refine HK.out.mono ?_
  rintro e w1 ⟨rfl, rfl⟩
  go_wp2_with fail
  refine HP.out.mono ?_
  rintro e w1 ⟨rfl, rfl⟩
  go_wp2_with fail
  refine HA.out.mono ?_
  rintro e w2 ⟨rfl, hb⟩
  have HB := Lib.hid hb
  clear hb
  go_wp2_with fail
  go_ret
  exact ⟨rfl, HB.out⟩

set_option maxHeartbeats 2000000 in
set_option maxRecDepth 100000 in
theorem within_a_other (d : Nat) (hd : d < 73049) (n : Int) (hn : I64d n) (M : Nat) (hM : mon d = M) (hm : M = 2399) (K : Nat) (hK : K < 2400) (hKn : (M : Int) + n = K) (D : Nat) (hD : D < 73049) (hon : onN d K = D) (hmD : mon D = K) (B : Nat) (hB : onN D M = B) (hb0 : B ≠ d) (hb1 : B ≤ d) (hb2 : d ≤ B + 3) (hb3 : 28 ≤ d - fstN M) (w : World) (L : LenW w) :
    Calls Tryd.prog 10 #[.int .i64 d, .int .i64 n] w fun e w' => e = .returned (.bool true) ∧ Below w.heap.size w w' := by
  have HMo := Lib.hid (month_any d hd w L)
  rw [hM] at HMo
  have HBd := Lib.hid (bounds_any M (by omega) w L)
  have HA := Lib.hid (awake4_any w L)
  have f1 := mon_fst d
  have f2 := mon_long hd
  have hs := fst_step M (by omega)
  rw [hM] at f1 f2
  have HB2 := Lib.hid (bounds_no ((M : Int) + 1) (by omega) w)
  have HO : Hid (Calls Tryd.prog 31 #[.int .i64 d, .int .i64 n] w fun e w' => e = .returned (.tuple #[.int .i64 (D : Nat), .int .i64 0]) ∧ w = w') := Lib.hid (by
    have h := months_ok d hd n K hK (by rw [hM]; exact hKn) w L
    rw [hon] at h; exact h)
  have HK := Lib.hid (month_any D hD w L)
  rw [hmD] at HK
  have HP : Hid (Calls Tryd.prog 31 #[.int .i64 D, .int .i64 (-n)] w fun e w' => e = .returned (.tuple #[.int .i64 (B : Nat), .int .i64 0]) ∧ w = w') := Lib.hid (by
    have h := months_ok D hD (-n) M (by omega) (by rw [hmD]; omega) w L
    rw [hB] at h; exact h)
  have n0 : -2400 < n := by omega
  have n1 : n < 2400 := by omega
  have b0 : ((B : Int) == (d : Int)) = false := by simp; omega
  have b1 : (B : Int) ≤ (d : Int) := by omega
  have b2 : (d : Int) - 3 ≤ (B : Int) := by omega
  have b3 : (28 : Int) ≤ (d : Int) - (fstN M : Int) := by omega
  have fl := fst_le (m := M) (by omega)
  generalize fstN M = F at *
  generalize lngN M = N at *
  obtain ⟨s1, s2, s3⟩ := hs
  clear s1 L hM hon hmD hB hb0 hb1 hb2 hb3
  have t1 : (F : Int) ≤ (d : Int) := by omega
  have t2 : (d : Int) ≤ (F : Int) + N - 1 := by omega
  subst hm
  go_enter Tryd.func10, Tryd.ntmps10
  go_wp2_with fail
  refine HMo.out.mono ?_
  rintro e w1 ⟨rfl, rfl⟩
  go_wp2_with fail
  refine HBd.out.mono ?_
  rintro e w1 ⟨rfl, rfl⟩
  go_wp2_with fail
  refine HB2.out.mono ?_
  rintro e w1 ⟨rfl, rfl⟩
  go_wp2_with fail
  refine HO.out.mono ?_
  rintro e w1 ⟨rfl, rfl⟩
  go_wp2_with fail
  refine HK.out.mono ?_
  rintro e w1 ⟨rfl, rfl⟩
  go_wp2_with fail
  refine HP.out.mono ?_
  rintro e w1 ⟨rfl, rfl⟩
  go_wp2_with fail
  refine HA.out.mono ?_
  rintro e w2 ⟨rfl, hb⟩
  have HB := Lib.hid hb
  clear hb
  go_wp2_with fail
  go_ret
  exact ⟨rfl, HB.out⟩

set_option maxHeartbeats 2000000 in
set_option maxRecDepth 100000 in
theorem within_b_off (d : Nat) (hd : d < 73049) (n : Int) (hn : I64d n) (M : Nat) (hM : mon d = M) (hm : M < 2399) (ho : (M : Int) + n < 0 ∨ 2400 ≤ (M : Int) + n) (w : World) (L : LenW w) :
    Calls Tryd.prog 10 #[.int .i64 d, .int .i64 n] w fun e w' => e = .returned (.bool true) ∧ Below w.heap.size w w' := by
  have HMo := Lib.hid (month_any d hd w L)
  rw [hM] at HMo
  have HBd := Lib.hid (bounds_any M (by omega) w L)
  have HA := Lib.hid (awake4_any w L)
  have f1 := mon_fst d
  have f2 := mon_long hd
  have hs := fst_step M (by omega)
  rw [hM] at f1 f2
  have HB2 : Hid (Calls Tryd.prog 30 #[.int .i64 ((M : Int) + 1)] w fun e w' => e = .returned (.tuple #[.int .i64 ((fstN M : Int) + lngN M), .int .i64 ((fstN M : Int) + lngN M + lngN (M + 1) - 1), .int .i64 0]) ∧ w = w') := Lib.hid (by
    have h := bounds_any (M + 1) (by omega) w L
    rw [hs.1, show ((fstN M + lngN M : Nat) : Int) = (fstN M : Int) + lngN M by omega] at h
    exact h)
  have HO := Lib.hid (months_no d hd n hn.1 hn.2 (by rw [hM]; exact ho) w L)
  have fl := fst_le (m := M) (by omega)
  generalize lngN (M + 1) = N1 at *
  generalize fstN M = F at *
  generalize lngN M = N at *
  obtain ⟨s1, s2, s3⟩ := hs
  clear s1 L hM ho
  have t1 : (F : Int) ≤ (d : Int) := by omega
  have t2 : (d : Int) ≤ (F : Int) + N - 1 := by omega
  have hm2 : ((M : Int) == 2399) = false := by simp; omega
  go_enter Tryd.func10, Tryd.ntmps10
  go_wp2_with fail
  refine HMo.out.mono ?_
  rintro e w1 ⟨rfl, rfl⟩
  go_wp2_with fail
  refine HBd.out.mono ?_
  rintro e w1 ⟨rfl, rfl⟩
  go_wp2_with fail
  refine HB2.out.mono ?_
  rintro e w1 ⟨rfl, rfl⟩
  go_wp2_with fail
  refine HO.out.mono ?_
  rintro e w1 ⟨rfl, rfl⟩
  go_wp2_with fail
  refine HA.out.mono ?_
  rintro e w2 ⟨rfl, hb⟩
  have HB := Lib.hid hb
  clear hb
  go_wp2_with fail
  go_ret
  exact ⟨rfl, HB.out⟩

set_option maxHeartbeats 2000000 in
set_option maxRecDepth 100000 in
theorem within_b_same (d : Nat) (hd : d < 73049) (n : Int) (hn : I64d n) (M : Nat) (hM : mon d = M) (hm : M < 2399) (K : Nat) (hK : K < 2400) (hKn : (M : Int) + n = K) (D : Nat) (hD : D < 73049) (hon : onN d K = D) (hmD : mon D = K) (B : Nat) (hB : onN D M = B) (hb0 : B = d) (w : World) (L : LenW w) :
    Calls Tryd.prog 10 #[.int .i64 d, .int .i64 n] w fun e w' => e = .returned (.bool true) ∧ Below w.heap.size w w' := by
  have HMo := Lib.hid (month_any d hd w L)
  rw [hM] at HMo
  have HBd := Lib.hid (bounds_any M (by omega) w L)
  have HA := Lib.hid (awake4_any w L)
  have f1 := mon_fst d
  have f2 := mon_long hd
  have hs := fst_step M (by omega)
  rw [hM] at f1 f2
  have HB2 : Hid (Calls Tryd.prog 30 #[.int .i64 ((M : Int) + 1)] w fun e w' => e = .returned (.tuple #[.int .i64 ((fstN M : Int) + lngN M), .int .i64 ((fstN M : Int) + lngN M + lngN (M + 1) - 1), .int .i64 0]) ∧ w = w') := Lib.hid (by
    have h := bounds_any (M + 1) (by omega) w L
    rw [hs.1, show ((fstN M + lngN M : Nat) : Int) = (fstN M : Int) + lngN M by omega] at h
    exact h)
  have HO : Hid (Calls Tryd.prog 31 #[.int .i64 d, .int .i64 n] w fun e w' => e = .returned (.tuple #[.int .i64 (D : Nat), .int .i64 0]) ∧ w = w') := Lib.hid (by
    have h := months_ok d hd n K hK (by rw [hM]; exact hKn) w L
    rw [hon] at h; exact h)
  have HK := Lib.hid (month_any D hD w L)
  rw [hmD] at HK
  have HP : Hid (Calls Tryd.prog 31 #[.int .i64 D, .int .i64 (-n)] w fun e w' => e = .returned (.tuple #[.int .i64 (B : Nat), .int .i64 0]) ∧ w = w') := Lib.hid (by
    have h := months_ok D hD (-n) M (by omega) (by rw [hmD]; omega) w L
    rw [hB] at h; exact h)
  have n0 : -2400 < n := by omega
  have n1 : n < 2400 := by omega
  rw [hb0] at HP
  have fl := fst_le (m := M) (by omega)
  generalize lngN (M + 1) = N1 at *
  generalize fstN M = F at *
  generalize lngN M = N at *
  obtain ⟨s1, s2, s3⟩ := hs
  clear s1 L hM hon hmD hB hb0
  have t1 : (F : Int) ≤ (d : Int) := by omega
  have t2 : (d : Int) ≤ (F : Int) + N - 1 := by omega
  have hm2 : ((M : Int) == 2399) = false := by simp; omega
  go_enter Tryd.func10, Tryd.ntmps10
  go_wp2_with fail
  refine HMo.out.mono ?_
  rintro e w1 ⟨rfl, rfl⟩
  go_wp2_with fail
  refine HBd.out.mono ?_
  rintro e w1 ⟨rfl, rfl⟩
  go_wp2_with fail
  refine HB2.out.mono ?_
  rintro e w1 ⟨rfl, rfl⟩
  go_wp2_with fail
  refine HO.out.mono ?_
  rintro e w1 ⟨rfl, rfl⟩
  go_wp2_with fail
  refine HK.out.mono ?_
  rintro e w1 ⟨rfl, rfl⟩
  go_wp2_with fail
  refine HP.out.mono ?_
  rintro e w1 ⟨rfl, rfl⟩
  go_wp2_with fail
  refine HA.out.mono ?_
  rintro e w2 ⟨rfl, hb⟩
  have HB := Lib.hid hb
  clear hb
  go_wp2_with fail
  go_ret
  exact ⟨rfl, HB.out⟩

set_option maxHeartbeats 2000000 in
set_option maxRecDepth 100000 in
theorem within_b_other (d : Nat) (hd : d < 73049) (n : Int) (hn : I64d n) (M : Nat) (hM : mon d = M) (hm : M < 2399) (K : Nat) (hK : K < 2400) (hKn : (M : Int) + n = K) (D : Nat) (hD : D < 73049) (hon : onN d K = D) (hmD : mon D = K) (B : Nat) (hB : onN D M = B) (hb0 : B ≠ d) (hb1 : B ≤ d) (hb2 : d ≤ B + 3) (hb3 : 28 ≤ d - fstN M) (w : World) (L : LenW w) :
    Calls Tryd.prog 10 #[.int .i64 d, .int .i64 n] w fun e w' => e = .returned (.bool true) ∧ Below w.heap.size w w' := by
  have HMo := Lib.hid (month_any d hd w L)
  rw [hM] at HMo
  have HBd := Lib.hid (bounds_any M (by omega) w L)
  have HA := Lib.hid (awake4_any w L)
  have f1 := mon_fst d
  have f2 := mon_long hd
  have hs := fst_step M (by omega)
  rw [hM] at f1 f2
  have HB2 : Hid (Calls Tryd.prog 30 #[.int .i64 ((M : Int) + 1)] w fun e w' => e = .returned (.tuple #[.int .i64 ((fstN M : Int) + lngN M), .int .i64 ((fstN M : Int) + lngN M + lngN (M + 1) - 1), .int .i64 0]) ∧ w = w') := Lib.hid (by
    have h := bounds_any (M + 1) (by omega) w L
    rw [hs.1, show ((fstN M + lngN M : Nat) : Int) = (fstN M : Int) + lngN M by omega] at h
    exact h)
  have HO : Hid (Calls Tryd.prog 31 #[.int .i64 d, .int .i64 n] w fun e w' => e = .returned (.tuple #[.int .i64 (D : Nat), .int .i64 0]) ∧ w = w') := Lib.hid (by
    have h := months_ok d hd n K hK (by rw [hM]; exact hKn) w L
    rw [hon] at h; exact h)
  have HK := Lib.hid (month_any D hD w L)
  rw [hmD] at HK
  have HP : Hid (Calls Tryd.prog 31 #[.int .i64 D, .int .i64 (-n)] w fun e w' => e = .returned (.tuple #[.int .i64 (B : Nat), .int .i64 0]) ∧ w = w') := Lib.hid (by
    have h := months_ok D hD (-n) M (by omega) (by rw [hmD]; omega) w L
    rw [hB] at h; exact h)
  have n0 : -2400 < n := by omega
  have n1 : n < 2400 := by omega
  have b0 : ((B : Int) == (d : Int)) = false := by simp; omega
  have b1 : (B : Int) ≤ (d : Int) := by omega
  have b2 : (d : Int) - 3 ≤ (B : Int) := by omega
  have b3 : (28 : Int) ≤ (d : Int) - (fstN M : Int) := by omega
  have fl := fst_le (m := M) (by omega)
  generalize lngN (M + 1) = N1 at *
  generalize fstN M = F at *
  generalize lngN M = N at *
  obtain ⟨s1, s2, s3⟩ := hs
  clear s1 L hM hon hmD hB hb0 hb1 hb2 hb3
  have t1 : (F : Int) ≤ (d : Int) := by omega
  have t2 : (d : Int) ≤ (F : Int) + N - 1 := by omega
  have hm2 : ((M : Int) == 2399) = false := by simp; omega
  go_enter Tryd.func10, Tryd.ntmps10
  go_wp2_with fail
  refine HMo.out.mono ?_
  rintro e w1 ⟨rfl, rfl⟩
  go_wp2_with fail
  refine HBd.out.mono ?_
  rintro e w1 ⟨rfl, rfl⟩
  go_wp2_with fail
  refine HB2.out.mono ?_
  rintro e w1 ⟨rfl, rfl⟩
  go_wp2_with fail
  refine HO.out.mono ?_
  rintro e w1 ⟨rfl, rfl⟩
  go_wp2_with fail
  refine HK.out.mono ?_
  rintro e w1 ⟨rfl, rfl⟩
  go_wp2_with fail
  refine HP.out.mono ?_
  rintro e w1 ⟨rfl, rfl⟩
  go_wp2_with fail
  refine HA.out.mono ?_
  rintro e w2 ⟨rfl, hb⟩
  have HB := Lib.hid hb
  clear hb
  go_wp2_with fail
  go_ret
  exact ⟨rfl, HB.out⟩

theorem within_walk (d : Int) (_ : I64d d) (n : Int) (hn : I64d n) (w : World) (L : LenW w) : Calls Tryd.prog 10 #[.int .i64 d, .int .i64 n] w fun e w' => e = .returned (.bool true) ∧ Below w.heap.size w w' := by
  by_cases h : d < 0 ∨ 73048 < d
  · exact within_no d n h w L
  · obtain ⟨d, rfl⟩ : ∃ k : Nat, d = k := ⟨d.toNat, by omega⟩
    have hd : d < 73049 := by omega
    have hml := mon_lt d
    by_cases ho : (mon d : Int) + n < 0 ∨ 2400 ≤ (mon d : Int) + n
    · by_cases hm : mon d = 2399
      · exact within_a_off d hd n hn _ rfl hm ho w L
      · exact within_b_off d hd n hn _ rfl (by omega) ho w L
    · obtain ⟨K, hK⟩ : ∃ K : Nat, (mon d : Int) + n = K := ⟨((mon d : Int) + n).toNat, by omega⟩
      obtain ⟨D, h1, h2, h3, B, h4, h5, h6, h7⟩ := on_back hd (K := K) (by omega)
      rcases h7 with h7 | ⟨h7, h8⟩
      · by_cases hm : mon d = 2399
        · exact within_a_same d hd n hn _ rfl hm K (by omega) hK D h1 h2 h3 B h4 h7 w L
        · exact within_b_same d hd n hn _ rfl (by omega) K (by omega) hK D h1 h2 h3 B h4 h7 w L
      · by_cases hm : mon d = 2399
        · exact within_a_other d hd n hn _ rfl hm K (by omega) hK D h1 h2 h3 B h4 h7 h5 h6 h8 w L
        · exact within_b_other d hd n hn _ rfl (by omega) K (by omega) hK D h1 h2 h3 B h4 h7 h5 h6 h8 w L

end Go.Proofs.YtfeaopaglhlojaaDoor

/-
  Package days: Months, dateOf, Date: what they answer.
-/
import Derived.Test.YtfeaopaglhlojaaDoorDayC
namespace Go.Proofs.YtfeaopaglhlojaaDoor
open Go.RowKit Go.Lib
set_option linter.unusedVariables false

theorem below_new (w : World) (o : Obj) : Below w.heap.size w (w.alloc o) := Below.alloc (Below.refl _ _) (Nat.le_refl _) _
theorem bel_on {w w1 w2 : World} (h : Below w.heap.size w w1) (h' : Below w1.heap.size w1 w2) : Below w.heap.size w w2 := h.trans (h'.mono h.size)

theorem ret_date {a b c a' b' c' : Int} {x : Value} (h : a = a') (h' : b = b') (h2 : c = c') : Ending.returned (.tuple #[.agg #[.int .i64 a, .int .i64 b, .int .i64 c], x]) = .returned (.tuple #[.agg #[.int .i64 a', .int .i64 b', .int .i64 c'], x]) := by rw [h, h', h2]

set_option maxHeartbeats 1000000 in
set_option maxRecDepth 100000 in
theorem dateOf_any (d : Nat) (hd : d < 73049) (w : World) (L : LenW w) : Calls Tryd.prog 45 #[.int .i64 d] w fun e w' => e = .returned (.tuple #[.agg #[.int .i64 (yrN d), .int .i64 (moN d), .int .i64 (daN d)], .int .i64 0]) ∧ Below w.heap.size w w' := by
  have L1 := L.keep (below_new w (.cells #[.int .i64 0, .int .i64 0, .int .i64 0] 79))
  have HM := Lib.hid (month_any d hd _ L1)
  have HC := Lib.hid (first_any (mon d) (by have := mon_lt d; omega) _ L1)
  obtain ⟨q, hq⟩ : ∃ q, q = mon d / 12 := ⟨_, rfl⟩
  obtain ⟨k, hk⟩ : ∃ k, k = mon d % 12 := ⟨_, rfl⟩
  have h1 : (mon d : Int).tdiv 12 = (q : Int) := by rw [ediv_of (by omega)]; omega
  have h2 : (mon d : Int).tmod 12 = (k : Int) := by rw [Int.tmod_eq_emod_of_nonneg (by omega)]; omega
  have hm := mon_lt d
  have hf := mon_fst d
  have HY : Hid (yrN d = 2000 + q) := Lib.hid (by unfold yrN; rw [hq])
  have HMo : Hid (moN d = k + 1) := Lib.hid (by unfold moN; rw [hk])
  have HD : Hid (daN d = d - fstN (mon d) + 1) := Lib.hid rfl
  have q1 : q ≤ 200 := by omega
  have k1 : k ≤ 12 := by omega
  generalize fstN (mon d) = F at *
  generalize mon d = M at *
  generalize yrN d = Y at *
  generalize moN d = Mo at *
  generalize daN d = Da at *
  clear L L1 hq hk
  go_enter Tryd.func45, Tryd.ntmps45
  go_wp2_with fail
  refine HM.out.mono ?_
  rintro e w1 ⟨rfl, rfl⟩
  go_wp2_with fail
  refine HC.out.mono ?_
  rintro e w1 ⟨rfl, rfl⟩
  go_wp2_with fail
  refine bodyPost_ret (v := .tuple #[.agg #[.int .i64 (2000 + q), .int .i64 ((k : Int) + 1), .int .i64 ((d : Int) - F + 1)], .int .i64 0]) (by simp [results, Tryd.results45, go_sem]) rfl ⟨?_, below_new w _⟩
  rw [HY.out, HMo.out, HD.out]
  exact ret_date (by omega) (by omega) (by omega)
theorem dateOf_no (d : Int) (h : d < 0 ∨ 73048 < d) (w : World) : Calls Tryd.prog 45 #[.int .i64 d] w fun e w' => e = .returned (.tuple #[.agg #[.int .i64 0, .int .i64 0, .int .i64 0], .int .i64 18]) ∧ Below w.heap.size w w' := by
  have HM := Lib.hid (fun w => month_no d h w)
  clear h
  go_enter Tryd.func45, Tryd.ntmps45
  go_wp2_with fail
  refine (HM.out _).mono ?_
  rintro e w1 ⟨rfl, rfl⟩
  go_wp2_with fail
  exact bodyPost_ret (v := .tuple #[.agg #[.int .i64 0, .int .i64 0, .int .i64 0], .int .i64 18]) (by simp [results, Tryd.results45, go_sem]) rfl ⟨rfl, below_new w _⟩

set_option maxHeartbeats 1000000 in
set_option maxRecDepth 100000 in
theorem date_any (d : Nat) (hd : d < 73049) (w : World) (L : LenW w) : Calls Tryd.prog 18 #[.int .i64 d] w fun e w' => e = .returned (.tuple #[.int .i64 (yrN d), .int .i64 (moN d), .int .i64 (daN d), .int .i64 0]) ∧ Below w.heap.size w w' := by
  have HM := Lib.hid (dateOf_any d hd w L)
  generalize yrN d = Y at *
  generalize moN d = Mo at *
  generalize daN d = Da at *
  clear L
  go_enter Tryd.func18, Tryd.ntmps18
  go_wp2_with fail
  refine HM.out.mono ?_
  rintro e w1 ⟨rfl, hb⟩
  have HB := Lib.hid hb
  clear hb
  go_wp2_with fail
  go_quiet (fail)
  go_wp2_with fail
  exact bodyPost_ret (v := .tuple #[.int .i64 Y, .int .i64 Mo, .int .i64 Da, .int .i64 0]) (by simp [results, Tryd.results18, go_sem]) rfl ⟨rfl, bel_on (bel_on HB.out (below_new w1 _)) (below_drew _ nq)⟩
theorem date_no (d : Int) (h : d < 0 ∨ 73048 < d) (w : World) : Calls Tryd.prog 18 #[.int .i64 d] w fun e w' => e = .returned (.tuple #[.int .i64 0, .int .i64 0, .int .i64 0, .int .i64 18]) ∧ Below w.heap.size w w' := by
  have HM := Lib.hid (dateOf_no d h w)
  clear h
  go_enter Tryd.func18, Tryd.ntmps18
  go_wp2_with fail
  refine HM.out.mono ?_
  rintro e w1 ⟨rfl, hb⟩
  have HB := Lib.hid hb
  clear hb
  go_wp2_with fail
  go_quiet (fail)
  go_wp2_with fail
  exact bodyPost_ret (v := .tuple #[.int .i64 0, .int .i64 0, .int .i64 0, .int .i64 18]) (by simp [results, Tryd.results18, go_sem]) rfl ⟨rfl, bel_on (bel_on HB.out (below_new w1 _)) (below_drew _ nq)⟩

/-- What Months answers. -/
def onN (d k : Nat) : Int := min ((fstN k : Int) + d - fstN (mon d)) ((fstN k : Int) + lngN k - 1)
set_option maxHeartbeats 1000000 in
set_option maxRecDepth 100000 in
theorem months_ok (d : Nat) (hd : d < 73049) (n : Int) (k : Nat) (hk : k < 2400) (hn : (mon d : Int) + n = k) (w : World) (L : LenW w) :
    Calls Tryd.prog 31 #[.int .i64 d, .int .i64 n] w fun e w' => e = .returned (.tuple #[.int .i64 (onN d k), .int .i64 0]) ∧ w = w' := by
  have HM := Lib.hid (month_any d hd w L)
  have HBn := Lib.hid (bounds_any k hk w L)
  have HF := Lib.hid (first_any (mon d) (by have := mon_lt d; omega) w L)
  have h1 := fst_le (m := k) (by omega)
  have h2 := fst_le (m := mon d) (by have := mon_lt d; omega)
  have h3 := (fst_step k hk).2
  have HO : Hid (onN d k = min ((fstN k : Int) + d - fstN (mon d)) ((fstN k : Int) + lngN k - 1)) := Lib.hid rfl
  generalize onN d k = R at *
  generalize fstN (mon d) = F at *
  generalize mon d = M at *
  generalize fstN k = G at *
  generalize lngN k = N at *
  obtain ⟨h4, h5⟩ := h3
  clear L
  go_enter Tryd.func31, Tryd.ntmps31
  go_wp2_with fail
  refine HM.out.mono ?_
  rintro e w1 ⟨rfl, rfl⟩
  go_wp2_with fail
  refine HBn.out.mono ?_
  rintro e w1 ⟨rfl, rfl⟩
  go_wp2_with fail
  refine HF.out.mono ?_
  rintro e w1 ⟨rfl, rfl⟩
  go_wp2_with fail
  all_goals go_ret2
  all_goals exact ⟨ret_i2 (by rw [HO.out]; omega) rfl, rfl⟩
theorem months_bad (d : Int) (h : d < 0 ∨ 73048 < d) (n : Int) (w : World) :
    Calls Tryd.prog 31 #[.int .i64 d, .int .i64 n] w fun e w' => e = .returned (.tuple #[.int .i64 0, .int .i64 18]) ∧ w = w' := by
  have HM := Lib.hid (month_no d h w)
  clear h
  go_enter Tryd.func31, Tryd.ntmps31
  go_wp2_with fail
  refine HM.out.mono ?_
  rintro e w1 ⟨rfl, rfl⟩
  go_wp2_with fail
  go_ret2
  exact ⟨rfl, rfl⟩
set_option maxHeartbeats 1000000 in
set_option maxRecDepth 100000 in
theorem months_no (d : Nat) (hd : d < 73049) (n : Int) (h0 : -9223372036854775808 ≤ n) (h1 : n ≤ 9223372036854775807) (hn : (mon d : Int) + n < 0 ∨ 2400 ≤ (mon d : Int) + n) (w : World) (L : LenW w) :
    Calls Tryd.prog 31 #[.int .i64 d, .int .i64 n] w fun e w' => e = .returned (.tuple #[.int .i64 0, .int .i64 18]) ∧ w = w' := by
  have HM := Lib.hid (month_any d hd w L)
  have hm := mon_lt d
  generalize mon d = M at *
  have HBn := Lib.hid (bounds_no (wrap64 ((M : Int) + n)) (by unfold wrap64; omega) w)
  clear L hn
  obtain ⟨S, hS⟩ : ∃ S, S = wrap64 ((M : Int) + n) := ⟨_, rfl⟩
  have hS' := hS.symm
  rw [hS'] at HBn
  clear hS
  go_enter Tryd.func31, Tryd.ntmps31
  go_wp2_with fail
  refine HM.out.mono ?_
  rintro e w1 ⟨rfl, rfl⟩
  go_wp2_with fail
  refine HBn.out.mono ?_
  rintro e w1 ⟨rfl, rfl⟩
  go_wp2_with fail
  go_ret2
  exact ⟨rfl, rfl⟩

end Go.Proofs.YtfeaopaglhlojaaDoor

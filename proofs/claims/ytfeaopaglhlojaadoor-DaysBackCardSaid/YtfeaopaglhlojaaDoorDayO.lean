/-
  chattelref04: Next: what it answers; chattellaw04.DaysBack's walk.
-/
import Derived.Test.YtfeaopaglhlojaaDoorDayJ
import Derived.Test.YtfeaopaglhlojaaDoorDayN
import Derived.Lib.Strings
namespace Go.Proofs.YtfeaopaglhlojaaDoor
open Go.RowKit Go.Lib
set_option linter.unusedVariables false

/-- What Next's two blocks hold. -/
theorem two_blocks (w : World) (x y z : Value) (t t' : TypeId) (n : Nat) : ∃ W, W = ((w.alloc (.cells #[x, y, z] t)).alloc (.cells #[.int .i64 0, .int .i64 0, .int .i64 0] t')).drewN n ∧ Below w.heap.size w W ∧
    (W.cell? ⟨w.heap.size, 0, none⟩ = some x ∧ W.cell? ⟨w.heap.size, 1, none⟩ = some y ∧ W.cell? ⟨w.heap.size, 2, none⟩ = some z) ∧
    (∀ i, i < 3 → W.cell? ⟨w.heap.size + 1, i, none⟩ = some (.int .i64 0)) ∧ (∀ i, i < 3 → W.frozen? ⟨w.heap.size, i, none⟩ = false) ∧ (∀ i, i < 3 → W.frozen? ⟨w.heap.size + 1, i, none⟩ = false) := by
  have z : (w.alloc (.cells #[x, y, z] t)).heap.size = w.heap.size + 1 := by simp
  refine ⟨_, rfl, bel_on (bel_on (below_new w _) (below_new _ _)) (below_drew _ n), box3 (bel_on (below_new _ _) (below_drew _ n)), fun i hi => ?_, fun i hi => ?_, fun i hi => ?_⟩
  · show ((w.alloc (.cells #[x, y, _] t)).alloc (.cells #[.int .i64 0, .int .i64 0, .int .i64 0] t')).cell? _ = _
    rw [← z, World.cell?_alloc_at _ _ _ _ rfl]
    match i, hi with
    | 0, _ => rfl
    | 1, _ => rfl
    | 2, _ => rfl
  · show ((w.alloc (.cells #[x, y, _] t)).alloc (.cells #[.int .i64 0, .int .i64 0, .int .i64 0] t')).frozen? _ = _
    rw [World.frozen?_alloc_past _ _ _ (by rw [z]; exact Nat.lt_succ_self _)]
    exact World.frozen?_alloc_at _ _ _ _ rfl
  · show ((w.alloc (.cells #[x, y, _] t)).alloc (.cells #[.int .i64 0, .int .i64 0, .int .i64 0] t')).frozen? _ = _
    exact World.frozen?_alloc_at _ _ _ _ z.symm

set_option maxHeartbeats 1000000 in
set_option maxRecDepth 100000 in
theorem next_1 (y m d : Nat) (h0 : y ≤ 3000) (h1 : 1 ≤ m) (h2 : m ≤ 12) (h3 : d ≤ 100) (h : d + 1 ≤ longN y m) (w : World) : Calls Tryd.prog 33 #[.agg #[.int .i64 y, .int .i64 m, .int .i64 d]] w fun e w' => e = .returned (.agg #[.int .i64 (y : Nat), .int .i64 (m : Nat), .int .i64 ((d : Int) + 1)]) ∧ Below w.heap.size w w' := by
  have HL := Lib.hid (fun w => long_any y m (by omega) (by omega) (by omega) w)
  generalize longN y m = N at *
  have g0 : decide ((N : Int) < (d : Int) + 1) = false := decide_eq_false (by omega)
  have g1 : ¬ (12 : Int) < (m : Int) := by omega
  go_enter Tryd.func33, Tryd.ntmps33
  go_wp2_with fail
  go_quiet ((go_at_call 46; with_reducible refine Calls.quiet_of_same (HL.out _)))
  obtain ⟨W, hW, hbel, ⟨c0, c1, c2⟩, hr, hf, hg⟩ := two_blocks w (.int .i64 y) (.int .i64 (m : Nat)) (.int .i64 ((d : Int) + 1)) 43 43 nq
  rw [← hW]
  have r0 := hr 0 (by omega)
  have r1 := hr 1 (by omega)
  have r2 := hr 2 (by omega)
  have f0 := hf 0 (by omega)
  have f1 := hf 1 (by omega)
  have f2 := hf 2 (by omega)
  have e0 := hg 0 (by omega)
  have e1 := hg 1 (by omega)
  have e2 := hg 2 (by omega)
  have HB := Lib.hid hbel
  clear hW hr hf hg hbel
  go_wp2_with fail
  refine bodyPost_ret (v := .agg #[.int .i64 (y : Nat), .int .i64 (m : Nat), .int .i64 ((d : Int) + 1)]) (by simp [results, Tryd.results33, go_sem, r0, r1, r2]) rfl ⟨rfl, ?_⟩
  have ha : w.heap.size ≤ w.heap.size := Nat.le_refl _
  have hb : w.heap.size ≤ w.heap.size + 1 := Nat.le_succ _
  repeat (first | exact HB.out | refine Below.setCell ?_ ha _ | refine Below.setCell ?_ hb _)

set_option maxHeartbeats 1000000 in
set_option maxRecDepth 100000 in
theorem next_2 (y m d : Nat) (h0 : y ≤ 3000) (h1 : 1 ≤ m) (h2 : m ≤ 12) (h3 : d ≤ 100) (h : longN y m < d + 1) (hm : m < 12) (w : World) : Calls Tryd.prog 33 #[.agg #[.int .i64 y, .int .i64 m, .int .i64 d]] w fun e w' => e = .returned (.agg #[.int .i64 (y : Nat), .int .i64 ((m : Int) + 1), .int .i64 1]) ∧ Below w.heap.size w w' := by
  have HL := Lib.hid (fun w => long_any y m (by omega) (by omega) (by omega) w)
  generalize longN y m = N at *
  have g0 : (N : Int) < (d : Int) + 1 := by omega
  have g1 : ¬ (12 : Int) < (m : Int) + 1 := by omega
  go_enter Tryd.func33, Tryd.ntmps33
  go_wp2_with fail
  go_quiet ((go_at_call 46; with_reducible refine Calls.quiet_of_same (HL.out _)))
  obtain ⟨W, hW, hbel, ⟨c0, c1, c2⟩, hr, hf, hg⟩ := two_blocks w (.int .i64 y) (.int .i64 (m : Nat)) (.int .i64 ((d : Int) + 1)) 43 43 nq
  rw [← hW]
  have r0 := hr 0 (by omega)
  have r1 := hr 1 (by omega)
  have r2 := hr 2 (by omega)
  have f0 := hf 0 (by omega)
  have f1 := hf 1 (by omega)
  have f2 := hf 2 (by omega)
  have e0 := hg 0 (by omega)
  have e1 := hg 1 (by omega)
  have e2 := hg 2 (by omega)
  have HB := Lib.hid hbel
  clear hW hr hf hg hbel
  go_wp2_with fail
  refine bodyPost_ret (v := .agg #[.int .i64 (y : Nat), .int .i64 ((m : Int) + 1), .int .i64 1]) (by simp [results, Tryd.results33, go_sem, r0, r1, r2]) rfl ⟨rfl, ?_⟩
  have ha : w.heap.size ≤ w.heap.size := Nat.le_refl _
  have hb : w.heap.size ≤ w.heap.size + 1 := Nat.le_succ _
  repeat (first | exact HB.out | refine Below.setCell ?_ ha _ | refine Below.setCell ?_ hb _)

set_option maxHeartbeats 1000000 in
set_option maxRecDepth 100000 in
theorem next_3 (y m d : Nat) (h0 : y ≤ 3000) (h1 : 1 ≤ m) (h2 : m ≤ 12) (h3 : d ≤ 100) (h : longN y m < d + 1) (hm : m = 12) (w : World) : Calls Tryd.prog 33 #[.agg #[.int .i64 y, .int .i64 m, .int .i64 d]] w fun e w' => e = .returned (.agg #[.int .i64 ((y : Int) + 1), .int .i64 1, .int .i64 1]) ∧ Below w.heap.size w w' := by
  have HL := Lib.hid (fun w => long_any y m (by omega) (by omega) (by omega) w)
  generalize longN y m = N at *
  have g0 : (N : Int) < (d : Int) + 1 := by omega
  have g1 : (12 : Int) < (m : Int) + 1 := by omega
  clear hm
  go_enter Tryd.func33, Tryd.ntmps33
  go_wp2_with fail
  go_quiet ((go_at_call 46; with_reducible refine Calls.quiet_of_same (HL.out _)))
  obtain ⟨W, hW, hbel, ⟨c0, c1, c2⟩, hr, hf, hg⟩ := two_blocks w (.int .i64 y) (.int .i64 (m : Nat)) (.int .i64 ((d : Int) + 1)) 43 43 nq
  rw [← hW]
  have r0 := hr 0 (by omega)
  have r1 := hr 1 (by omega)
  have r2 := hr 2 (by omega)
  have f0 := hf 0 (by omega)
  have f1 := hf 1 (by omega)
  have f2 := hf 2 (by omega)
  have e0 := hg 0 (by omega)
  have e1 := hg 1 (by omega)
  have e2 := hg 2 (by omega)
  have HB := Lib.hid hbel
  have x1 : ((W.setCell ⟨w.heap.size, 2, none⟩ (.int .i64 1)).setCell ⟨w.heap.size, 1, none⟩ (.int .i64 ((m : Int) + 1))).cell? ⟨w.heap.size, 1, none⟩ = some (.int .i64 ((m : Int) + 1)) := cell_here ((cell_far (Or.inr (by decide))).trans c1)
  have x2 : (((W.setCell ⟨w.heap.size, 2, none⟩ (.int .i64 1)).setCell ⟨w.heap.size, 1, none⟩ (.int .i64 ((m : Int) + 1))).setCell ⟨w.heap.size, 1, none⟩ (.int .i64 1)).cell? ⟨w.heap.size, 1, none⟩ = some (.int .i64 1) := cell_here x1
  clear hW hr hf hg hbel
  go_wp2_with fail
  obtain ⟨V, hV⟩ : ∃ V, V = ((((W.setCell ⟨w.heap.size, 2, none⟩ (.int .i64 1)).setCell ⟨w.heap.size, 1, none⟩ (.int .i64 ((m : Int) + 1))).setCell ⟨w.heap.size, 1, none⟩ (.int .i64 1)).setCell ⟨w.heap.size, 0, none⟩ (.int .i64 ((y : Int) + 1))) := ⟨_, rfl⟩
  have hfar : ∀ i, V.cell? ⟨w.heap.size + 1, i, none⟩ = W.cell? ⟨w.heap.size + 1, i, none⟩ := fun i => by
    rw [hV, cell_far (Or.inl (by omega)), cell_far (Or.inl (by omega)), cell_far (Or.inl (by omega)), cell_far (Or.inl (by omega))]
  have HBV : Hid (Below w.heap.size w V) := Lib.hid (by rw [hV]; exact Below.setCell (Below.setCell (Below.setCell (Below.setCell HB.out (Nat.le_refl _) _) (Nat.le_refl _) _) (Nat.le_refl _) _) (Nat.le_refl _) _)
  rw [← hV]
  have s0 := (hfar 0).trans r0
  have s1 := (hfar 1).trans r1
  have s2 := (hfar 2).trans r2
  clear hfar hV x1 x2 r0 r1 r2 HB c0 c1 c2 e0 e1 e2 f0 f1 f2
  have r0 := s0
  have r1 := s1
  have r2 := s2
  have HB := HBV
  clear s0 s1 s2
  refine bodyPost_ret (v := .agg #[.int .i64 ((y : Int) + 1), .int .i64 1, .int .i64 1]) (by simp [results, Tryd.results33, go_sem, r0, r1, r2]) rfl ⟨rfl, ?_⟩
  have ha : w.heap.size ≤ w.heap.size := Nat.le_refl _
  have hb : w.heap.size ≤ w.heap.size + 1 := Nat.le_succ _
  repeat (first | exact HB.out | refine Below.setCell ?_ ha _ | refine Below.setCell ?_ hb _)

theorem date_next {d : Nat} (h : d < 73048) : (daN d + 1 ≤ lngN (mon d) → yrN (d + 1) = yrN d ∧ moN (d + 1) = moN d ∧ daN (d + 1) = daN d + 1) ∧
    (lngN (mon d) < daN d + 1 → (moN d < 12 → yrN (d + 1) = yrN d ∧ moN (d + 1) = moN d + 1 ∧ daN (d + 1) = 1) ∧ (moN d = 12 → yrN (d + 1) = yrN d + 1 ∧ moN (d + 1) = 1 ∧ daN (d + 1) = 1)) := by
  have a := mon_fst d
  have b := mon_long (d := d) (by omega)
  have c := mon_lt d
  have hs := fst_step _ c
  constructor
  · intro h1
    unfold daN at h1
    have e : mon (d + 1) = mon d := mon_in c (by omega) (by omega)
    unfold yrN moN daN
    rw [e]
    exact ⟨rfl, rfl, by omega⟩
  · intro h1
    unfold daN at h1
    have hm : mon d + 1 < 2400 := by
      rcases Nat.lt_or_ge (mon d + 1) 2400 with g | g
      · exact g
      · have hm : mon d = 2399 := by omega
        have e1 : fstN (mon d + 1) = 73049 := by rw [show mon d + 1 = 2400 by omega]; exact fst_end
        have := hs.1
        omega
    have hs2 := fst_step _ hm
    have e : mon (d + 1) = mon d + 1 := mon_in hm (by omega) (by omega)
    unfold yrN moN daN
    rw [e]
    exact ⟨fun h2 => ⟨by omega, by omega, by omega⟩, fun h2 => ⟨by omega, by omega, by omega⟩⟩
theorem nextr_any (d : Nat) (hd : d < 73048) (w : World) : Calls Tryd.prog 33 #[.agg #[.int .i64 (yrN d), .int .i64 (moN d), .int .i64 (daN d)]] w fun e w' => e = .returned (.agg #[.int .i64 (yrN (d + 1)), .int .i64 (moN (d + 1)), .int .i64 (daN (d + 1))]) ∧ Below w.heap.size w w' := by
  have hml := mon_lt d
  have hlong : longN (yrN d) (moN d) = lngN (mon d) := rfl
  have hs := (fst_step _ hml).2
  have hb := mon_long (d := d) (by omega)
  have g0 : yrN d ≤ 3000 := by unfold yrN; omega
  have g1 : 1 ≤ moN d := by unfold moN; omega
  have g2 : moN d ≤ 12 := by unfold moN; omega
  have g3 : daN d ≤ 100 := by unfold daN; omega
  obtain ⟨h1, h2⟩ := date_next hd
  by_cases c : daN d + 1 ≤ lngN (mon d)
  · obtain ⟨e1, e2, e3⟩ := h1 c
    rw [e1, e2, e3]
    exact next_1 _ _ _ g0 g1 g2 g3 (by rw [hlong]; exact c) w
  · by_cases c2 : moN d < 12
    · obtain ⟨e1, e2, e3⟩ := (h2 (by omega)).1 c2
      rw [e1, e2, e3]
      exact next_2 _ _ _ g0 g1 g2 g3 (by rw [hlong]; omega) c2 w
    · obtain ⟨e1, e2, e3⟩ := (h2 (by omega)).2 (by omega)
      rw [e1, e2, e3]
      exact next_3 _ _ _ g0 g1 g2 g3 (by rw [hlong]; omega) (by omega) w
theorem nextr_end (w : World) : Calls Tryd.prog 33 #[.agg #[.int .i64 (yrN 73048), .int .i64 (moN 73048), .int .i64 (daN 73048)]] w fun e w' => e = .returned (.agg #[.int .i64 2200, .int .i64 1, .int .i64 1]) ∧ Below w.heap.size w w' := by
  rw [show yrN 73048 = 2199 by unfold yrN; rw [mon_end], show moN 73048 = 12 by unfold moN; rw [mon_end], show daN 73048 = 31 by unfold daN; rw [mon_end]; decide +kernel]
  exact next_3 2199 12 31 (by decide) (by decide) (by decide) (by decide) (by decide +kernel) rfl w

/-- A day's text, read. -/
theorem par_day {d : Nat} (h : d < 73049) : parN (dayL (yrN d) (moN d) (daN d)) = ((d : Int), 0) := by
  obtain ⟨h1, h2⟩ := date_is h
  have hml := mon_lt d
  have hs := (fst_step _ hml).2
  have hb := mon_long h
  obtain ⟨e0, e1, e2, e3⟩ := form_day (y := yrN d) (m := moN d) (d := daN d) (by unfold yrN; omega) (by unfold moN; omega) (by unfold daN; omega)
  unfold parN
  rw [if_pos e0, e1, e2, e3, if_pos h1, h2]
/-- A text that is a day's, written again. -/
theorem par_back {l : List UInt8} {v : Int} (h : parN l = (v, 0)) : ∃ N : Nat, N < 73049 ∧ v = N ∧ dayL (yrN N) (moN N) (daN N) = l := by
  unfold parN at h
  by_cases hf : formB l = true
  · rw [if_pos hf] at h
    by_cases hi : IsDate (yOf l) (mOf l) (dOf l)
    · rw [if_pos hi] at h
      obtain ⟨e0, e1, e2, e3⟩ := day_date hi
      refine ⟨_, e0, (Prod.mk.inj h).1.symm, ?_⟩
      rw [show yrN (dayN (yOf l) (mOf l) (dOf l)) = yOf l by omega, show moN (dayN (yOf l) (mOf l) (dOf l)) = mOf l by omega, show daN (dayN (yOf l) (mOf l) (dOf l)) = dOf l by omega]
      exact day_form hf
    · rw [if_neg hi] at h; have := (Prod.mk.inj h).2; omega
  · rw [if_neg hf] at h; have := (Prod.mk.inj h).2; omega
theorem parse_l (l : List UInt8) (hm : l.length ≤ 1000) (w : World) (L : LenW w) :
    Calls Tryd.prog 26 #[.string ⟨l.toArray⟩] w fun e w' => e = .returned (.tuple #[.int .i64 (parN l).1, .int .i64 (parN l).2]) ∧ Below w.heap.size w w' :=
  parse_any ⟨l.toArray⟩ (by rw [size_len]; show l.length ≤ _; omega) w L

set_option maxHeartbeats 1000000 in
set_option maxRecDepth 100000 in
theorem back_long (d : Int) (l : List UInt8) (h : 40 < l.length) (w : World) (L : LenW w) : Calls Tryd.prog 9 #[.int .i64 d, .string ⟨l.toArray⟩] w fun e w' => e = .returned (.bool true) ∧ Below w.heap.size w w' := by
  have HA := Lib.hid (awake4_any w L)
  have h1 : (40 : Int) < (l.length : Int) := by omega
  clear L
  go_enter Tryd.func9, Tryd.ntmps9
  go_wp2_with fail
  refine HA.out.mono ?_
  rintro e w1 ⟨rfl, hb1⟩
  go_wp2_with fail
  go_ret
  exact ⟨rfl, hb1⟩

set_option maxHeartbeats 2000000 in
set_option maxRecDepth 100000 in
theorem back_ok_no (l : List UInt8) (h : ¬ 40 < l.length) (d : Int) (hd : d < 0 ∨ 73048 < d) (N : Nat) (hN : N < 73049) (hp : parN l = ((N : Int), 0)) (hl : dayL (yrN N) (moN N) (daN N) = l) (w : World) (L : LenW w) : Calls Tryd.prog 9 #[.int .i64 d, .string ⟨l.toArray⟩] w fun e w' => e = .returned (.bool true) ∧ Below w.heap.size w w' := by
  have HL := Lib.hid L
  have HA := Lib.hid (fun w L => awake4_any w L)
  have h1 : ¬ (40 : Int) < (l.length : Int) := by omega
  have hlb : l.length ≤ 40 := by omega
  have HP := Lib.hid (parse_l l (by omega) w L)
  rw [hp] at HP
  have HPr := Lib.hid (fun w L => print_any N hN w L)
  rw [hl] at HPr
  clear hl hN hp
  have HD := Lib.hid (fun w (_ : LenW w) => date_no d hd w)
  have HR := Lib.hid (fun w => right_no d w hd)
  clear hd
  clear L h
  go_enter Tryd.func9, Tryd.ntmps9
  go_wp2_with fail
  refine HP.out.mono ?_
  rintro e w1 ⟨rfl, hb⟩
  have B1 := Lib.hid hb
  have L1 := Lib.hid (HL.out.keep hb)
  clear hb
  go_wp2_with fail
  refine (HPr.out _ L1.out).mono ?_
  rintro e w2 ⟨rfl, hb⟩
  have B2 := Lib.hid (bel_on B1.out hb)
  have L2 := Lib.hid (L1.out.keep hb)
  clear hb
  go_wp2_with fail
  refine (HD.out _ L2.out).mono ?_
  rintro e w3 ⟨rfl, hb⟩
  have B3 := Lib.hid (bel_on B2.out hb)
  have L3 := Lib.hid (L2.out.keep hb)
  clear hb
  go_wp2_with fail
  refine (HR.out _).mono ?_
  rintro e w9 ⟨rfl, rfl⟩
  go_wp2_with fail
  refine (HA.out _ L3.out).mono ?_
  rintro e w4 ⟨rfl, hb⟩
  have B4 := Lib.hid (bel_on B3.out hb)
  have L4 := Lib.hid (L3.out.keep hb)
  clear hb
  go_wp2_with fail
  go_ret
  exact ⟨rfl, B4.out⟩

set_option maxHeartbeats 2000000 in
set_option maxRecDepth 100000 in
theorem back_ok_end (l : List UInt8) (h : ¬ 40 < l.length) (N : Nat) (hN : N < 73049) (hp : parN l = ((N : Int), 0)) (hl : dayL (yrN N) (moN N) (daN N) = l) (w : World) (L : LenW w) : Calls Tryd.prog 9 #[.int .i64 73048, .string ⟨l.toArray⟩] w fun e w' => e = .returned (.bool true) ∧ Below w.heap.size w w' := by
  have HL := Lib.hid L
  have HA := Lib.hid (fun w L => awake4_any w L)
  have h1 : ¬ (40 : Int) < (l.length : Int) := by omega
  have hlb : l.length ≤ 40 := by omega
  have HP := Lib.hid (parse_l l (by omega) w L)
  rw [hp] at HP
  have HPr := Lib.hid (fun w L => print_any N hN w L)
  rw [hl] at HPr
  clear hl hN hp
  have HD := Lib.hid (fun w L => date_any 73048 (by decide) w L)
  have HY := Lib.hid (fun w L => day_yes (yrN 73048) (moN 73048) (daN 73048) (date_is (d := 73048) (by decide)).1 w L)
  rw [(date_is (d := 73048) (by decide)).2] at HY
  have HT := Lib.hid (fun w L => print_any 73048 (by decide) w L)
  have HQ := Lib.hid (fun w L => parse_l (dayL (yrN 73048) (moN 73048) (daN 73048)) (by rw [dayL_len]; omega) w L)
  rw [par_day (by decide)] at HQ
  have HD2 := Lib.hid (fun w (_ : LenW w) => date_no 73049 (by omega) w)
  have HNx := Lib.hid (fun w => nextr_end w)
  have hX := dayL_len (yrN 73048) (moN 73048) (daN 73048)
  generalize dayL (yrN 73048) (moN 73048) (daN 73048) = X at *
  generalize yrN 73048 = Y at *
  generalize moN 73048 = Mo at *
  generalize daN 73048 = Da at *
  clear L h
  go_enter Tryd.func9, Tryd.ntmps9
  go_wp2_with fail
  refine HP.out.mono ?_
  rintro e w1 ⟨rfl, hb⟩
  have B1 := Lib.hid hb
  have L1 := Lib.hid (HL.out.keep hb)
  clear hb
  go_wp2_with fail
  refine (HPr.out _ L1.out).mono ?_
  rintro e w2 ⟨rfl, hb⟩
  have B2 := Lib.hid (bel_on B1.out hb)
  have L2 := Lib.hid (L1.out.keep hb)
  clear hb
  go_wp2_with fail
  refine (HD.out _ L2.out).mono ?_
  rintro e w3 ⟨rfl, hb⟩
  have B3 := Lib.hid (bel_on B2.out hb)
  have L3 := Lib.hid (L2.out.keep hb)
  clear hb
  go_wp2_with fail
  refine (HY.out _ L3.out).mono ?_
  rintro e w4 ⟨rfl, hb⟩
  have B4 := Lib.hid (bel_on B3.out hb)
  have L4 := Lib.hid (L3.out.keep hb)
  clear hb
  go_wp2_with fail
  refine (HT.out _ L4.out).mono ?_
  rintro e w5 ⟨rfl, hb⟩
  have B5 := Lib.hid (bel_on B4.out hb)
  have L5 := Lib.hid (L4.out.keep hb)
  clear hb
  go_wp2_with fail
  refine (HQ.out _ L5.out).mono ?_
  rintro e w6 ⟨rfl, hb⟩
  have B6 := Lib.hid (bel_on B5.out hb)
  have L6 := Lib.hid (L5.out.keep hb)
  clear hb
  go_wp2_with fail
  refine (HD2.out _ L6.out).mono ?_
  rintro e w7 ⟨rfl, hb⟩
  have B7 := Lib.hid (bel_on B6.out hb)
  have L7 := Lib.hid (L6.out.keep hb)
  clear hb
  go_wp2_with fail
  refine (HNx.out _).mono ?_
  rintro e w8 ⟨rfl, hb⟩
  have B8 := Lib.hid (bel_on B7.out hb)
  have L8 := Lib.hid (L7.out.keep hb)
  clear hb
  go_wp2_with fail
  refine (HA.out _ (L8.out.keep (below_new w8 _))).mono ?_
  rintro e w9 ⟨rfl, hb⟩
  have B9 := Lib.hid (bel_on (bel_on B8.out (below_new w8 _)) hb)
  clear hb
  go_wp2_with fail
  go_ret
  exact ⟨rfl, B9.out⟩

set_option maxHeartbeats 2000000 in
set_option maxRecDepth 100000 in
theorem back_ok_on (l : List UInt8) (h : ¬ 40 < l.length) (d : Nat) (hd : d < 73048) (N : Nat) (hN : N < 73049) (hp : parN l = ((N : Int), 0)) (hl : dayL (yrN N) (moN N) (daN N) = l) (w : World) (L : LenW w) : Calls Tryd.prog 9 #[.int .i64 d, .string ⟨l.toArray⟩] w fun e w' => e = .returned (.bool true) ∧ Below w.heap.size w w' := by
  have HL := Lib.hid L
  have HA := Lib.hid (fun w L => awake4_any w L)
  have h1 : ¬ (40 : Int) < (l.length : Int) := by omega
  have hlb : l.length ≤ 40 := by omega
  have HP := Lib.hid (parse_l l (by omega) w L)
  rw [hp] at HP
  have HPr := Lib.hid (fun w L => print_any N hN w L)
  rw [hl] at HPr
  clear hl hN hp
  have HD := Lib.hid (fun w L => date_any d (by omega) w L)
  have HY := Lib.hid (fun w L => day_yes (yrN d) (moN d) (daN d) (date_is (d := d) (by omega)).1 w L)
  rw [(date_is (d := d) (by omega)).2] at HY
  have HT := Lib.hid (fun w L => print_any d (by omega) w L)
  have HQ := Lib.hid (fun w L => parse_l (dayL (yrN d) (moN d) (daN d)) (by rw [dayL_len]; omega) w L)
  rw [par_day (by omega)] at HQ
  have HD2 : Hid (∀ w, LenW w → Calls Tryd.prog 18 #[.int .i64 ((d : Int) + 1)] w fun e w' => e = .returned (.tuple #[.int .i64 (yrN (d + 1)), .int .i64 (moN (d + 1)), .int .i64 (daN (d + 1)), .int .i64 0]) ∧ Below w.heap.size w w') := Lib.hid (fun w L => date_any (d + 1) (by omega) w L)
  have HNx := Lib.hid (fun w => nextr_any d hd w)
  have hne : ((d : Int) == 73048) = false := by simp; omega
  generalize yrN (d + 1) = Y1 at *
  generalize moN (d + 1) = M1 at *
  generalize daN (d + 1) = D1 at *
  have hX := dayL_len (yrN d) (moN d) (daN d)
  generalize dayL (yrN d) (moN d) (daN d) = X at *
  generalize yrN d = Y at *
  generalize moN d = Mo at *
  generalize daN d = Da at *
  clear L h
  go_enter Tryd.func9, Tryd.ntmps9
  go_wp2_with fail
  refine HP.out.mono ?_
  rintro e w1 ⟨rfl, hb⟩
  have B1 := Lib.hid hb
  have L1 := Lib.hid (HL.out.keep hb)
  clear hb
  go_wp2_with fail
  refine (HPr.out _ L1.out).mono ?_
  rintro e w2 ⟨rfl, hb⟩
  have B2 := Lib.hid (bel_on B1.out hb)
  have L2 := Lib.hid (L1.out.keep hb)
  clear hb
  go_wp2_with fail
  refine (HD.out _ L2.out).mono ?_
  rintro e w3 ⟨rfl, hb⟩
  have B3 := Lib.hid (bel_on B2.out hb)
  have L3 := Lib.hid (L2.out.keep hb)
  clear hb
  go_wp2_with fail
  refine (HY.out _ L3.out).mono ?_
  rintro e w4 ⟨rfl, hb⟩
  have B4 := Lib.hid (bel_on B3.out hb)
  have L4 := Lib.hid (L3.out.keep hb)
  clear hb
  go_wp2_with fail
  refine (HT.out _ L4.out).mono ?_
  rintro e w5 ⟨rfl, hb⟩
  have B5 := Lib.hid (bel_on B4.out hb)
  have L5 := Lib.hid (L4.out.keep hb)
  clear hb
  go_wp2_with fail
  refine (HQ.out _ L5.out).mono ?_
  rintro e w6 ⟨rfl, hb⟩
  have B6 := Lib.hid (bel_on B5.out hb)
  have L6 := Lib.hid (L5.out.keep hb)
  clear hb
  go_wp2_with fail
  refine (HD2.out _ L6.out).mono ?_
  rintro e w7 ⟨rfl, hb⟩
  have B7 := Lib.hid (bel_on B6.out hb)
  have L7 := Lib.hid (L6.out.keep hb)
  clear hb
  go_wp2_with fail
  refine (HNx.out _).mono ?_
  rintro e w8 ⟨rfl, hb⟩
  have B8 := Lib.hid (bel_on B7.out hb)
  have L8 := Lib.hid (L7.out.keep hb)
  clear hb
  go_wp2_with fail
  refine (HA.out _ (L8.out.keep (below_new w8 _))).mono ?_
  rintro e w9 ⟨rfl, hb⟩
  have B9 := Lib.hid (bel_on (bel_on B8.out (below_new w8 _)) hb)
  clear hb
  go_wp2_with fail
  go_ret
  exact ⟨rfl, B9.out⟩

set_option maxHeartbeats 2000000 in
set_option maxRecDepth 100000 in
theorem back_bad_no (l : List UInt8) (h : ¬ 40 < l.length) (d : Int) (hd : d < 0 ∨ 73048 < d) (v c : Int) (hp : parN l = (v, c)) (hc : c ≠ 0) (w : World) (L : LenW w) : Calls Tryd.prog 9 #[.int .i64 d, .string ⟨l.toArray⟩] w fun e w' => e = .returned (.bool true) ∧ Below w.heap.size w w' := by
  have HL := Lib.hid L
  have HA := Lib.hid (fun w L => awake4_any w L)
  have h1 : ¬ (40 : Int) < (l.length : Int) := by omega
  have hlb : l.length ≤ 40 := by omega
  have HP := Lib.hid (parse_l l (by omega) w L)
  rw [hp] at HP
  have cb : (c == 0) = false := by simpa using hc
  clear hc hp
  have HD := Lib.hid (fun w (_ : LenW w) => date_no d hd w)
  have HR := Lib.hid (fun w => right_no d w hd)
  clear hd
  clear L h
  go_enter Tryd.func9, Tryd.ntmps9
  go_wp2_with fail
  refine HP.out.mono ?_
  rintro e w1 ⟨rfl, hb⟩
  have B1 := Lib.hid hb
  have L1 := Lib.hid (HL.out.keep hb)
  clear hb
  go_wp2_with fail
  refine (HD.out _ L1.out).mono ?_
  rintro e w2 ⟨rfl, hb⟩
  have B2 := Lib.hid (bel_on B1.out hb)
  have L2 := Lib.hid (L1.out.keep hb)
  clear hb
  go_wp2_with fail
  refine (HR.out _).mono ?_
  rintro e w9 ⟨rfl, rfl⟩
  go_wp2_with fail
  refine (HA.out _ L2.out).mono ?_
  rintro e w3 ⟨rfl, hb⟩
  have B3 := Lib.hid (bel_on B2.out hb)
  have L3 := Lib.hid (L2.out.keep hb)
  clear hb
  go_wp2_with fail
  go_ret
  exact ⟨rfl, B3.out⟩

set_option maxHeartbeats 2000000 in
set_option maxRecDepth 100000 in
theorem back_bad_end (l : List UInt8) (h : ¬ 40 < l.length) (v c : Int) (hp : parN l = (v, c)) (hc : c ≠ 0) (w : World) (L : LenW w) : Calls Tryd.prog 9 #[.int .i64 73048, .string ⟨l.toArray⟩] w fun e w' => e = .returned (.bool true) ∧ Below w.heap.size w w' := by
  have HL := Lib.hid L
  have HA := Lib.hid (fun w L => awake4_any w L)
  have h1 : ¬ (40 : Int) < (l.length : Int) := by omega
  have hlb : l.length ≤ 40 := by omega
  have HP := Lib.hid (parse_l l (by omega) w L)
  rw [hp] at HP
  have cb : (c == 0) = false := by simpa using hc
  clear hc hp
  have HD := Lib.hid (fun w L => date_any 73048 (by decide) w L)
  have HY := Lib.hid (fun w L => day_yes (yrN 73048) (moN 73048) (daN 73048) (date_is (d := 73048) (by decide)).1 w L)
  rw [(date_is (d := 73048) (by decide)).2] at HY
  have HT := Lib.hid (fun w L => print_any 73048 (by decide) w L)
  have HQ := Lib.hid (fun w L => parse_l (dayL (yrN 73048) (moN 73048) (daN 73048)) (by rw [dayL_len]; omega) w L)
  rw [par_day (by decide)] at HQ
  have HD2 := Lib.hid (fun w (_ : LenW w) => date_no 73049 (by omega) w)
  have HNx := Lib.hid (fun w => nextr_end w)
  have hX := dayL_len (yrN 73048) (moN 73048) (daN 73048)
  generalize dayL (yrN 73048) (moN 73048) (daN 73048) = X at *
  generalize yrN 73048 = Y at *
  generalize moN 73048 = Mo at *
  generalize daN 73048 = Da at *
  clear L h
  go_enter Tryd.func9, Tryd.ntmps9
  go_wp2_with fail
  refine HP.out.mono ?_
  rintro e w1 ⟨rfl, hb⟩
  have B1 := Lib.hid hb
  have L1 := Lib.hid (HL.out.keep hb)
  clear hb
  go_wp2_with fail
  refine (HD.out _ L1.out).mono ?_
  rintro e w2 ⟨rfl, hb⟩
  have B2 := Lib.hid (bel_on B1.out hb)
  have L2 := Lib.hid (L1.out.keep hb)
  clear hb
  go_wp2_with fail
  refine (HY.out _ L2.out).mono ?_
  rintro e w3 ⟨rfl, hb⟩
  have B3 := Lib.hid (bel_on B2.out hb)
  have L3 := Lib.hid (L2.out.keep hb)
  clear hb
  go_wp2_with fail
  refine (HT.out _ L3.out).mono ?_
  rintro e w4 ⟨rfl, hb⟩
  have B4 := Lib.hid (bel_on B3.out hb)
  have L4 := Lib.hid (L3.out.keep hb)
  clear hb
  go_wp2_with fail
  refine (HQ.out _ L4.out).mono ?_
  rintro e w5 ⟨rfl, hb⟩
  have B5 := Lib.hid (bel_on B4.out hb)
  have L5 := Lib.hid (L4.out.keep hb)
  clear hb
  go_wp2_with fail
  refine (HD2.out _ L5.out).mono ?_
  rintro e w6 ⟨rfl, hb⟩
  have B6 := Lib.hid (bel_on B5.out hb)
  have L6 := Lib.hid (L5.out.keep hb)
  clear hb
  go_wp2_with fail
  refine (HNx.out _).mono ?_
  rintro e w7 ⟨rfl, hb⟩
  have B7 := Lib.hid (bel_on B6.out hb)
  have L7 := Lib.hid (L6.out.keep hb)
  clear hb
  go_wp2_with fail
  refine (HA.out _ (L7.out.keep (below_new w7 _))).mono ?_
  rintro e w8 ⟨rfl, hb⟩
  have B8 := Lib.hid (bel_on (bel_on B7.out (below_new w7 _)) hb)
  clear hb
  go_wp2_with fail
  go_ret
  exact ⟨rfl, B8.out⟩

set_option maxHeartbeats 2000000 in
set_option maxRecDepth 100000 in
theorem back_bad_on (l : List UInt8) (h : ¬ 40 < l.length) (d : Nat) (hd : d < 73048) (v c : Int) (hp : parN l = (v, c)) (hc : c ≠ 0) (w : World) (L : LenW w) : Calls Tryd.prog 9 #[.int .i64 d, .string ⟨l.toArray⟩] w fun e w' => e = .returned (.bool true) ∧ Below w.heap.size w w' := by
  have HL := Lib.hid L
  have HA := Lib.hid (fun w L => awake4_any w L)
  have h1 : ¬ (40 : Int) < (l.length : Int) := by omega
  have hlb : l.length ≤ 40 := by omega
  have HP := Lib.hid (parse_l l (by omega) w L)
  rw [hp] at HP
  have cb : (c == 0) = false := by simpa using hc
  clear hc hp
  have HD := Lib.hid (fun w L => date_any d (by omega) w L)
  have HY := Lib.hid (fun w L => day_yes (yrN d) (moN d) (daN d) (date_is (d := d) (by omega)).1 w L)
  rw [(date_is (d := d) (by omega)).2] at HY
  have HT := Lib.hid (fun w L => print_any d (by omega) w L)
  have HQ := Lib.hid (fun w L => parse_l (dayL (yrN d) (moN d) (daN d)) (by rw [dayL_len]; omega) w L)
  rw [par_day (by omega)] at HQ
  have HD2 : Hid (∀ w, LenW w → Calls Tryd.prog 18 #[.int .i64 ((d : Int) + 1)] w fun e w' => e = .returned (.tuple #[.int .i64 (yrN (d + 1)), .int .i64 (moN (d + 1)), .int .i64 (daN (d + 1)), .int .i64 0]) ∧ Below w.heap.size w w') := Lib.hid (fun w L => date_any (d + 1) (by omega) w L)
  have HNx := Lib.hid (fun w => nextr_any d hd w)
  have hne : ((d : Int) == 73048) = false := by simp; omega
  generalize yrN (d + 1) = Y1 at *
  generalize moN (d + 1) = M1 at *
  generalize daN (d + 1) = D1 at *
  have hX := dayL_len (yrN d) (moN d) (daN d)
  generalize dayL (yrN d) (moN d) (daN d) = X at *
  generalize yrN d = Y at *
  generalize moN d = Mo at *
  generalize daN d = Da at *
  clear L h
  go_enter Tryd.func9, Tryd.ntmps9
  go_wp2_with fail
  refine HP.out.mono ?_
  rintro e w1 ⟨rfl, hb⟩
  have B1 := Lib.hid hb
  have L1 := Lib.hid (HL.out.keep hb)
  clear hb
  go_wp2_with fail
  refine (HD.out _ L1.out).mono ?_
  rintro e w2 ⟨rfl, hb⟩
  have B2 := Lib.hid (bel_on B1.out hb)
  have L2 := Lib.hid (L1.out.keep hb)
  clear hb
  go_wp2_with fail
  refine (HY.out _ L2.out).mono ?_
  rintro e w3 ⟨rfl, hb⟩
  have B3 := Lib.hid (bel_on B2.out hb)
  have L3 := Lib.hid (L2.out.keep hb)
  clear hb
  go_wp2_with fail
  refine (HT.out _ L3.out).mono ?_
  rintro e w4 ⟨rfl, hb⟩
  have B4 := Lib.hid (bel_on B3.out hb)
  have L4 := Lib.hid (L3.out.keep hb)
  clear hb
  go_wp2_with fail
  refine (HQ.out _ L4.out).mono ?_
  rintro e w5 ⟨rfl, hb⟩
  have B5 := Lib.hid (bel_on B4.out hb)
  have L5 := Lib.hid (L4.out.keep hb)
  clear hb
  go_wp2_with fail
  refine (HD2.out _ L5.out).mono ?_
  rintro e w6 ⟨rfl, hb⟩
  have B6 := Lib.hid (bel_on B5.out hb)
  have L6 := Lib.hid (L5.out.keep hb)
  clear hb
  go_wp2_with fail
  refine (HNx.out _).mono ?_
  rintro e w7 ⟨rfl, hb⟩
  have B7 := Lib.hid (bel_on B6.out hb)
  have L7 := Lib.hid (L6.out.keep hb)
  clear hb
  go_wp2_with fail
  refine (HA.out _ (L7.out.keep (below_new w7 _))).mono ?_
  rintro e w8 ⟨rfl, hb⟩
  have B8 := Lib.hid (bel_on (bel_on B7.out (below_new w7 _)) hb)
  clear hb
  go_wp2_with fail
  go_ret
  exact ⟨rfl, B8.out⟩

theorem back_walk4 (d : Int) (_ : I64d d) (s : ByteArray) (w : World) (L : LenW w) : Calls Tryd.prog 9 #[.int .i64 d, .string s] w fun e w' => e = .returned (.bool true) ∧ Below w.heap.size w w' := by
  rw [← Lib.mk_data s]
  generalize s.data.toList = l
  by_cases h : 40 < l.length
  · exact back_long d l h w L
  · by_cases hc : (parN l).2 = 0
    · obtain ⟨N, hN, hv, hl⟩ := par_back (l := l) (v := (parN l).1) (by rw [← hc])
      have hp : parN l = ((N : Int), 0) := by rw [← hv, ← hc]
      by_cases g : d < 0 ∨ 73048 < d
      · exact back_ok_no l h d g N hN hp hl w L
      · by_cases g2 : d = 73048
        · subst g2; exact back_ok_end l h N hN hp hl w L
        · obtain ⟨d, rfl⟩ : ∃ j : Nat, d = j := ⟨d.toNat, by omega⟩
          exact back_ok_on l h d (by omega) N hN hp hl w L
    · by_cases g : d < 0 ∨ 73048 < d
      · exact back_bad_no l h d g _ _ rfl hc w L
      · by_cases g2 : d = 73048
        · subst g2; exact back_bad_end l h _ _ rfl hc w L
        · obtain ⟨d, rfl⟩ : ∃ j : Nat, d = j := ⟨d.toNat, by omega⟩
          exact back_bad_on l h d (by omega) _ _ rfl hc w L

end Go.Proofs.YtfeaopaglhlojaaDoor

/-
  chattellaw13.PeriodsPart: its walk.
-/
import Derived.Test.YtjddmgmblohpaaaPdB
namespace Go.Proofs.Ytjddmgmblohpaaa
open Go.RowKit Go.Lib
set_option linter.unusedVariables false
set_option linter.unusedSimpArgs false

theorem day_in {s : Nat} {a : Int} (h1 : 1 ≤ s) : a / (s : Int) * (s : Int) ≤ a ∧ a < a / (s : Int) * (s : Int) + s := by
  have h := Int.emod_add_mul_ediv a (s : Int)
  have p0 := Int.emod_nonneg a (show (s : Int) ≠ 0 by omega)
  have p1 := Int.emod_lt_of_pos a (show (0 : Int) < (s : Int) by omega)
  rw [Int.mul_comm] at h
  omega
theorem step_le {s : Nat} {x y : Int} (h : x < y) : x * (s : Int) + s ≤ y * (s : Int) := by
  have h2 := Int.mul_le_mul_of_nonneg_right (show x + 1 ≤ y by omega) (show (0 : Int) ≤ (s : Int) by omega)
  rw [Int.add_mul, Int.one_mul] at h2
  exact h2
/-- A period that there is. -/
structure Span (s : Nat) (X m T : Int) : Prop where
  f : spF s X = m
  t : spT s X = T
  e : spE s X = 0
  m0 : 0 ≤ m
  mT : m ≤ T
  sz : T - m < s
  T0 : T ≤ 73048
  x0 : 0 ≤ X
  xL : X ≤ lastP s
  lt : X < lastP s → spE s (X + 1) = 0 ∧ spF s (X + 1) = T + 1 ∧ T - m + 1 = s
  eq : X = lastP s → spE s (X + 1) = 10 ∧ spF s (X + 1) = 0 ∧ T = 73048
theorem span_in {s : Nat} {X : Int} (h1 : 1 ≤ s) (h4 : s ≤ 400) (x0 : 0 ≤ X) (xL : X ≤ lastP s) : Span s X (X * s) (min (X * s + s - 1) 73048) := by
  obtain ⟨b0, b1⟩ := sp_bd h1 x0 xL
  have e0 : ¬ (X < 0 ∨ lastP s < X) := by omega
  have hL := day_in (s := s) (a := 73048) h1
  rw [← lastP_div] at hL
  have hm := step_le (s := s) (x := X) (y := X + 1) (by omega)
  refine ⟨by unfold spF; rw [if_neg e0], by unfold spT; rw [if_neg e0], by unfold spE; rw [if_neg e0], b0, by omega, by omega, by omega, x0, xL, fun h => ?_, fun h => ?_⟩
  · have hs := step_le (s := s) h
    have e1 : ¬ (X + 1 < 0 ∨ lastP s < X + 1) := by omega
    refine ⟨by unfold spE; rw [if_neg e1], ?_, by omega⟩
    unfold spF; rw [if_neg e1, Int.add_mul, Int.one_mul]; omega
  · have e1 : X + 1 < 0 ∨ lastP s < X + 1 := by omega
    refine ⟨by unfold spE; rw [if_pos e1], by unfold spF; rw [if_pos e1], ?_⟩
    rw [← h] at hL; omega
/-- The period of a day. -/
structure Own13 (s : Nat) (a X m T : Int) : Prop where
  v : ofV s a = X
  e : ofE a = 0
  sp : Span s X m T
  lo : m ≤ a
  hi : a ≤ T
theorem own_in {s : Nat} {a : Int} (h1 : 1 ≤ s) (h4 : s ≤ 400) (a0 : 0 ≤ a) (a1 : a ≤ 73048) : Own13 s a (a / (s : Int)) (a / (s : Int) * s) (min (a / (s : Int) * s + s - 1) 73048) := by
  have e0 : ¬ (a < 0 ∨ 73048 < a) := by omega
  have hd := day_in (s := s) (a := a) h1
  have hL : a / (s : Int) ≤ lastP s := by rw [lastP_div]; exact Int.ediv_le_ediv (by omega) a1
  exact ⟨by unfold ofV; rw [if_neg e0], by unfold ofE; rw [if_neg e0], span_in h1 h4 (Int.ediv_nonneg a0 (by omega)) hL, hd.1, by omega⟩
theorem own_lt {s : Nat} {a b X m T Y m' T' : Int} (h : Own13 s a X m T) (h' : Own13 s b Y m' T') (hx : X < Y) : T < b := by
  have hs := step_le (s := s) hx
  have f1 := h.sp.f; have f2 := h'.sp.f; have t1 := h.sp.t
  unfold spF at f1 f2; unfold spT at t1
  have x0 := h.sp.x0; have xL := h.sp.xL; have y0 := h'.sp.x0; have yL := h'.sp.xL
  rw [if_neg (by omega)] at f1 f2 t1
  have := h'.lo
  omega
theorem own_same {s : Nat} {a b X m T m' T' : Int} (h : Own13 s a X m T) (h' : Own13 s b X m' T') : m ≤ b ∧ b ≤ T := by
  have f1 := h.sp.f; have f2 := h'.sp.f; have t1 := h.sp.t; have t2 := h'.sp.t
  have := h'.lo; have := h'.hi
  constructor <;> omega
theorem own_gt {s : Nat} {a b X m T Y m' T' : Int} (h : Own13 s a X m T) (h' : Own13 s b Y m' T') (hx : Y < X) : b < m := by
  have hs := step_le (s := s) hx
  have f1 := h.sp.f; have f2 := h'.sp.f; have t2 := h'.sp.t
  unfold spF at f1 f2; unfold spT at t2
  have x0 := h.sp.x0; have xL := h.sp.xL; have y0 := h'.sp.x0; have yL := h'.sp.xL
  rw [if_neg (by omega)] at f1 f2 t2
  have := h'.hi
  omega

set_option maxRecDepth 100000 in
set_option maxHeartbeats 4000000 in
theorem part_no (w : World) (s a b : Int) (h : s < 1 ∨ 400 < s) : Calls Try.prog 4 #[.int .i64 s, .int .i64 a, .int .i64 b] w fun e w' => e = .returned (.bool true) ∧ Below w.heap.size w w' := by
  have HA := Lib.hid (fun w' => awake13_any w')
  have HN := Lib.hid (new_no w s h)
  by_cases c : s < 20
  · clear h
    go_enter Try.func4, Try.ntmps4
    go_wp2_with fail
    refine HN.out.mono ?_
    rintro e w1 ⟨rfl, rfl⟩
    go_wp2_with fail
    refine (HA.out _).mono ?_
    rintro e wz ⟨rfl, hbz⟩
    have HBZ := Lib.hid (hbz)
    clear hbz
    go_wp2_with fail
    go_ret
    exact ⟨rfl, HBZ.out⟩
  · have c2 : 400 < s := by omega
    clear h
    go_enter Try.func4, Try.ntmps4
    go_wp2_with fail
    refine HN.out.mono ?_
    rintro e w1 ⟨rfl, rfl⟩
    go_wp2_with fail
    refine (HA.out _).mono ?_
    rintro e wz ⟨rfl, hbz⟩
    have HBZ := Lib.hid (hbz)
    clear hbz
    go_wp2_with fail
    go_ret
    exact ⟨rfl, HBZ.out⟩
set_option maxRecDepth 100000 in
set_option maxHeartbeats 4000000 in
theorem part_small (w : World) (s : Nat) (a b : Int) (h1 : 1 ≤ s) (h : s < 20) : Calls Try.prog 4 #[.int .i64 (s : Nat), .int .i64 a, .int .i64 b] w fun e w' => e = .returned (.bool true) ∧ Below w.heap.size w w' := by
  have HA := Lib.hid (fun w' => awake13_any w')
  have HN := Lib.hid (new_yes w s h1 (by omega))
  go_enter Try.func4, Try.ntmps4
  go_wp2_with fail
  refine HN.out.mono ?_
  rintro e w1 ⟨rfl, hp, hb⟩
  have HB := Lib.hid hb
  clear hp hb
  go_wp2_with fail
  refine (HA.out _).mono ?_
  rintro e wz ⟨rfl, hbz⟩
  have HBZ := Lib.hid (onF HB.out hbz)
  clear hbz
  go_wp2_with fail
  go_ret
  exact ⟨rfl, HBZ.out⟩
set_option maxRecDepth 100000 in
set_option maxHeartbeats 4000000 in
theorem part_out0 (w : World) (s : Nat) (a b : Int) (h20 : 20 ≤ s) (h4 : s ≤ 400) (c : a < 0) : Calls Try.prog 4 #[.int .i64 (s : Nat), .int .i64 a, .int .i64 b] w fun e w' => e = .returned (.bool true) ∧ Below w.heap.size w w' := by
  have HA := Lib.hid (fun w' => awake13_any w')
  have HN := Lib.hid (new_yes w s (by omega) h4)
  have HO1 := Lib.hid (fun w' hk => of_any w' (b := w.heap.size) (s := s) (l := 0) hk (by omega) h4 a)
  have HO2 := Lib.hid (fun w' hk => of_any w' (b := w.heap.size) (s := s) (l := 0) hk (by omega) h4 b)
  have ea : ofE a = 18 := by unfold ofE; rw [if_pos (by omega)]
  rw [ea] at HO1
  generalize hu : ofE b = u at *
  have hu2 : u = 0 ∨ u = 18 := by rw [← hu]; unfold ofE; split <;> simp
  clear hu
  generalize ofV s a = x at *
  generalize ofV s b = y at *
  clear ea
  clear hu2
  go_enter Try.func4, Try.ntmps4
  go_wp2_with fail
  refine HN.out.mono ?_
  rintro e w1 ⟨rfl, hp, hb⟩
  have HB1 := Lib.hid hb
  have HP1 := Lib.hid hp
  clear hp hb HN
  go_wp2_with fail
  refine (HO1.out _ HP1.out).mono ?_
  rintro e w2 ⟨rfl, hb⟩
  have HB2 := Lib.hid (onF HB1.out hb)
  have HP2 := Lib.hid (HP1.out.keep hb)
  clear hb HO1
  go_wp2_with fail
  refine (HO2.out _ HP2.out).mono ?_
  rintro e w3 ⟨rfl, hb⟩
  have HB3 := Lib.hid (onF HB2.out hb)
  have HP3 := Lib.hid (HP2.out.keep hb)
  clear hb HO2
  go_wp2_with fail
  refine (HA.out _).mono ?_
  rintro e wz ⟨rfl, hbz⟩
  have HBZ := Lib.hid (onF HB3.out hbz)
  clear hbz
  go_wp2_with fail
  go_ret
  exact ⟨rfl, HBZ.out⟩
set_option maxRecDepth 100000 in
set_option maxHeartbeats 4000000 in
theorem part_out1 (w : World) (s : Nat) (a b : Int) (h20 : 20 ≤ s) (h4 : s ≤ 400) (c : 73048 < a) : Calls Try.prog 4 #[.int .i64 (s : Nat), .int .i64 a, .int .i64 b] w fun e w' => e = .returned (.bool true) ∧ Below w.heap.size w w' := by
  have HA := Lib.hid (fun w' => awake13_any w')
  have HN := Lib.hid (new_yes w s (by omega) h4)
  have HO1 := Lib.hid (fun w' hk => of_any w' (b := w.heap.size) (s := s) (l := 0) hk (by omega) h4 a)
  have HO2 := Lib.hid (fun w' hk => of_any w' (b := w.heap.size) (s := s) (l := 0) hk (by omega) h4 b)
  have ea : ofE a = 18 := by unfold ofE; rw [if_pos (by omega)]
  rw [ea] at HO1
  generalize hu : ofE b = u at *
  have hu2 : u = 0 ∨ u = 18 := by rw [← hu]; unfold ofE; split <;> simp
  clear hu
  generalize ofV s a = x at *
  generalize ofV s b = y at *
  clear ea
  have a0 : ¬ a < 0 := by omega
  clear hu2
  go_enter Try.func4, Try.ntmps4
  go_wp2_with fail
  refine HN.out.mono ?_
  rintro e w1 ⟨rfl, hp, hb⟩
  have HB1 := Lib.hid hb
  have HP1 := Lib.hid hp
  clear hp hb HN
  go_wp2_with fail
  refine (HO1.out _ HP1.out).mono ?_
  rintro e w2 ⟨rfl, hb⟩
  have HB2 := Lib.hid (onF HB1.out hb)
  have HP2 := Lib.hid (HP1.out.keep hb)
  clear hb HO1
  go_wp2_with fail
  refine (HO2.out _ HP2.out).mono ?_
  rintro e w3 ⟨rfl, hb⟩
  have HB3 := Lib.hid (onF HB2.out hb)
  have HP3 := Lib.hid (HP2.out.keep hb)
  clear hb HO2
  go_wp2_with fail
  refine (HA.out _).mono ?_
  rintro e wz ⟨rfl, hbz⟩
  have HBZ := Lib.hid (onF HB3.out hbz)
  clear hbz
  go_wp2_with fail
  go_ret
  exact ⟨rfl, HBZ.out⟩
set_option maxRecDepth 100000 in
set_option maxHeartbeats 4000000 in
theorem part_out2 (w : World) (s : Nat) (a b : Int) (h20 : 20 ≤ s) (h4 : s ≤ 400) (a0 : 0 ≤ a) (a1 : a ≤ 73048) (c : b < 0) : Calls Try.prog 4 #[.int .i64 (s : Nat), .int .i64 a, .int .i64 b] w fun e w' => e = .returned (.bool true) ∧ Below w.heap.size w w' := by
  have HA := Lib.hid (fun w' => awake13_any w')
  have HN := Lib.hid (new_yes w s (by omega) h4)
  have HO1 := Lib.hid (fun w' hk => of_any w' (b := w.heap.size) (s := s) (l := 0) hk (by omega) h4 a)
  have HO2 := Lib.hid (fun w' hk => of_any w' (b := w.heap.size) (s := s) (l := 0) hk (by omega) h4 b)
  have eb : ofE b = 18 := by unfold ofE; rw [if_pos (by omega)]
  have ea : ofE a = 0 := by unfold ofE; rw [if_neg (by omega)]
  rw [ea] at HO1
  rw [eb] at HO2
  clear eb
  generalize ofV s a = x at *
  generalize ofV s b = y at *
  clear ea
  have a2 : ¬ a < 0 := by omega
  go_enter Try.func4, Try.ntmps4
  go_wp2_with fail
  refine HN.out.mono ?_
  rintro e w1 ⟨rfl, hp, hb⟩
  have HB1 := Lib.hid hb
  have HP1 := Lib.hid hp
  clear hp hb HN
  go_wp2_with fail
  refine (HO1.out _ HP1.out).mono ?_
  rintro e w2 ⟨rfl, hb⟩
  have HB2 := Lib.hid (onF HB1.out hb)
  have HP2 := Lib.hid (HP1.out.keep hb)
  clear hb HO1
  go_wp2_with fail
  refine (HO2.out _ HP2.out).mono ?_
  rintro e w3 ⟨rfl, hb⟩
  have HB3 := Lib.hid (onF HB2.out hb)
  have HP3 := Lib.hid (HP2.out.keep hb)
  clear hb HO2
  go_wp2_with fail
  refine (HA.out _).mono ?_
  rintro e wz ⟨rfl, hbz⟩
  have HBZ := Lib.hid (onF HB3.out hbz)
  clear hbz
  go_wp2_with fail
  go_ret
  exact ⟨rfl, HBZ.out⟩
set_option maxRecDepth 100000 in
set_option maxHeartbeats 4000000 in
theorem part_out3 (w : World) (s : Nat) (a b : Int) (h20 : 20 ≤ s) (h4 : s ≤ 400) (a0 : 0 ≤ a) (a1 : a ≤ 73048) (c : 73048 < b) : Calls Try.prog 4 #[.int .i64 (s : Nat), .int .i64 a, .int .i64 b] w fun e w' => e = .returned (.bool true) ∧ Below w.heap.size w w' := by
  have HA := Lib.hid (fun w' => awake13_any w')
  have HN := Lib.hid (new_yes w s (by omega) h4)
  have HO1 := Lib.hid (fun w' hk => of_any w' (b := w.heap.size) (s := s) (l := 0) hk (by omega) h4 a)
  have HO2 := Lib.hid (fun w' hk => of_any w' (b := w.heap.size) (s := s) (l := 0) hk (by omega) h4 b)
  have eb : ofE b = 18 := by unfold ofE; rw [if_pos (by omega)]
  have ea : ofE a = 0 := by unfold ofE; rw [if_neg (by omega)]
  rw [ea] at HO1
  rw [eb] at HO2
  clear eb
  generalize ofV s a = x at *
  generalize ofV s b = y at *
  clear ea
  have a2 : ¬ a < 0 := by omega
  have b2 : ¬ b < 0 := by omega
  go_enter Try.func4, Try.ntmps4
  go_wp2_with fail
  refine HN.out.mono ?_
  rintro e w1 ⟨rfl, hp, hb⟩
  have HB1 := Lib.hid hb
  have HP1 := Lib.hid hp
  clear hp hb HN
  go_wp2_with fail
  refine (HO1.out _ HP1.out).mono ?_
  rintro e w2 ⟨rfl, hb⟩
  have HB2 := Lib.hid (onF HB1.out hb)
  have HP2 := Lib.hid (HP1.out.keep hb)
  clear hb HO1
  go_wp2_with fail
  refine (HO2.out _ HP2.out).mono ?_
  rintro e w3 ⟨rfl, hb⟩
  have HB3 := Lib.hid (onF HB2.out hb)
  have HP3 := Lib.hid (HP2.out.keep hb)
  clear hb HO2
  go_wp2_with fail
  refine (HA.out _).mono ?_
  rintro e wz ⟨rfl, hbz⟩
  have HBZ := Lib.hid (onF HB3.out hbz)
  clear hbz
  go_wp2_with fail
  go_ret
  exact ⟨rfl, HBZ.out⟩
set_option maxRecDepth 100000 in
set_option maxHeartbeats 16000000 in
theorem part_in (w : World) (s : Nat) (a b : Int) (h20 : 20 ≤ s) (h4 : s ≤ 400) (a0 : 0 ≤ a) (a1 : a ≤ 73048) (b0 : 0 ≤ b) (b1 : b ≤ 73048) : Calls Try.prog 4 #[.int .i64 (s : Nat), .int .i64 a, .int .i64 b] w fun e w' => e = .returned (.bool true) ∧ Below w.heap.size w w' := by
  have A := own_in (s := s) (a := a) (by omega) h4 a0 a1
  have B := own_in (s := s) (a := b) (by omega) h4 b0 b1
  generalize a / (s : Int) = X at A
  generalize X * (s : Int) = m at A
  generalize min (m + s - 1) 73048 = T at A
  generalize b / (s : Int) = Y at B
  generalize Y * (s : Int) = m' at B
  generalize min (m' + s - 1) 73048 = T' at B
  have HA := Lib.hid (fun w' => awake13_any w')
  have HN := Lib.hid (new_yes w s (by omega) h4)
  have HO1 := Lib.hid (fun w' hk => of_any w' (b := w.heap.size) (s := s) (l := 0) hk (by omega) h4 a)
  have HO2 := Lib.hid (fun w' hk => of_any w' (b := w.heap.size) (s := s) (l := 0) hk (by omega) h4 b)
  have HS1 := Lib.hid (fun w' hk => span_any w' (b := w.heap.size) (s := s) (l := 0) hk (by omega) h4 X)
  have HS2 := Lib.hid (fun w' hk => span_any w' (b := w.heap.size) (s := s) (l := 0) hk (by omega) h4 (X + 1))
  have HL := Lib.hid (fun w' hk => last_any w' (b := w.heap.size) (s := s) (l := 0) hk (by omega) h4)
  rw [A.v, A.e] at HO1
  rw [B.v, B.e] at HO2
  rw [A.sp.f, A.sp.t, A.sp.e] at HS1
  have l1 := lastP_nat s
  have l2 := lastP_le s
  have lo := A.lo
  have hi := A.hi
  have x0 := A.sp.x0
  have xL := A.sp.xL
  have sz := A.sp.sz
  have m0 := A.sp.m0
  have mT := A.sp.mT
  have T0 := A.sp.T0
  by_cases c1 : X = Y
  · subst c1
    obtain ⟨g1, g2⟩ := own_same A B
    have c3 : ¬ X < X := by omega
    by_cases cL : X = lastP s
    · obtain ⟨n1, n2, n3⟩ := A.sp.eq cL
      rw [n1, n2] at HS2
      clear A B n1 n2
      subst n3
      subst cL
      generalize spT s (lastP s + 1) = T2 at *
      generalize lastP s = L at *
      go_enter Try.func4, Try.ntmps4
      go_wp2_with fail
      refine HN.out.mono ?_
      rintro e w1 ⟨rfl, hp, hb⟩
      have HB1 := Lib.hid hb
      have HP1 := Lib.hid hp
      clear hp hb HN
      go_wp2_with fail
      refine (HO1.out _ HP1.out).mono ?_
      rintro e w2 ⟨rfl, hb⟩
      have HB2 := Lib.hid (onF HB1.out hb)
      have HP2 := Lib.hid (HP1.out.keep hb)
      clear hb HO1
      go_wp2_with fail
      refine (HO2.out _ HP2.out).mono ?_
      rintro e w3 ⟨rfl, hb⟩
      have HB3 := Lib.hid (onF HB2.out hb)
      have HP3 := Lib.hid (HP2.out.keep hb)
      clear hb HO2
      go_wp2_with fail
      refine (HS1.out _ HP3.out).mono ?_
      rintro e w4 ⟨rfl, hb⟩
      have HB4 := Lib.hid (onF HB3.out hb)
      have HP4 := Lib.hid (HP3.out.keep hb)
      clear hb HS1
      go_wp2_with fail
      refine (HS2.out _ HP4.out).mono ?_
      rintro e w5 ⟨rfl, hb⟩
      have HB5 := Lib.hid (onF HB4.out hb)
      have HP5 := Lib.hid (HP4.out.keep hb)
      clear hb HS2
      go_wp2_with fail
      refine (HL.out _ HP5.out).mono ?_
      rintro e w6 ⟨rfl, hb⟩
      have HB6 := Lib.hid (onF HB5.out hb)
      have HP6 := Lib.hid (HP5.out.keep hb)
      clear hb
      go_wp2_with fail
      refine (HA.out _).mono ?_
      rintro e wz ⟨rfl, hbz⟩
      have HBZ := Lib.hid (onF HB6.out hbz)
      clear hbz
      go_wp2_with fail
      go_ret
      exact ⟨rfl, HBZ.out⟩
    · have cL2 : X < lastP s := by omega
      obtain ⟨n1, n2, n3⟩ := A.sp.lt cL2
      rw [n1, n2] at HS2
      clear A B n1 n2 n3
      generalize spT s (X + 1) = T2 at *
      generalize lastP s = L at *
      go_enter Try.func4, Try.ntmps4
      go_wp2_with fail
      refine HN.out.mono ?_
      rintro e w1 ⟨rfl, hp, hb⟩
      have HB1 := Lib.hid hb
      have HP1 := Lib.hid hp
      clear hp hb HN
      go_wp2_with fail
      refine (HO1.out _ HP1.out).mono ?_
      rintro e w2 ⟨rfl, hb⟩
      have HB2 := Lib.hid (onF HB1.out hb)
      have HP2 := Lib.hid (HP1.out.keep hb)
      clear hb HO1
      go_wp2_with fail
      refine (HO2.out _ HP2.out).mono ?_
      rintro e w3 ⟨rfl, hb⟩
      have HB3 := Lib.hid (onF HB2.out hb)
      have HP3 := Lib.hid (HP2.out.keep hb)
      clear hb HO2
      go_wp2_with fail
      refine (HS1.out _ HP3.out).mono ?_
      rintro e w4 ⟨rfl, hb⟩
      have HB4 := Lib.hid (onF HB3.out hb)
      have HP4 := Lib.hid (HP3.out.keep hb)
      clear hb HS1
      go_wp2_with fail
      refine (HS2.out _ HP4.out).mono ?_
      rintro e w5 ⟨rfl, hb⟩
      have HB5 := Lib.hid (onF HB4.out hb)
      have HP5 := Lib.hid (HP4.out.keep hb)
      clear hb HS2
      go_wp2_with fail
      refine (HL.out _ HP5.out).mono ?_
      rintro e w6 ⟨rfl, hb⟩
      have HB6 := Lib.hid (onF HB5.out hb)
      have HP6 := Lib.hid (HP5.out.keep hb)
      clear hb
      go_wp2_with fail
      refine (HL.out _ HP6.out).mono ?_
      rintro e w7 ⟨rfl, hb⟩
      have HB7 := Lib.hid (onF HB6.out hb)
      clear hb
      go_wp2_with fail
      refine (HA.out _).mono ?_
      rintro e wz ⟨rfl, hbz⟩
      have HBZ := Lib.hid (onF HB7.out hbz)
      clear hbz
      go_wp2_with fail
      go_ret
      exact ⟨rfl, HBZ.out⟩
  by_cases c2 : X < Y
  · have q1 : (X == Y) = false := beq_false_of_ne c1
    have g1 := own_lt A B c2
    have g2 : m ≤ b := by omega
    have g3 : ¬ b ≤ T := by omega
    have g4 : ¬ b ≤ a := by omega
    by_cases cL : X = lastP s
    · obtain ⟨n1, n2, n3⟩ := A.sp.eq cL
      rw [n1, n2] at HS2
      clear A B n1 n2
      subst n3
      subst cL
      generalize spT s (lastP s + 1) = T2 at *
      generalize lastP s = L at *
      omega
    · have cL2 : X < lastP s := by omega
      obtain ⟨n1, n2, n3⟩ := A.sp.lt cL2
      rw [n1, n2] at HS2
      clear A B n1 n2 n3
      generalize spT s (X + 1) = T2 at *
      generalize lastP s = L at *
      go_enter Try.func4, Try.ntmps4
      go_wp2_with fail
      refine HN.out.mono ?_
      rintro e w1 ⟨rfl, hp, hb⟩
      have HB1 := Lib.hid hb
      have HP1 := Lib.hid hp
      clear hp hb HN
      go_wp2_with fail
      refine (HO1.out _ HP1.out).mono ?_
      rintro e w2 ⟨rfl, hb⟩
      have HB2 := Lib.hid (onF HB1.out hb)
      have HP2 := Lib.hid (HP1.out.keep hb)
      clear hb HO1
      go_wp2_with fail
      refine (HO2.out _ HP2.out).mono ?_
      rintro e w3 ⟨rfl, hb⟩
      have HB3 := Lib.hid (onF HB2.out hb)
      have HP3 := Lib.hid (HP2.out.keep hb)
      clear hb HO2
      go_wp2_with fail
      refine (HS1.out _ HP3.out).mono ?_
      rintro e w4 ⟨rfl, hb⟩
      have HB4 := Lib.hid (onF HB3.out hb)
      have HP4 := Lib.hid (HP3.out.keep hb)
      clear hb HS1
      go_wp2_with fail
      refine (HS2.out _ HP4.out).mono ?_
      rintro e w5 ⟨rfl, hb⟩
      have HB5 := Lib.hid (onF HB4.out hb)
      have HP5 := Lib.hid (HP4.out.keep hb)
      clear hb HS2
      go_wp2_with fail
      refine (HL.out _ HP5.out).mono ?_
      rintro e w6 ⟨rfl, hb⟩
      have HB6 := Lib.hid (onF HB5.out hb)
      have HP6 := Lib.hid (HP5.out.keep hb)
      clear hb
      go_wp2_with fail
      refine (HL.out _ HP6.out).mono ?_
      rintro e w7 ⟨rfl, hb⟩
      have HB7 := Lib.hid (onF HB6.out hb)
      clear hb
      go_wp2_with fail
      refine (HA.out _).mono ?_
      rintro e wz ⟨rfl, hbz⟩
      have HBZ := Lib.hid (onF HB7.out hbz)
      clear hbz
      go_wp2_with fail
      go_ret
      exact ⟨rfl, HBZ.out⟩
  have c3 : Y < X := by omega
  have g1 := own_gt A B c3
  have g2 : ¬ m ≤ b := by omega
  have q1 : (X == Y) = false := beq_false_of_ne c1
  skip
  by_cases cL : X = lastP s
  · obtain ⟨n1, n2, n3⟩ := A.sp.eq cL
    rw [n1, n2] at HS2
    clear A B n1 n2
    subst n3
    subst cL
    generalize spT s (lastP s + 1) = T2 at *
    generalize lastP s = L at *
    go_enter Try.func4, Try.ntmps4
    go_wp2_with fail
    refine HN.out.mono ?_
    rintro e w1 ⟨rfl, hp, hb⟩
    have HB1 := Lib.hid hb
    have HP1 := Lib.hid hp
    clear hp hb HN
    go_wp2_with fail
    refine (HO1.out _ HP1.out).mono ?_
    rintro e w2 ⟨rfl, hb⟩
    have HB2 := Lib.hid (onF HB1.out hb)
    have HP2 := Lib.hid (HP1.out.keep hb)
    clear hb HO1
    go_wp2_with fail
    refine (HO2.out _ HP2.out).mono ?_
    rintro e w3 ⟨rfl, hb⟩
    have HB3 := Lib.hid (onF HB2.out hb)
    have HP3 := Lib.hid (HP2.out.keep hb)
    clear hb HO2
    go_wp2_with fail
    refine (HS1.out _ HP3.out).mono ?_
    rintro e w4 ⟨rfl, hb⟩
    have HB4 := Lib.hid (onF HB3.out hb)
    have HP4 := Lib.hid (HP3.out.keep hb)
    clear hb HS1
    go_wp2_with fail
    refine (HS2.out _ HP4.out).mono ?_
    rintro e w5 ⟨rfl, hb⟩
    have HB5 := Lib.hid (onF HB4.out hb)
    have HP5 := Lib.hid (HP4.out.keep hb)
    clear hb HS2
    go_wp2_with fail
    refine (HL.out _ HP5.out).mono ?_
    rintro e w6 ⟨rfl, hb⟩
    have HB6 := Lib.hid (onF HB5.out hb)
    have HP6 := Lib.hid (HP5.out.keep hb)
    clear hb
    go_wp2_with fail
    refine (HA.out _).mono ?_
    rintro e wz ⟨rfl, hbz⟩
    have HBZ := Lib.hid (onF HB6.out hbz)
    clear hbz
    go_wp2_with fail
    go_ret
    exact ⟨rfl, HBZ.out⟩
  · have cL2 : X < lastP s := by omega
    obtain ⟨n1, n2, n3⟩ := A.sp.lt cL2
    rw [n1, n2] at HS2
    clear A B n1 n2 n3
    generalize spT s (X + 1) = T2 at *
    generalize lastP s = L at *
    go_enter Try.func4, Try.ntmps4
    go_wp2_with fail
    refine HN.out.mono ?_
    rintro e w1 ⟨rfl, hp, hb⟩
    have HB1 := Lib.hid hb
    have HP1 := Lib.hid hp
    clear hp hb HN
    go_wp2_with fail
    refine (HO1.out _ HP1.out).mono ?_
    rintro e w2 ⟨rfl, hb⟩
    have HB2 := Lib.hid (onF HB1.out hb)
    have HP2 := Lib.hid (HP1.out.keep hb)
    clear hb HO1
    go_wp2_with fail
    refine (HO2.out _ HP2.out).mono ?_
    rintro e w3 ⟨rfl, hb⟩
    have HB3 := Lib.hid (onF HB2.out hb)
    have HP3 := Lib.hid (HP2.out.keep hb)
    clear hb HO2
    go_wp2_with fail
    refine (HS1.out _ HP3.out).mono ?_
    rintro e w4 ⟨rfl, hb⟩
    have HB4 := Lib.hid (onF HB3.out hb)
    have HP4 := Lib.hid (HP3.out.keep hb)
    clear hb HS1
    go_wp2_with fail
    refine (HS2.out _ HP4.out).mono ?_
    rintro e w5 ⟨rfl, hb⟩
    have HB5 := Lib.hid (onF HB4.out hb)
    have HP5 := Lib.hid (HP4.out.keep hb)
    clear hb HS2
    go_wp2_with fail
    refine (HL.out _ HP5.out).mono ?_
    rintro e w6 ⟨rfl, hb⟩
    have HB6 := Lib.hid (onF HB5.out hb)
    have HP6 := Lib.hid (HP5.out.keep hb)
    clear hb
    go_wp2_with fail
    refine (HL.out _ HP6.out).mono ?_
    rintro e w7 ⟨rfl, hb⟩
    have HB7 := Lib.hid (onF HB6.out hb)
    clear hb
    go_wp2_with fail
    refine (HA.out _).mono ?_
    rintro e wz ⟨rfl, hbz⟩
    have HBZ := Lib.hid (onF HB7.out hbz)
    clear hbz
    go_wp2_with fail
    go_ret
    exact ⟨rfl, HBZ.out⟩
theorem part13_walk (w : World) (s a b : Int) (wa : -9223372036854775808 ≤ a ∧ a ≤ 9223372036854775807) (wb : -9223372036854775808 ≤ b ∧ b ≤ 9223372036854775807) : Calls Try.prog 4 #[.int .i64 s, .int .i64 a, .int .i64 b] w fun e w' => e = .returned (.bool true) ∧ Below w.heap.size w w' := by
  by_cases c : s < 1 ∨ 400 < s
  · exact part_no w s a b c
  obtain ⟨n, rfl⟩ : ∃ n : Nat, s = n := ⟨s.toNat, by omega⟩
  by_cases c1 : n < 20
  · exact part_small w n a b (by omega) c1
  by_cases c2 : a < 0
  · exact part_out0 w n a b (by omega) (by omega) c2
  by_cases c3 : 73048 < a
  · exact part_out1 w n a b (by omega) (by omega) c3
  by_cases c4 : b < 0
  · exact part_out2 w n a b (by omega) (by omega) (by omega) (by omega) c4
  by_cases c5 : 73048 < b
  · exact part_out3 w n a b (by omega) (by omega) (by omega) (by omega) c5
  exact part_in w n a b (by omega) (by omega) (by omega) (by omega) (by omega) (by omega)

end Go.Proofs.Ytjddmgmblohpaaa

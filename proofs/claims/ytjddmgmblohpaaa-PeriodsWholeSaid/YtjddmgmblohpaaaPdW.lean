/-
  chattellaw13.PeriodsWhole: its walk.
-/
import Derived.Test.YtjddmgmblohpaaaPdS
import Derived.Deep.Cut
namespace Go.Proofs.Ytjddmgmblohpaaa
open Go.RowKit Go.Lib
set_option linter.unusedVariables false
set_option linter.unusedSimpArgs false

/-- Where the next period begins. -/
def nxP (s j : Nat) : Int := if (j : Int) ≤ lastP s then (j : Int) * s else 73049
theorem nxP_in {s j : Nat} (h : (j : Int) ≤ lastP s) : nxP s j = (j : Int) * s := by unfold nxP; rw [if_pos h]
theorem nxP_end {s j : Nat} (h : ¬ (j : Int) ≤ lastP s) : nxP s j = 73049 := by unfold nxP; rw [if_neg h]
theorem nxP_next {s j : Nat} {m T : Int} (h1 : 1 ≤ s) (A : Span s (j : Int) m T) : nxP s (j + 1) = T + 1 := by
  by_cases c : (j : Int) = lastP s
  · obtain ⟨n1, n2, n3⟩ := A.eq c
    rw [nxP_end (by omega), n3]; rfl
  · have := A.xL
    obtain ⟨n1, n2, n3⟩ := A.lt (by omega)
    rw [nxP_in (by omega), ← n2]
    unfold spF
    rw [if_neg (by omega)]
    have e : ((j + 1 : Nat) : Int) = (j : Int) + 1 := by omega
    rw [e]
set_option maxRecDepth 100000 in
set_option maxHeartbeats 4000000 in
theorem whole_no (w : World) (s : Int) (h : s < 1 ∨ 400 < s) : Calls Try.prog 8 #[.int .i64 s] w fun e w' => e = .returned (.bool true) ∧ Below w.heap.size w w' := by
  have HA := Lib.hid (fun w' => awake13_any w')
  have HN := Lib.hid (new_no w s h)
  by_cases c : s < 20
  · clear h
    go_enter Try.func8, Try.ntmps8
    go_wp2_with fail
    refine HN.out.mono ?_
    rintro e w1 ⟨rfl, rfl⟩
    go_wp2_with fail
    refine (HA.out _).mono ?_
    rintro e wz ⟨rfl, hbz⟩
    have HBZ := Lib.hid (hbz)
    clear hbz
    go_wp2_with fail
    go_ret
    exact ⟨rfl, HBZ.out⟩
  · have c2 : 400 < s := by omega
    clear h
    go_enter Try.func8, Try.ntmps8
    go_wp2_with fail
    refine HN.out.mono ?_
    rintro e w1 ⟨rfl, rfl⟩
    go_wp2_with fail
    refine (HA.out _).mono ?_
    rintro e wz ⟨rfl, hbz⟩
    have HBZ := Lib.hid (hbz)
    clear hbz
    go_wp2_with fail
    go_ret
    exact ⟨rfl, HBZ.out⟩
set_option maxRecDepth 100000 in
set_option maxHeartbeats 4000000 in
theorem whole_small (w : World) (s : Nat) (h1 : 1 ≤ s) (h : s < 20) : Calls Try.prog 8 #[.int .i64 (s : Nat)] w fun e w' => e = .returned (.bool true) ∧ Below w.heap.size w w' := by
  have HA := Lib.hid (fun w' => awake13_any w')
  have HN := Lib.hid (new_yes w s h1 (by omega))
  go_enter Try.func8, Try.ntmps8
  go_wp2_with fail
  refine HN.out.mono ?_
  rintro e w1 ⟨rfl, hp, hb⟩
  have HB := Lib.hid hb
  clear hp hb
  go_wp2_with fail
  refine (HA.out _).mono ?_
  rintro e wz ⟨rfl, hbz⟩
  have HBZ := Lib.hid (onF HB.out hbz)
  clear hbz
  go_wp2_with fail
  go_ret
  exact ⟨rfl, HBZ.out⟩
set_option maxRecDepth 100000 in
set_option maxHeartbeats 8000000 in
theorem whole_in (w : World) (s : Nat) (h20 : 20 ≤ s) (h4 : s ≤ 400) : Calls Try.prog 8 #[.int .i64 (s : Nat)] w fun e w' => e = .returned (.bool true) ∧ Below w.heap.size w w' := by
  have HA := Lib.hid (fun w' => awake13_any w')
  have HN := Lib.hid (new_yes w s (by omega) h4)
  have HL := Lib.hid (fun w' hk => last_any w' (b := w.heap.size) (s := s) (l := 0) hk (by omega) h4)
  have HSp := Lib.hid (fun w' p hk => span_any w' (b := w.heap.size) (s := s) (l := 0) hk (by omega) h4 p)
  have HIn := Lib.hid (fun X x0 xL => span_in (s := s) (X := X) (by omega) h4 x0 xL)
  have l1 := lastP_nat s
  have l2 := lastP_le s
  have HL2 := Lib.hid l2
  go_enter Try.func8, Try.ntmps8
  go_wp2_with fail
  refine HN.out.mono ?_
  rintro e w1 ⟨rfl, hp, hb⟩
  have HB1 := Lib.hid hb
  have HP1 := Lib.hid hp
  clear hp hb HN
  go_wp2_with fail
  go_loopw [5, 6] (fun vn vi wx => ∃ j : Nat, (j : Int) ≤ lastP s + 1 ∧ vi = .int .i64 (j : Nat) ∧ vn = .int .i64 (nxP s j) ∧ PdV wx w.heap.size s 0 ∧ Below w.heap.size w wx) (fun _ vi _ => 73050 - (RowKit.intOf vi).toNat)
  case atStart => exact ⟨0, by omega, rfl, by rw [nxP_in (by omega)]; simp, HP1.out, HB1.out⟩
  case round =>
    obtain ⟨j, hj, rfl, rfl, hpj, hbj⟩ := hrel
    have HP1 := Lib.hid hpj
    have HB1 := Lib.hid hbj
    have j0 : (0 : Int) ≤ (j : Int) := by omega
    clear hpj hbj
    by_cases c1 : (j : Int) ≤ lastP s
    · have A := HIn.out j j0 c1
      rw [nxP_in c1]
      have HJ := Lib.hid c1
      generalize (j : Int) * (s : Int) = m at *
      generalize min (m + (s : Int) - 1) 73048 = T at *
      have HX := Lib.hid (nxP_next (by omega) A)
      have HS := HSp.out
      have HS := Lib.hid (fun w' hk => HS w' (j : Int) hk)
      rw [A.f, A.t, A.e] at HS
      have m0 := A.m0
      have mT := A.mT
      have T0 := A.T0
      have HAA := Lib.hid A
      by_cases c2 : (j : Int) = lastP s
      · have c3 : ¬ (j : Int) < lastP s := by omega
        clear A c2 hj
        generalize lastP s = L at *
        go_wp2_with fail
        refine (HL.out _ HP1.out).mono ?_
        rintro e w2 ⟨rfl, hb⟩
        have HB2 := Lib.hid (onF HB1.out hb)
        have HP2 := Lib.hid (HP1.out.keep hb)
        clear hb
        go_wp2_with fail
        refine (HS.out _ HP2.out).mono ?_
        rintro e w3 ⟨rfl, hb⟩
        have HB3 := Lib.hid (onF HB2.out hb)
        have HP3 := Lib.hid (HP2.out.keep hb)
        clear hb HS
        go_wp2_with fail
        refine (HL.out _ HP3.out).mono ?_
        rintro e w4 ⟨rfl, hb⟩
        have HB4 := Lib.hid (onF HB3.out hb)
        have HP4 := Lib.hid (HP3.out.keep hb)
        clear hb
        go_wp2_with fail
        go_roundw
        case rel => exact ⟨j + 1, by have := HJ.out; omega, by go_num, by rw [HX.out], HP4.out, HB4.out⟩
        case measure => have := HJ.out; have := HL2.out; simp [RowKit.intOf]; omega
      · have c3 : (j : Int) < lastP s := by omega
        obtain ⟨_, _, n3⟩ := A.lt c3
        have HN3 := Lib.hid n3
        have b3 : (T - m + 1 != (s : Int)) = false := by rw [n3]; simp
        clear A c2 hj n3
        generalize lastP s = L at *
        go_wp2_with fail
        refine (HL.out _ HP1.out).mono ?_
        rintro e w2 ⟨rfl, hb⟩
        have HB2 := Lib.hid (onF HB1.out hb)
        have HP2 := Lib.hid (HP1.out.keep hb)
        clear hb
        go_wp2_with fail
        refine (HS.out _ HP2.out).mono ?_
        rintro e w3 ⟨rfl, hb⟩
        have HB3 := Lib.hid (onF HB2.out hb)
        have HP3 := Lib.hid (HP2.out.keep hb)
        clear hb HS
        go_wp2_with fail
        refine (HL.out _ HP3.out).mono ?_
        rintro e w4 ⟨rfl, hb⟩
        have HB4 := Lib.hid (onF HB3.out hb)
        have HP4 := Lib.hid (HP3.out.keep hb)
        clear hb
        go_wp2_with fail
        go_roundw
        case rel => exact ⟨j + 1, by have := HJ.out; omega, by go_num, by rw [HX.out], HP4.out, HB4.out⟩
        case measure => have := HJ.out; have := HL2.out; simp [RowKit.intOf]; omega
    · have c2 : (j : Int) = lastP s + 1 := by omega
      rw [nxP_end c1]
      clear HIn HSp
      generalize lastP s = L at *
      go_wp2_with fail
      refine (HL.out _ HP1.out).mono ?_
      rintro e w2 ⟨rfl, hb⟩
      have HB2 := Lib.hid (onF HB1.out hb)
      have HP2 := Lib.hid (HP1.out.keep hb)
      clear hb
      go_wp2_with fail
      refine (HA.out _).mono ?_
      rintro e wz ⟨rfl, hbz⟩
      have HBZ := Lib.hid (onF HB2.out hbz)
      clear hbz
      go_wp2_with fail
      go_ret
      exact ⟨rfl, HBZ.out⟩
theorem whole13_walk (w : World) (s : Int) : Calls Try.prog 8 #[.int .i64 s] w fun e w' => e = .returned (.bool true) ∧ Below w.heap.size w w' := by
  by_cases c : s < 1 ∨ 400 < s
  · exact whole_no w s c
  obtain ⟨n, rfl⟩ : ∃ n : Nat, s = n := ⟨s.toNat, by omega⟩
  by_cases c1 : n < 20
  · exact whole_small w n (by omega) c1
  exact whole_in w n (by omega) (by omega)

end Go.Proofs.Ytjddmgmblohpaaa

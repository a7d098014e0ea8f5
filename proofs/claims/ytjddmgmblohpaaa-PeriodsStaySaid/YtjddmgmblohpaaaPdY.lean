/-
  chattellaw13.PeriodsStay: its walk.
-/
import Derived.Test.YtjddmgmblohpaaaPdT
import Derived.Deep.Cut
namespace Go.Proofs.Ytjddmgmblohpaaa
open Go.RowKit Go.Lib
set_option linter.unusedVariables false
set_option linter.unusedSimpArgs false

set_option maxRecDepth 100000 in
set_option maxHeartbeats 4000000 in
theorem stay_no (w : World) (s : Int) (la : Option Addr) (ln lc : Nat) (d : Int) (h : s < 1 ∨ 400 < s) : Calls Try.prog 3 #[.int .i64 s, .slice la ln lc, .int .i64 d] w fun e w' => e = .returned (.bool true) ∧ Below w.heap.size w w' := by
  have HA := Lib.hid (fun w' => awake13_any w')
  have HN := Lib.hid (new_no w s h)
  by_cases c : s < 20
  · clear h
    go_enter Try.func3, Try.ntmps3
    go_wp2_with fail
    refine HN.out.mono ?_
    rintro e w1 ⟨rfl, rfl⟩
    go_wp2_with fail
    refine (HA.out _).mono ?_
    rintro e wz ⟨rfl, hbz⟩
    have HBZ := Lib.hid (hbz)
    clear hbz
    go_wp2_with fail
    go_ret
    exact ⟨rfl, HBZ.out⟩
  · have c2 : 400 < s := by omega
    clear h
    go_enter Try.func3, Try.ntmps3
    go_wp2_with fail
    refine HN.out.mono ?_
    rintro e w1 ⟨rfl, rfl⟩
    go_wp2_with fail
    refine (HA.out _).mono ?_
    rintro e wz ⟨rfl, hbz⟩
    have HBZ := Lib.hid (hbz)
    clear hbz
    go_wp2_with fail
    go_ret
    exact ⟨rfl, HBZ.out⟩
set_option maxRecDepth 100000 in
set_option maxHeartbeats 4000000 in
theorem stay_small (w : World) (s : Nat) (la : Option Addr) (ln lc : Nat) (d : Int) (h1 : 1 ≤ s) (h : s < 20) : Calls Try.prog 3 #[.int .i64 (s : Nat), .slice la ln lc, .int .i64 d] w fun e w' => e = .returned (.bool true) ∧ Below w.heap.size w w' := by
  have HA := Lib.hid (fun w' => awake13_any w')
  have HN := Lib.hid (new_yes w s h1 (by omega))
  go_enter Try.func3, Try.ntmps3
  go_wp2_with fail
  refine HN.out.mono ?_
  rintro e w1 ⟨rfl, hp, hb⟩
  have HB1 := Lib.hid hb
  have HP1 := Lib.hid hp
  clear hp hb HN
  go_wp2_with fail
  refine (HA.out _).mono ?_
  rintro e wz ⟨rfl, hbz⟩
  have HBZ := Lib.hid (onF HB1.out hbz)
  clear hbz
  go_wp2_with fail
  go_ret
  exact ⟨rfl, HBZ.out⟩
set_option maxRecDepth 100000 in
set_option maxHeartbeats 4000000 in
theorem stay_long (w : World) (s : Nat) (la : Option Addr) (ln lc : Nat) (d : Int) (h20 : 20 ≤ s) (h4 : s ≤ 400) (h : 30 < ln) (hm : ln ≤ 9223372036854775807) : Calls Try.prog 3 #[.int .i64 (s : Nat), .slice la ln lc, .int .i64 d] w fun e w' => e = .returned (.bool true) ∧ Below w.heap.size w w' := by
  have HA := Lib.hid (fun w' => awake13_any w')
  have HN := Lib.hid (new_yes w s (by omega) h4)
  have l0 : (30 : Int) < (ln : Int) := by omega
  go_enter Try.func3, Try.ntmps3
  go_wp2_with fail
  refine HN.out.mono ?_
  rintro e w1 ⟨rfl, hp, hb⟩
  have HB1 := Lib.hid hb
  have HP1 := Lib.hid hp
  clear hp hb HN
  go_wp2_with fail
  refine (HA.out _).mono ?_
  rintro e wz ⟨rfl, hbz⟩
  have HBZ := Lib.hid (onF HB1.out hbz)
  clear hbz
  go_wp2_with fail
  go_ret
  exact ⟨rfl, HBZ.out⟩
set_option maxRecDepth 100000 in
set_option maxHeartbeats 16000000 in
theorem stay_in (w : World) (s : Nat) (la : Option Addr) (ln lc : Nat) (L : List Tw) (d : Int) (h20 : 20 ≤ s) (h4 : s ≤ 400) (h : L.length ≤ 30) (hl : ln = L.length) (hv : SlTw w (.slice la ln lc) L) : Calls Try.prog 3 #[.int .i64 (s : Nat), .slice la ln lc, .int .i64 d] w fun e w' => e = .returned (.bool true) ∧ Below w.heap.size w w' := by
  have HA := Lib.hid (fun w' => awake13_any w')
  have HN := Lib.hid (new_yes w s (by omega) h4)
  have HE := Lib.hid (fun w' m hk => earl_any w' (b := w.heap.size) (s := s) (l := m) hk (by omega) h4)
  have HLk := Lib.hid (fun w' m hk p c => lock_any w' (b := w.heap.size) (s := s) (l := m) hk (by omega) h4 p c)
  have HSp := Lib.hid (fun w' m hk p => span_any w' (b := w.heap.size) (s := s) (l := m) hk (by omega) h4 p)
  have HLc := Lib.hid (fun w' m hk p => locked_any w' (b := w.heap.size) (s := s) (l := m) hk p)
  have HBk := Lib.hid (fun w' m hk => book_any w' (b := w.heap.size) (s := s) (l := m) hk (by omega) h4 d)
  have HV := Lib.hid hv
  have l0 : ¬ (30 : Int) < (L.length : Int) := by omega
  subst hl
  clear hv
  go_enter Try.func3, Try.ntmps3
  go_wp2_with fail
  refine HN.out.mono ?_
  rintro e w1 ⟨rfl, hp, hb⟩
  have HB1 := Lib.hid hb
  have HP1 := Lib.hid hp
  clear hp hb HN
  go_wp2_with fail
  go_loopw [9, 10] (fun vm vi wx => ∃ i m : Nat, i ≤ L.length ∧ m ≤ i ∧ vi = .int .i64 (i : Nat) ∧ vm = .int .i64 (m : Nat) ∧ PdV wx w.heap.size s m ∧ Below w.heap.size w wx) (fun _ vi _ => L.length - (RowKit.intOf vi).toNat)
  case atStart => exact ⟨0, 0, by omega, by omega, rfl, rfl, HP1.out, HB1.out⟩
  case round =>
    obtain ⟨i, m, hi, hm, rfl, rfl, hpj, hbj⟩ := hrel
    have HP1 := Lib.hid hpj
    have HB1 := Lib.hid hbj
    clear hpj hbj
    by_cases hlt : i < L.length
    · obtain ⟨g, o, hva, hln, hc1, hc2, k0, k1⟩ := HV.out.at hlt
      subst hva
      have HG := Lib.hid (ltF k0)
      have k0 := keepF HB1.out k0
      have k1 := keepF HB1.out k1
      obtain ⟨e1, e2⟩ := eaE_up (s := s) (l := m) (by omega) h4 (by omega)
      have HE1 := HE.out wr m HP1.out
      rw [e1, e2] at HE1
      have HE1 := Lib.hid HE1
      have HLt := Lib.hid hlt
      have HM := Lib.hid hm
      have p1 : (i : Int) < (L.length : Int) := by omega
      have p0 : (0 : Int) ≤ (i : Int) := by omega
      have m0 : (0 : Int) ≤ (m : Int) := by omega
      have m3 : (m : Int) ≤ 30 := by omega
      generalize (L.getD i default).p = p at *
      generalize (L.getD i default).c = c at *
      by_cases cz : lkE s m p c = 0
      · obtain ⟨z1, z2⟩ := lkE_yes cz
        subst z1
        have A := span_in (s := s) (X := (m : Int)) (by omega) h4 (by omega) (by have := last_up (s := s) (by omega) h4; omega)
        generalize (m : Int) * (s : Int) = f at A
        generalize min (f + (s : Int) - 1) 73048 = T at A
        rw [A.t] at z2
        obtain ⟨y1, y2⟩ := eaE_up (s := s) (l := m + 1) (by omega) h4 (by omega)
        have HLk1 := fun w' hk => HLk.out w' m hk (m : Int) c
        rw [cz, if_pos rfl] at HLk1
        have HLk1 := Lib.hid HLk1
        have HE2 := fun w' hk => HE.out w' (m + 1) hk
        rw [y1, y2] at HE2
        have HE2 := Lib.hid HE2
        have HS := fun w' hk => HSp.out w' (m + 1) hk (m : Int)
        rw [A.f, A.t, A.e] at HS
        have HS := Lib.hid HS
        have HL1 := fun w' hk => HLc.out w' (m + 1) hk (m : Int)
        rw [show lkB (m + 1) (m : Int) = true by unfold lkB; exact decide_eq_true (by omega)] at HL1
        have HL1 := Lib.hid HL1
        have HK := Lib.hid (fun w' hk => HBk.out w' (m + 1) hk)
        have HX := Lib.hid (bk_any (s := s) (l := m + 1) (d := d) (by omega) h4 (by omega))
        have hz3 : ((m + 1 : Nat) : Int) = (m : Int) + 1 := by omega
        rw [hz3] at HE2
        have HKD := Lib.hid (And.intro k0 k1)
        clear A cz e1 e2 y1 y2 hz3 HE HLk HSp HBk k0 k1 hlt hm HV
        go_wp2_with fail
        refine HE1.out.mono ?_
        rintro e w2 ⟨rfl, hb⟩
        have HB2 := Lib.hid (onF HB1.out hb)
        have HP2 := Lib.hid (HP1.out.keep hb)
        have k0 := keepF hb HKD.out.1
        have k1 := keepF hb HKD.out.2
        clear hb HE1 HKD
        go_wp2_with fail
        have HQ := Lib.hid (HLk1.out w2.drew HP2.out.drew)
        go_region_held3 (fun w' => w'.cell? ⟨g, o + i * 2, none⟩ = some (.int .i64 (m : Nat)) ∧ w'.cell? ⟨g, o + i * 2 + 1, none⟩ = some (.int .i64 c)) (first | (with_reducible exact ⟨k0, k1⟩) | go_keep)
          (first
          | (go_at_call 12; (with_reducible refine HQ.out.mono ?_); rintro e w3 ⟨rfl, hp, ho⟩; have k0 := ho.cell (w := w2.drew) k0 (fun e => by have := HG.out; omega); have k1 := ho.cell (w := w2.drew) k1 (fun e => by have := HG.out; omega)))
        have HB3 := Lib.hid (HB2.out.trans ((Below.refl _ _).drew.trans (ho.below (n := w.heap.size) (fun k e => Nat.le_of_eq e.symm) HB2.out.size)))
        have HP3 := Lib.hid hp
        clear hp ho HQ
        go_wp2_with fail
        refine (HE2.out _ HP3.out).mono ?_
        rintro e w4 ⟨rfl, hb⟩
        have HB4 := Lib.hid (onF HB3.out hb)
        have HP4 := Lib.hid (HP3.out.keep hb)
        have k0 := keepF hb k0
        have k1 := keepF hb k1
        clear hb HE2
        go_wp2_with fail
        refine (HS.out _ HP4.out).mono ?_
        rintro e w5 ⟨rfl, hb⟩
        have HB5 := Lib.hid (onF HB4.out hb)
        have HP5 := Lib.hid (HP4.out.keep hb)
        have k0 := keepF hb k0
        have k1 := keepF hb k1
        clear hb HS
        go_wp2_with fail
        refine (HL1.out _ HP5.out).mono ?_
        rintro e w6 ⟨rfl, rfl⟩
        go_wp2_with fail
        have HK1 := HK.out _ HP5.out
        rcases HX.out with x1 | ⟨x1, x2⟩
        · rw [x1] at HK1
          have HK1 := Lib.hid HK1
          clear x1 HX HK
          refine HK1.out.mono ?_
          rintro e w7 ⟨rfl, hb⟩
          have HB7 := Lib.hid (onF HB5.out hb)
          have HP7 := Lib.hid (HP5.out.keep hb)
          clear hb HK1 k0 k1
          go_wp2_with fail
          go_roundw
          case rel => exact ⟨i + 1, m + 1, HLt.out, by have := HM.out; omega, by go_num, by go_num, HP7.out, HB7.out⟩
          case measure => have := HLt.out; simp [RowKit.intOf]; omega
        · rw [x1] at HK1
          have HK1 := Lib.hid HK1
          have HL2 := fun w' hk => HLc.out w' (m + 1) hk (bkV s (m + 1) d)
          rw [show lkB (m + 1) (bkV s (m + 1) d) = false by unfold lkB; exact decide_eq_false (fun q => by have := q.2; omega)] at HL2
          have HL2 := Lib.hid HL2
          have x3 : ¬ bkV s (m + 1) d < (m : Int) + 1 := by omega
          generalize bkV s (m + 1) d = v at *
          clear x1 x2 HX HK
          refine HK1.out.mono ?_
          rintro e w7 ⟨rfl, hb⟩
          have HB7 := Lib.hid (onF HB5.out hb)
          have HP7 := Lib.hid (HP5.out.keep hb)
          clear hb HK1 k0 k1
          go_wp2_with fail
          refine (HL2.out _ HP7.out).mono ?_
          rintro e w8 ⟨rfl, rfl⟩
          go_wp2_with fail
          go_roundw
          case rel => exact ⟨i + 1, m + 1, HLt.out, by have := HM.out; omega, by go_num, by go_num, HP7.out, HB7.out⟩
          case measure => have := HLt.out; simp [RowKit.intOf]; omega
      · have HLk1 := fun w' hk => HLk.out w' m hk p c
        rw [if_neg cz] at HLk1
        have HLk1 := Lib.hid HLk1
        have HE2 := fun w' hk => HE.out w' m hk
        rw [e1, e2] at HE2
        have HE2 := Lib.hid HE2
        have HK := Lib.hid (fun w' hk => HBk.out w' m hk)
        have HX := Lib.hid (bk_any (s := s) (l := m) (d := d) (by omega) h4 (by omega))
        have HKD := Lib.hid (And.intro k0 k1)
        have bz : (lkE s m p c == 0) = false := beq_false_of_ne cz
        generalize lkE s m p c = u at *
        clear e1 e2 HE HLk HSp HBk k0 k1 hlt hm HV cz
        go_wp2_with fail
        refine HE1.out.mono ?_
        rintro e w2 ⟨rfl, hb⟩
        have HB2 := Lib.hid (onF HB1.out hb)
        have HP2 := Lib.hid (HP1.out.keep hb)
        have k0 := keepF hb HKD.out.1
        have k1 := keepF hb HKD.out.2
        clear hb HE1 HKD
        go_wp2_with fail
        have HQ := Lib.hid (HLk1.out w2.drew HP2.out.drew)
        go_region_held3 (fun w' => w'.cell? ⟨g, o + i * 2, none⟩ = some (.int .i64 p) ∧ w'.cell? ⟨g, o + i * 2 + 1, none⟩ = some (.int .i64 c)) (first | (with_reducible exact ⟨k0, k1⟩) | go_keep)
          (first
          | (go_at_call 12; (with_reducible refine HQ.out.mono ?_); rintro e w3 ⟨rfl, hp, ho⟩; have k0 := ho.cell (w := w2.drew) k0 (fun e => by have := HG.out; omega); have k1 := ho.cell (w := w2.drew) k1 (fun e => by have := HG.out; omega)))
        have HB3 := Lib.hid (HB2.out.trans ((Below.refl _ _).drew.trans (ho.below (n := w.heap.size) (fun k e => Nat.le_of_eq e.symm) HB2.out.size)))
        have HP3 := Lib.hid hp
        clear hp ho HQ
        go_wp2_with fail
        refine (HE2.out _ HP3.out).mono ?_
        rintro e w4 ⟨rfl, hb⟩
        have HB4 := Lib.hid (onF HB3.out hb)
        have HP4 := Lib.hid (HP3.out.keep hb)
        have k0 := keepF hb k0
        have k1 := keepF hb k1
        clear hb HE2
        go_wp2_with fail
        have HK1 := HK.out _ HP4.out
        rcases HX.out with x1 | ⟨x1, x2⟩
        · rw [x1] at HK1
          have HK1 := Lib.hid HK1
          clear x1 HX HK
          refine HK1.out.mono ?_
          rintro e w7 ⟨rfl, hb⟩
          have HB7 := Lib.hid (onF HB4.out hb)
          have HP7 := Lib.hid (HP4.out.keep hb)
          clear hb HK1 k0 k1
          go_wp2_with fail
          go_roundw
          case rel => exact ⟨i + 1, m, HLt.out, by have := HM.out; omega, by go_num, by go_num, HP7.out, HB7.out⟩
          case measure => have := HLt.out; simp [RowKit.intOf]; omega
        · rw [x1] at HK1
          have HK1 := Lib.hid HK1
          have HL2 := fun w' hk => HLc.out w' m hk (bkV s m d)
          rw [show lkB m (bkV s m d) = false by unfold lkB; exact decide_eq_false (fun q => by have := q.2; omega)] at HL2
          have HL2 := Lib.hid HL2
          have x3 : ¬ bkV s m d < (m : Int) := by omega
          generalize bkV s m d = v at *
          clear x1 x2 HX HK
          refine HK1.out.mono ?_
          rintro e w7 ⟨rfl, hb⟩
          have HB7 := Lib.hid (onF HB4.out hb)
          have HP7 := Lib.hid (HP4.out.keep hb)
          clear hb HK1 k0 k1
          go_wp2_with fail
          refine (HL2.out _ HP7.out).mono ?_
          rintro e w8 ⟨rfl, rfl⟩
          go_wp2_with fail
          go_roundw
          case rel => exact ⟨i + 1, m, HLt.out, by have := HM.out; omega, by go_num, by go_num, HP7.out, HB7.out⟩
          case measure => have := HLt.out; simp [RowKit.intOf]; omega
    · obtain rfl : i = L.length := by omega
      have p1 : ¬ (L.length : Int) < (L.length : Int) := by omega
      clear HE HLk HSp HBk HV hi
      go_wp2_with fail
      go_loopw [21] (fun vi wx => ∃ k : Nat, k ≤ m ∧ vi = .int .i64 (k : Nat) ∧ wx = wr) (fun vi _ => m - (RowKit.intOf vi).toNat)
      case atStart => exact ⟨0, by omega, rfl, rfl⟩
      case round =>
        obtain ⟨k, hk, rfl, hw⟩ := hrel
        subst hw
        by_cases c : k < m
        · have k1 : (k : Int) < (m : Int) := by omega
          have HC := Lib.hid c
          have hq := HLc.out wr m HP1.out (k : Int)
          rw [show lkB m (k : Int) = true by unfold lkB; exact decide_eq_true (by omega)] at hq
          have HQ := Lib.hid hq
          clear c hk hq
          go_wp2_with fail
          refine HQ.out.mono ?_
          rintro e w8 ⟨rfl, rfl⟩
          go_wp2_with fail
          go_roundw
          case rel => exact ⟨k + 1, HC.out, by go_num, by first | rfl | trivial⟩
          case measure => have := HC.out; simp [RowKit.intOf]; omega
        · obtain rfl : k = m := by omega
          have k1 : ¬ (k : Int) < (k : Int) := by omega
          have hq := HLc.out wr k HP1.out (k : Int)
          rw [show lkB k (k : Int) = false by unfold lkB; exact decide_eq_false (by omega)] at hq
          have HQ := Lib.hid hq
          clear c hk hq
          go_wp2_with fail
          refine HQ.out.mono ?_
          rintro e w8 ⟨rfl, rfl⟩
          go_wp2_with fail
          refine (HA.out _).mono ?_
          rintro e wz ⟨rfl, hbz⟩
          have HBZ := Lib.hid (onF HB1.out hbz)
          clear hbz
          go_wp2_with fail
          go_ret
          exact ⟨rfl, HBZ.out⟩
theorem stay13_walk (w : World) (s : Int) (v : Value) (L : List Tw) (d : Int) (hv : SlTw w v L) : Calls Try.prog 3 #[.int .i64 s, v, .int .i64 d] w fun e w' => e = .returned (.bool true) ∧ Below w.heap.size w w' := by
  obtain ⟨a, cap, rfl⟩ := hv.slice
  by_cases c : s < 1 ∨ 400 < s
  · exact stay_no w s a _ cap d c
  obtain ⟨s, rfl⟩ : ∃ k : Nat, s = k := ⟨s.toNat, by omega⟩
  by_cases c1 : s < 20
  · exact stay_small w s a _ cap d (by omega) c1
  by_cases c2 : 30 < L.length
  · exact stay_long w s a _ cap d (by omega) (by omega) c2 hv.len
  exact stay_in w s a _ cap L d (by omega) (by omega) (by omega) rfl hv

end Go.Proofs.Ytjddmgmblohpaaa

/-
  chattellaw08.ValueParts: its walk (written by gen_vparts.py).
-/
import Derived.Test.YtfkaliammmpcfaaDoorVlN
namespace Go.Proofs.YtfkaliammmpcfaaDoor
open Go.RowKit Go.Lib Go.Shelf Go.Maps
set_option linter.unusedVariables false
set_option linter.unusedSimpArgs false

theorem row_new (w : World) (op : Int) : OwnN (w.alloc (.cells #[.int .i64 op, .int .i64 0, .int .i64 0, .int .i64 0, .int .i64 0] 56)) w.heap.size (.slice (some ⟨w.heap.size, 0, none⟩) 1 1) [⟨op, 0, 0, 0, 0⟩] := OwnN.one w w.heap.size ⟨op, 0, 0, 0, 0⟩ (Nat.le_refl _)
theorem bdT_row {op : Int} {a b : List Nd} (ha : BdT a) (hb : BdT b) : BdT (⟨op, 0, 0, 0, 0⟩ :: (a ++ b)) := bdT_app (bdT_one op) (bdT_app ha hb)
theorem row_eq (op : Int) (a b : List Nd) : ([(⟨op, 0, 0, 0, 0⟩ : Nd)] ++ a) ++ b = ⟨op, 0, 0, 0, 0⟩ :: (a ++ b) := by simp
/-- The cells of a value that is kept aside. -/
structure VcS (w : World) (X : Nat) (b : Bool) (n d : Int) : Prop where
  c0 : w.cell? ⟨X, 0, none⟩ = some (.bool b)
  c1 : w.cell? ⟨X, 1, none⟩ = some (.int .i64 n)
  c2 : w.cell? ⟨X, 2, none⟩ = some (.int .i64 d)
theorem VcS.keep {w w' : World} {X : Nat} {b : Bool} {n d : Int} (h : VcS w X b n d) (hb : Below w.heap.size w w') : VcS w' X b n d := ⟨keepF hb h.c0, keepF hb h.c1, keepF hb h.c2⟩
theorem VcS.new (w : World) (b : Bool) (n d : Int) : VcS (w.alloc (.cells #[.bool b, .int .i64 n, .int .i64 d] 45)) w.heap.size b n d := by
  refine ⟨?_, ?_, ?_⟩
  all_goals rw [World.cell?_alloc_at _ _ _ _ rfl]
  all_goals rfl
theorem vals_of (v : Option (Option Rat)) : ∃ b n d, b = vB v ∧ n = vN v ∧ d = vD v := ⟨_, _, _, rfl, rfl, rfl⟩
set_option maxRecDepth 100000 in
set_option maxHeartbeats 16000000 in
theorem vparts_walk (w : World) (a : List Nd) (hba : BdT a) (va : Value) (ha : SlT w va a) (b : List Nd) (hbb : BdT b) (vb : Value) (hb : SlT w vb b) (L : List Tol) (v1 : Value) (h1 : SlTol w v1 L) (hok : ∀ j, j < L.length → (L.getD j default).Ok) (day : Int) (hd : I64 day) (C : KndW w) :
    Calls Tryd.prog 5 #[.agg #[va, vb], v1, .int .i64 day] w fun e w' => e = .returned (.bool true) ∧ Below w.heap.size w w' := by
  have HAw := Lib.hid (fun (w' : World) (hb : Below w.heap.size w w') => awake8_any w' (C.keep hb))
  have HS := Lib.hid (And.intro ha (And.intro hb h1))
  obtain ⟨aa, ac, rfl⟩ := ha.slice
  obtain ⟨ba, bc, rfl⟩ := hb.slice
  obtain ⟨a1, c1, rfl⟩ : ∃ a c, v1 = .slice a L.length c := by
    rcases h1 with ⟨rfl, a, c, rfl⟩ | ⟨_, b, o, c, rfl, _⟩
    · exact ⟨_, _, rfl⟩
    · exact ⟨_, _, rfl⟩
  have HB0 := Lib.hid (newF w (.cells #[.slice aa a.length ac, .slice ba b.length bc] 54))
  have r0 : (w.alloc (.cells #[.slice aa a.length ac, .slice ba b.length bc] 54)).cell? ⟨w.heap.size, 0, none⟩ = some (.slice aa a.length ac) := by rw [World.cell?_alloc_at _ _ _ _ rfl]; rfl
  have r1 : (w.alloc (.cells #[.slice aa a.length ac, .slice ba b.length bc] 54)).cell? ⟨w.heap.size, 1, none⟩ = some (.slice ba b.length bc) := by rw [World.cell?_alloc_at _ _ _ _ rfl]; rfl
  by_cases l0 : 30 < a.length
  · have i_l0 : (30 : Int) < (a.length : Int) := by omega
    clear ha hb h1 hok hba hbb C HS
    go_enter Tryd.func5, Tryd.ntmps5
    go_wp2_with fail
    clear r0 r1
    refine (HAw.out _ HB0.out).mono ?_
    rintro e wz ⟨rfl, hbz⟩
    have HBz := Lib.hid (onF HB0.out hbz)
    clear hbz
    go_wp2_with fail
    go_ret
    exact ⟨rfl, HBz.out⟩
  have i_l0 : ¬ (30 : Int) < (a.length : Int) := by omega
  by_cases l1 : 30 < b.length
  · have i_l1 : (30 : Int) < (b.length : Int) := by omega
    clear ha hb h1 hok hba hbb C HS
    go_enter Tryd.func5, Tryd.ntmps5
    go_wp2_with fail
    clear r0 r1
    refine (HAw.out _ HB0.out).mono ?_
    rintro e wz ⟨rfl, hbz⟩
    have HBz := Lib.hid (onF HB0.out hbz)
    clear hbz
    go_wp2_with fail
    go_ret
    exact ⟨rfl, HBz.out⟩
  have i_l1 : ¬ (30 : Int) < (b.length : Int) := by omega
  by_cases l2 : 60 < L.length
  · have i_l2 : (60 : Int) < (L.length : Int) := by omega
    clear ha hb h1 hok hba hbb C HS
    go_enter Tryd.func5, Tryd.ntmps5
    go_wp2_with fail
    clear r0 r1
    refine (HAw.out _ HB0.out).mono ?_
    rintro e wz ⟨rfl, hbz⟩
    have HBz := Lib.hid (onF HB0.out hbz)
    clear hbz
    go_wp2_with fail
    go_ret
    exact ⟨rfl, HBz.out⟩
  have i_l2 : ¬ (60 : Int) < (L.length : Int) := by omega
  have HWa := Lib.hid (lwrong_any a (by omega) hba _ _ (ha.keep HB0.out) 0)
  have HWb := Lib.hid (fun (w' : World) (hb' : Below w.heap.size w w') => lwrong_any b (by omega) hbb _ w' (hb.keep hb') 0)
  by_cases ea : wrN a 0 = 0
  rotate_left
  · have ea' : (wrN a 0 != 0) = true := bne_iff_ne.2 ea
    clear ha hb h1 hok hba hbb C HS HWb
    generalize wrN a 0 = k at *
    go_enter Tryd.func5, Tryd.ntmps5
    go_wp2_with fail
    refine HWa.out.mono ?_
    rintro e w1 ⟨rfl, hb1⟩
    have HB1 := Lib.hid (onF HB0.out hb1)
    clear hb1 r0 r1
    go_wp2_with fail
    refine (HAw.out _ HB1.out).mono ?_
    rintro e wz ⟨rfl, hbz⟩
    have HBz := Lib.hid (onF HB1.out hbz)
    clear hbz
    go_wp2_with fail
    go_ret
    exact ⟨rfl, HBz.out⟩
  rw [ea] at HWa
  by_cases eb : wrN b 0 = 0
  rotate_left
  · have eb' : (wrN b 0 != 0) = true := bne_iff_ne.2 eb
    clear ha hb h1 hok hba hbb C HS ea
    generalize wrN b 0 = k at *
    go_enter Tryd.func5, Tryd.ntmps5
    go_wp2_with fail
    refine HWa.out.mono ?_
    rintro e w1 ⟨rfl, hb1⟩
    have HB1 := Lib.hid (onF HB0.out hb1)
    clear hb1 r0 r1
    go_wp2_with fail
    refine (HWb.out _ HB1.out).mono ?_
    rintro e w2 ⟨rfl, hb2⟩
    have HB2 := Lib.hid (onF HB1.out hb2)
    clear hb2
    go_wp2_with fail
    refine (HAw.out _ HB2.out).mono ?_
    rintro e wz ⟨rfl, hbz⟩
    have HBz := Lib.hid (onF HB2.out hbz)
    clear hbz
    go_wp2_with fail
    go_ret
    exact ⟨rfl, HBz.out⟩
  rw [eb] at HWb
  have HMd := Lib.hid (fun (w' : World) (hs : SlTol w' (.slice a1 L.length c1) L) => made_any w' _ L hs hok)
  have hrel := rel_made L L.length (Nat.le_refl _) hok
  rw [List.take_length] at hrel
  have HRel := Lib.hid (And.intro hrel.1 (plF_ok L (ok_mem hok)))
  have HBd := Lib.hid (And.intro hba hbb)
  have HC := Lib.hid C
  have HL := Lib.hid (show a.length ≤ 30 ∧ b.length ≤ 30 ∧ ¬ 60 < L.length from ⟨by omega, by omega, l2⟩)
  have HE := Lib.hid (And.intro ea eb)
  clear hrel ha hb h1 hok hba hbb C l0 l1 l2 ea eb
  go_enter Tryd.func5, Tryd.ntmps5
  go_wp2_with fail
  refine HWa.out.mono ?_
  rintro e w1 ⟨rfl, hb1⟩
  have HB1 := Lib.hid (onF HB0.out hb1)
  clear hb1 r0 r1
  go_wp2_with fail
  refine (HWb.out _ HB1.out).mono ?_
  rintro e w2 ⟨rfl, hb2⟩
  have HB2 := Lib.hid (onF HB1.out hb2)
  clear hb2 HB1 HWa HWb
  go_wp2_with fail
  refine (HMd.out _ (HS.out.2.2.keep HB2.out)).mono ?_
  rintro e W0 ⟨B, bf, bcc, rfl, hm, hB, hbf, hbc, hb3⟩
  have HM0 := Lib.hid hm
  have HB3 := Lib.hid (onF HB2.out hb3)
  have HA0 := Lib.hid (HS.out.1.keep HB3.out)
  have HD0 := Lib.hid (HS.out.2.1.keep HB3.out)
  clear hm hB hbf hbc hb3 HMd HB2 i_l0 i_l1 i_l2
  have HO0 := Lib.hid (row_new W0 4)
  go_upto_region 10 with (at_builtin; refine wpList_append_nodes rfl (.tmp 67) (.tmp 68) rfl W0.heap.size _ [⟨4, 0, 0, 0, 0⟩] rfl ?qA1_0 _ a rfl ?qA2_0 ?qA3_0 ?qA4_0 ?qA5_0; (case qA1_0 => exact HO0.out); (case qA2_0 => exact HA0.out.keep (newF W0 _)); (case qA3_0 => (have := HL.out.1; have := HL.out.2.1; simp; omega)); (case qA4_0 => simp); (intro u0 U0 ho hg hat); (have HU0 := Lib.hid ho); (have HV0 := Lib.hid (below_nodes (newF W0 _) HO0.out (Nat.le_refl _) (by simp) hg)); clear ho hg hat)
  go_upto_region 11 with (at_builtin; refine wpList_append_nodes rfl (.tmp 70) (.tmp 71) rfl W0.heap.size _ ([(⟨4, 0, 0, 0, 0⟩ : Nd)] ++ a) rfl ?qB1_0 _ b rfl ?qB2_0 ?qB3_0 ?qB4_0 ?qB5_0; (case qB1_0 => exact HU0.out); (case qB2_0 => exact HD0.out.keep HV0.out); (case qB3_0 => (have := HL.out.1; have := HL.out.2.1; simp; omega)); (case qB4_0 => exact HV0.out.size); (intro vs W1 ho hg hat); (have HT1 := Lib.hid ho); (have HC1 := Lib.hid (below_nodes HV0.out HU0.out (Nat.le_refl _) HV0.out.size hg)); clear ho hg hat)
  have HRs : Hid (∀ w', Below W1.heap.size W1 w' → SlT w' vs (⟨4, 0, 0, 0, 0⟩ :: (a ++ b))) := Lib.hid (fun w' hb => by
    have := HT1.out.sl.keep hb
    rwa [row_eq] at this)
  have HA1 := Lib.hid (HA0.out.keep HC1.out)
  have HD1 := Lib.hid (HD0.out.keep HC1.out)
  have HM1 := Lib.hid (HM0.out.keep HC1.out)
  have HN1 := Lib.hid (HC1.out)
  clear HO0 HU0 HV0 HT1 HA0 HD0 HM0
  have HO1 := Lib.hid (row_new W1 4)
  go_upto_region 13 with (at_builtin; refine wpList_append_nodes rfl (.tmp 75) (.tmp 76) rfl W1.heap.size _ [⟨4, 0, 0, 0, 0⟩] rfl ?qA1_1 _ b rfl ?qA2_1 ?qA3_1 ?qA4_1 ?qA5_1; (case qA1_1 => exact HO1.out); (case qA2_1 => exact HD1.out.keep (newF W1 _)); (case qA3_1 => (have := HL.out.1; have := HL.out.2.1; simp; omega)); (case qA4_1 => simp); (intro u1 U1 ho hg hat); (have HU1 := Lib.hid ho); (have HV1 := Lib.hid (below_nodes (newF W1 _) HO1.out (Nat.le_refl _) (by simp) hg)); clear ho hg hat)
  go_upto_region 14 with (at_builtin; refine wpList_append_nodes rfl (.tmp 78) (.tmp 79) rfl W1.heap.size _ ([(⟨4, 0, 0, 0, 0⟩ : Nd)] ++ b) rfl ?qB1_1 _ a rfl ?qB2_1 ?qB3_1 ?qB4_1 ?qB5_1; (case qB1_1 => exact HU1.out); (case qB2_1 => exact HA1.out.keep HV1.out); (case qB3_1 => (have := HL.out.1; have := HL.out.2.1; simp; omega)); (case qB4_1 => exact HV1.out.size); (intro vt W2 ho hg hat); (have HT2 := Lib.hid ho); (have HC2 := Lib.hid (below_nodes HV1.out HU1.out (Nat.le_refl _) HV1.out.size hg)); clear ho hg hat)
  have HRt : Hid (∀ w', Below W2.heap.size W2 w' → SlT w' vt (⟨4, 0, 0, 0, 0⟩ :: (b ++ a))) := Lib.hid (fun w' hb => by
    have := HT2.out.sl.keep hb
    rwa [row_eq] at this)
  have HA2 := Lib.hid (HA1.out.keep HC2.out)
  have HD2 := Lib.hid (HD1.out.keep HC2.out)
  have HM2 := Lib.hid (HM1.out.keep HC2.out)
  have HN2 := Lib.hid (onF HN1.out HC2.out)
  have HRs2 := Lib.hid (fun (w' : World) (hb : Below W2.heap.size W2 w') => HRs.out w' (onF HC2.out hb))
  clear HRs
  have HRs := HRs2
  clear HRs2
  clear HO1 HU1 HV1 HT2 HA1 HD1 HM1
  have HO2 := Lib.hid (row_new W2 5)
  go_upto_region 16 with (at_builtin; refine wpList_append_nodes rfl (.tmp 83) (.tmp 84) rfl W2.heap.size _ [⟨5, 0, 0, 0, 0⟩] rfl ?qA1_2 _ a rfl ?qA2_2 ?qA3_2 ?qA4_2 ?qA5_2; (case qA1_2 => exact HO2.out); (case qA2_2 => exact HA2.out.keep (newF W2 _)); (case qA3_2 => (have := HL.out.1; have := HL.out.2.1; simp; omega)); (case qA4_2 => simp); (intro u2 U2 ho hg hat); (have HU2 := Lib.hid ho); (have HV2 := Lib.hid (below_nodes (newF W2 _) HO2.out (Nat.le_refl _) (by simp) hg)); clear ho hg hat)
  go_upto_region 17 with (at_builtin; refine wpList_append_nodes rfl (.tmp 86) (.tmp 87) rfl W2.heap.size _ ([(⟨5, 0, 0, 0, 0⟩ : Nd)] ++ a) rfl ?qB1_2 _ a rfl ?qB2_2 ?qB3_2 ?qB4_2 ?qB5_2; (case qB1_2 => exact HU2.out); (case qB2_2 => exact HA2.out.keep HV2.out); (case qB3_2 => (have := HL.out.1; have := HL.out.2.1; simp; omega)); (case qB4_2 => exact HV2.out.size); (intro vm W3 ho hg hat); (have HT3 := Lib.hid ho); (have HC3 := Lib.hid (below_nodes HV2.out HU2.out (Nat.le_refl _) HV2.out.size hg)); clear ho hg hat)
  have HRm : Hid (∀ w', Below W3.heap.size W3 w' → SlT w' vm (⟨5, 0, 0, 0, 0⟩ :: (a ++ a))) := Lib.hid (fun w' hb => by
    have := HT3.out.sl.keep hb
    rwa [row_eq] at this)
  have HA3 := Lib.hid (HA2.out.keep HC3.out)
  have HD3 := Lib.hid (HD2.out.keep HC3.out)
  have HM3 := Lib.hid (HM2.out.keep HC3.out)
  have HN3 := Lib.hid (onF HN2.out HC3.out)
  have HRs3 := Lib.hid (fun (w' : World) (hb : Below W3.heap.size W3 w') => HRs.out w' (onF HC3.out hb))
  clear HRs
  have HRs := HRs3
  clear HRs3
  have HRt3 := Lib.hid (fun (w' : World) (hb : Below W3.heap.size W3 w') => HRt.out w' (onF HC3.out hb))
  clear HRt
  have HRt := HRt3
  clear HRt3
  clear HO2 HU2 HV2 HT3 HA2 HD2 HM2
  have HO3 := Lib.hid (row_new W3 7)
  go_upto_region 19 with (at_builtin; refine wpList_append_nodes rfl (.tmp 91) (.tmp 92) rfl W3.heap.size _ [⟨7, 0, 0, 0, 0⟩] rfl ?qA1_3 _ a rfl ?qA2_3 ?qA3_3 ?qA4_3 ?qA5_3; (case qA1_3 => exact HO3.out); (case qA2_3 => exact HA3.out.keep (newF W3 _)); (case qA3_3 => (have := HL.out.1; have := HL.out.2.1; simp; omega)); (case qA4_3 => simp); (intro u3 U3 ho hg hat); (have HU3 := Lib.hid ho); (have HV3 := Lib.hid (below_nodes (newF W3 _) HO3.out (Nat.le_refl _) (by simp) hg)); clear ho hg hat)
  go_upto_region 20 with (at_builtin; refine wpList_append_nodes rfl (.tmp 94) (.tmp 95) rfl W3.heap.size _ ([(⟨7, 0, 0, 0, 0⟩ : Nd)] ++ a) rfl ?qB1_3 _ b rfl ?qB2_3 ?qB3_3 ?qB4_3 ?qB5_3; (case qB1_3 => exact HU3.out); (case qB2_3 => exact HD3.out.keep HV3.out); (case qB3_3 => (have := HL.out.1; have := HL.out.2.1; simp; omega)); (case qB4_3 => exact HV3.out.size); (intro vl W4 ho hg hat); (have HT4 := Lib.hid ho); (have HC4 := Lib.hid (below_nodes HV3.out HU3.out (Nat.le_refl _) HV3.out.size hg)); clear ho hg hat)
  have HRl : Hid (∀ w', Below W4.heap.size W4 w' → SlT w' vl (⟨7, 0, 0, 0, 0⟩ :: (a ++ b))) := Lib.hid (fun w' hb => by
    have := HT4.out.sl.keep hb
    rwa [row_eq] at this)
  have HA4 := Lib.hid (HA3.out.keep HC4.out)
  have HD4 := Lib.hid (HD3.out.keep HC4.out)
  have HM4 := Lib.hid (HM3.out.keep HC4.out)
  have HN4 := Lib.hid (onF HN3.out HC4.out)
  have HRs4 := Lib.hid (fun (w' : World) (hb : Below W4.heap.size W4 w') => HRs.out w' (onF HC4.out hb))
  clear HRs
  have HRs := HRs4
  clear HRs4
  have HRt4 := Lib.hid (fun (w' : World) (hb : Below W4.heap.size W4 w') => HRt.out w' (onF HC4.out hb))
  clear HRt
  have HRt := HRt4
  clear HRt4
  have HRm4 := Lib.hid (fun (w' : World) (hb : Below W4.heap.size W4 w') => HRm.out w' (onF HC4.out hb))
  clear HRm
  have HRm := HRm4
  clear HRm4
  clear HO3 HU3 HV3 HT4 HA3 HD3 HM3
  have HO4 := Lib.hid (row_new W4 8)
  go_upto_region 22 with (at_builtin; refine wpList_append_nodes rfl (.tmp 99) (.tmp 100) rfl W4.heap.size _ [⟨8, 0, 0, 0, 0⟩] rfl ?qA1_4 _ a rfl ?qA2_4 ?qA3_4 ?qA4_4 ?qA5_4; (case qA1_4 => exact HO4.out); (case qA2_4 => exact HA4.out.keep (newF W4 _)); (case qA3_4 => (have := HL.out.1; have := HL.out.2.1; simp; omega)); (case qA4_4 => simp); (intro u4 U4 ho hg hat); (have HU4 := Lib.hid ho); (have HV4 := Lib.hid (below_nodes (newF W4 _) HO4.out (Nat.le_refl _) (by simp) hg)); clear ho hg hat)
  go_upto_region 23 with (at_builtin; refine wpList_append_nodes rfl (.tmp 102) (.tmp 103) rfl W4.heap.size _ ([(⟨8, 0, 0, 0, 0⟩ : Nd)] ++ a) rfl ?qB1_4 _ b rfl ?qB2_4 ?qB3_4 ?qB4_4 ?qB5_4; (case qB1_4 => exact HU4.out); (case qB2_4 => exact HD4.out.keep HV4.out); (case qB3_4 => (have := HL.out.1; have := HL.out.2.1; simp; omega)); (case qB4_4 => exact HV4.out.size); (intro vg W5 ho hg hat); (have HT5 := Lib.hid ho); (have HC5 := Lib.hid (below_nodes HV4.out HU4.out (Nat.le_refl _) HV4.out.size hg)); clear ho hg hat)
  have HRg : Hid (∀ w', Below W5.heap.size W5 w' → SlT w' vg (⟨8, 0, 0, 0, 0⟩ :: (a ++ b))) := Lib.hid (fun w' hb => by
    have := HT5.out.sl.keep hb
    rwa [row_eq] at this)
  have HA5 := Lib.hid (HA4.out.keep HC5.out)
  have HD5 := Lib.hid (HD4.out.keep HC5.out)
  have HM5 := Lib.hid (HM4.out.keep HC5.out)
  have HN5 := Lib.hid (onF HN4.out HC5.out)
  have HRs5 := Lib.hid (fun (w' : World) (hb : Below W5.heap.size W5 w') => HRs.out w' (onF HC5.out hb))
  clear HRs
  have HRs := HRs5
  clear HRs5
  have HRt5 := Lib.hid (fun (w' : World) (hb : Below W5.heap.size W5 w') => HRt.out w' (onF HC5.out hb))
  clear HRt
  have HRt := HRt5
  clear HRt5
  have HRm5 := Lib.hid (fun (w' : World) (hb : Below W5.heap.size W5 w') => HRm.out w' (onF HC5.out hb))
  clear HRm
  have HRm := HRm5
  clear HRm5
  have HRl5 := Lib.hid (fun (w' : World) (hb : Below W5.heap.size W5 w') => HRl.out w' (onF HC5.out hb))
  clear HRl
  have HRl := HRl5
  clear HRl5
  clear HO4 HU4 HV4 HT5 HA4 HD4 HM4
  have HB5 := Lib.hid (onF HB3.out HN5.out)
  clear HC1 HC2 HC3 HC4 HC5 HN1 HN2 HN3 HN4 HN5 HB3
  have HOs := Lib.hid (rofT_any (⟨4, 0, 0, 0, 0⟩ :: (a ++ b)) (by have := HL.out; simp; omega) (bdT_row HBd.out.1 HBd.out.2) _ W5 (HRs.out _ (Below.refl _ _)))
  have HOm := Lib.hid (fun (w' : World) (hb : Below W5.heap.size W5 w') => rofT_any (⟨5, 0, 0, 0, 0⟩ :: (a ++ a)) (by have := HL.out; simp; omega) (bdT_row HBd.out.1 HBd.out.1) _ w' (HRm.out _ hb))
  by_cases hz : (ofK (⟨4, 0, 0, 0, 0⟩ :: (a ++ b))).2 = 0
  rotate_left
  · have hz' : ((((ofK (⟨4, 0, 0, 0, 0⟩ :: (a ++ b))).2 : Nat) : Int) != 0) = true := bne_iff_ne.2 (by omega)
    clear HRs HRt HRm HRl HRg HA5 HD5 HM5 HRel HS
    generalize (ofK (⟨4, 0, 0, 0, 0⟩ :: (a ++ b))).2 = k at *
    generalize (ofK (⟨5, 0, 0, 0, 0⟩ :: (a ++ a))).2 = k2 at *
    generalize ofS (⟨4, 0, 0, 0, 0⟩ :: (a ++ b)) = S at *
    generalize ofS (⟨5, 0, 0, 0, 0⟩ :: (a ++ a)) = S2 at *
    go_wp2_with fail
    refine HOs.out.mono ?_
    rintro e w6 ⟨rfl, hb6⟩
    have HB6 := Lib.hid (onF HB5.out hb6)
    have HOm6 := Lib.hid (HOm.out _ hb6)
    clear hb6 HOm
    go_wp2_with fail
    refine HOm6.out.mono ?_
    rintro e w7 ⟨rfl, hb7⟩
    have HB7 := Lib.hid (onF HB6.out hb7)
    clear hb7
    go_wp2_with fail
    refine (HAw.out _ HB7.out).mono ?_
    rintro e wz ⟨rfl, hbz⟩
    have HBz := Lib.hid (onF HB7.out hbz)
    clear hbz
    go_wp2_with fail
    go_ret
    exact ⟨rfl, HBz.out⟩
  have hmz : (ofK (⟨5, 0, 0, 0, 0⟩ :: (a ++ a))).2 = 0 := by
    have hdep := (two_num (op := 4) (by decide) (by decide) HE.out.1 HE.out.2 (by have := HL.out; omega)).2 hz
    exact (num_nm ((two_num (op := 5) (by decide) (by decide) HE.out.1 HE.out.1 (by have := HL.out; omega)).1 (by omega)).1).1
  have HEq := Lib.hid (vparts_eq (l := plF L) HE.out.1 HE.out.2 HL.out.1 HL.out.2.1 hz day)
  rw [hz] at HOs
  rw [hmz] at HOm
  clear hz hmz
  generalize ofS (⟨4, 0, 0, 0, 0⟩ :: (a ++ b)) = S at *
  generalize ofS (⟨5, 0, 0, 0, 0⟩ :: (a ++ a)) = S2 at *
  go_wp2_with fail
  refine HOs.out.mono ?_
  rintro e w6 ⟨rfl, hb6⟩
  have HN6 := Lib.hid hb6
  have HOm6 := Lib.hid (HOm.out _ hb6)
  clear hb6 HOm HOs
  go_wp2_with fail
  refine HOm6.out.mono ?_
  rintro e w7 ⟨rfl, hb7⟩
  have HN7 := Lib.hid (onF HN6.out hb7)
  clear hb7 HN6 HOm6
  have HAt := Lib.hid (vat_any (⟨4, 0, 0, 0, 0⟩ :: (a ++ b)) (by have := HL.out; simp; omega) (bdT_row HBd.out.1 HBd.out.2) _ w7 (HRs.out _ HN7.out) (HC.out.keep (onF HB5.out HN7.out)) 0 day (HM5.out.keep HN7.out) HRel.out.1 HRel.out.2)
  obtain ⟨bvs, nvs, dvs, hvbs, hvns, hvds⟩ := vals_of (atV (⟨4, 0, 0, 0, 0⟩ :: (a ++ b)) (plF L) 0 day)
  obtain ⟨evs, hves⟩ : ∃ e, e = atE (⟨4, 0, 0, 0, 0⟩ :: (a ++ b)) (plF L) 0 day := ⟨_, rfl⟩
  rw [← hvbs, ← hvns, ← hvds, ← hves] at HAt
  have HVs := Lib.hid (And.intro hves (And.intro hvbs (And.intro hvns hvds)))
  clear hvbs hvns hvds hves
  go_wp2_with fail
  refine HAt.out.mono ?_
  rintro e w8 ⟨rfl, hb8⟩
  have HKs := Lib.hid (VcS.new w8 bvs nvs dvs)
  have HNn8 := Lib.hid (onF HN7.out (onF hb8 (newF w8 (.cells #[.bool bvs, .int .i64 nvs, .int .i64 dvs] 45))))
  clear hb8 HAt HN7
  have HAt := Lib.hid (vat_any (⟨4, 0, 0, 0, 0⟩ :: (b ++ a)) (by have := HL.out; simp; omega) (bdT_row HBd.out.2 HBd.out.1) _ (w8.alloc (.cells #[.bool bvs, .int .i64 nvs, .int .i64 dvs] 45)) (HRt.out _ HNn8.out) (HC.out.keep (onF HB5.out HNn8.out)) 0 day (HM5.out.keep HNn8.out) HRel.out.1 HRel.out.2)
  obtain ⟨bvt, nvt, dvt, hvbt, hvnt, hvdt⟩ := vals_of (atV (⟨4, 0, 0, 0, 0⟩ :: (b ++ a)) (plF L) 0 day)
  obtain ⟨evt, hvet⟩ : ∃ e, e = atE (⟨4, 0, 0, 0, 0⟩ :: (b ++ a)) (plF L) 0 day := ⟨_, rfl⟩
  rw [← hvbt, ← hvnt, ← hvdt, ← hvet] at HAt
  have HVt := Lib.hid (And.intro hvet (And.intro hvbt (And.intro hvnt hvdt)))
  clear hvbt hvnt hvdt hvet
  go_wp2_with fail
  refine HAt.out.mono ?_
  rintro e w9 ⟨rfl, hb9⟩
  have HKt := Lib.hid (VcS.new w9 bvt nvt dvt)
  have HNn9 := Lib.hid (onF HNn8.out (onF hb9 (newF w9 (.cells #[.bool bvt, .int .i64 nvt, .int .i64 dvt] 45))))
  have HKs' := Lib.hid (HKs.out.keep (onF hb9 (newF w9 (.cells #[.bool bvt, .int .i64 nvt, .int .i64 dvt] 45))))
  clear HKs
  have HKs := HKs'
  clear HKs'
  clear hb9 HAt HNn8
  have HAt := Lib.hid (vat_any (⟨5, 0, 0, 0, 0⟩ :: (a ++ a)) (by have := HL.out; simp; omega) (bdT_row HBd.out.1 HBd.out.1) _ (w9.alloc (.cells #[.bool bvt, .int .i64 nvt, .int .i64 dvt] 45)) (HRm.out _ HNn9.out) (HC.out.keep (onF HB5.out HNn9.out)) 0 day (HM5.out.keep HNn9.out) HRel.out.1 HRel.out.2)
  obtain ⟨bvm, nvm, dvm, hvbm, hvnm, hvdm⟩ := vals_of (atV (⟨5, 0, 0, 0, 0⟩ :: (a ++ a)) (plF L) 0 day)
  obtain ⟨evm, hvem⟩ : ∃ e, e = atE (⟨5, 0, 0, 0, 0⟩ :: (a ++ a)) (plF L) 0 day := ⟨_, rfl⟩
  rw [← hvbm, ← hvnm, ← hvdm, ← hvem] at HAt
  have HVm := Lib.hid (And.intro hvem (And.intro hvbm (And.intro hvnm hvdm)))
  clear hvbm hvnm hvdm hvem
  go_wp2_with fail
  refine HAt.out.mono ?_
  rintro e w10 ⟨rfl, hb10⟩
  have HKm := Lib.hid (VcS.new w10 bvm nvm dvm)
  have HNn10 := Lib.hid (onF HNn9.out (onF hb10 (newF w10 (.cells #[.bool bvm, .int .i64 nvm, .int .i64 dvm] 45))))
  have HKs' := Lib.hid (HKs.out.keep (onF hb10 (newF w10 (.cells #[.bool bvm, .int .i64 nvm, .int .i64 dvm] 45))))
  clear HKs
  have HKs := HKs'
  clear HKs'
  have HKt' := Lib.hid (HKt.out.keep (onF hb10 (newF w10 (.cells #[.bool bvm, .int .i64 nvm, .int .i64 dvm] 45))))
  clear HKt
  have HKt := HKt'
  clear HKt'
  clear hb10 HAt HNn9
  have HAt := Lib.hid (vat_any (⟨7, 0, 0, 0, 0⟩ :: (a ++ b)) (by have := HL.out; simp; omega) (bdT_row HBd.out.1 HBd.out.2) _ (w10.alloc (.cells #[.bool bvm, .int .i64 nvm, .int .i64 dvm] 45)) (HRl.out _ HNn10.out) (HC.out.keep (onF HB5.out HNn10.out)) 0 day (HM5.out.keep HNn10.out) HRel.out.1 HRel.out.2)
  obtain ⟨bvl, nvl, dvl, hvbl, hvnl, hvdl⟩ := vals_of (atV (⟨7, 0, 0, 0, 0⟩ :: (a ++ b)) (plF L) 0 day)
  obtain ⟨evl, hvel⟩ : ∃ e, e = atE (⟨7, 0, 0, 0, 0⟩ :: (a ++ b)) (plF L) 0 day := ⟨_, rfl⟩
  rw [← hvbl, ← hvnl, ← hvdl, ← hvel] at HAt
  have HVl := Lib.hid (And.intro hvel (And.intro hvbl (And.intro hvnl hvdl)))
  clear hvbl hvnl hvdl hvel
  go_wp2_with fail
  refine HAt.out.mono ?_
  rintro e w11 ⟨rfl, hb11⟩
  have HKl := Lib.hid (VcS.new w11 bvl nvl dvl)
  have HNn11 := Lib.hid (onF HNn10.out (onF hb11 (newF w11 (.cells #[.bool bvl, .int .i64 nvl, .int .i64 dvl] 45))))
  have HKs' := Lib.hid (HKs.out.keep (onF hb11 (newF w11 (.cells #[.bool bvl, .int .i64 nvl, .int .i64 dvl] 45))))
  clear HKs
  have HKs := HKs'
  clear HKs'
  have HKt' := Lib.hid (HKt.out.keep (onF hb11 (newF w11 (.cells #[.bool bvl, .int .i64 nvl, .int .i64 dvl] 45))))
  clear HKt
  have HKt := HKt'
  clear HKt'
  have HKm' := Lib.hid (HKm.out.keep (onF hb11 (newF w11 (.cells #[.bool bvl, .int .i64 nvl, .int .i64 dvl] 45))))
  clear HKm
  have HKm := HKm'
  clear HKm'
  clear hb11 HAt HNn10
  have HAt := Lib.hid (vat_any (⟨8, 0, 0, 0, 0⟩ :: (a ++ b)) (by have := HL.out; simp; omega) (bdT_row HBd.out.1 HBd.out.2) _ (w11.alloc (.cells #[.bool bvl, .int .i64 nvl, .int .i64 dvl] 45)) (HRg.out _ HNn11.out) (HC.out.keep (onF HB5.out HNn11.out)) 0 day (HM5.out.keep HNn11.out) HRel.out.1 HRel.out.2)
  obtain ⟨bvg, nvg, dvg, hvbg, hvng, hvdg⟩ := vals_of (atV (⟨8, 0, 0, 0, 0⟩ :: (a ++ b)) (plF L) 0 day)
  obtain ⟨evg, hveg⟩ : ∃ e, e = atE (⟨8, 0, 0, 0, 0⟩ :: (a ++ b)) (plF L) 0 day := ⟨_, rfl⟩
  rw [← hvbg, ← hvng, ← hvdg, ← hveg] at HAt
  have HVg := Lib.hid (And.intro hveg (And.intro hvbg (And.intro hvng hvdg)))
  clear hvbg hvng hvdg hveg
  go_wp2_with fail
  refine HAt.out.mono ?_
  rintro e w12 ⟨rfl, hb12⟩
  have HKg := Lib.hid (VcS.new w12 bvg nvg dvg)
  have HNn12 := Lib.hid (onF HNn11.out (onF hb12 (newF w12 (.cells #[.bool bvg, .int .i64 nvg, .int .i64 dvg] 45))))
  have HKs' := Lib.hid (HKs.out.keep (onF hb12 (newF w12 (.cells #[.bool bvg, .int .i64 nvg, .int .i64 dvg] 45))))
  clear HKs
  have HKs := HKs'
  clear HKs'
  have HKt' := Lib.hid (HKt.out.keep (onF hb12 (newF w12 (.cells #[.bool bvg, .int .i64 nvg, .int .i64 dvg] 45))))
  clear HKt
  have HKt := HKt'
  clear HKt'
  have HKm' := Lib.hid (HKm.out.keep (onF hb12 (newF w12 (.cells #[.bool bvg, .int .i64 nvg, .int .i64 dvg] 45))))
  clear HKm
  have HKm := HKm'
  clear HKm'
  have HKl' := Lib.hid (HKl.out.keep (onF hb12 (newF w12 (.cells #[.bool bvg, .int .i64 nvg, .int .i64 dvg] 45))))
  clear HKl
  have HKl := HKl'
  clear HKl'
  clear hb12 HAt HNn11
  have HAt := Lib.hid (vat_any a (by have := HL.out; simp; omega) HBd.out.1 _ (w12.alloc (.cells #[.bool bvg, .int .i64 nvg, .int .i64 dvg] 45)) (HA5.out.keep HNn12.out) (HC.out.keep (onF HB5.out HNn12.out)) 0 day (HM5.out.keep HNn12.out) HRel.out.1 HRel.out.2)
  obtain ⟨bvx, nvx, dvx, hvbx, hvnx, hvdx⟩ := vals_of (atV a (plF L) 0 day)
  obtain ⟨evx, hvex⟩ : ∃ e, e = atE a (plF L) 0 day := ⟨_, rfl⟩
  rw [← hvbx, ← hvnx, ← hvdx, ← hvex] at HAt
  have HVx := Lib.hid (And.intro hvex (And.intro hvbx (And.intro hvnx hvdx)))
  clear hvbx hvnx hvdx hvex
  go_wp2_with fail
  refine HAt.out.mono ?_
  rintro e w13 ⟨rfl, hb13⟩
  have HKx := Lib.hid (VcS.new w13 bvx nvx dvx)
  have HNn13 := Lib.hid (onF HNn12.out (onF hb13 (newF w13 (.cells #[.bool bvx, .int .i64 nvx, .int .i64 dvx] 45))))
  have HKs' := Lib.hid (HKs.out.keep (onF hb13 (newF w13 (.cells #[.bool bvx, .int .i64 nvx, .int .i64 dvx] 45))))
  clear HKs
  have HKs := HKs'
  clear HKs'
  have HKt' := Lib.hid (HKt.out.keep (onF hb13 (newF w13 (.cells #[.bool bvx, .int .i64 nvx, .int .i64 dvx] 45))))
  clear HKt
  have HKt := HKt'
  clear HKt'
  have HKm' := Lib.hid (HKm.out.keep (onF hb13 (newF w13 (.cells #[.bool bvx, .int .i64 nvx, .int .i64 dvx] 45))))
  clear HKm
  have HKm := HKm'
  clear HKm'
  have HKl' := Lib.hid (HKl.out.keep (onF hb13 (newF w13 (.cells #[.bool bvx, .int .i64 nvx, .int .i64 dvx] 45))))
  clear HKl
  have HKl := HKl'
  clear HKl'
  have HKg' := Lib.hid (HKg.out.keep (onF hb13 (newF w13 (.cells #[.bool bvx, .int .i64 nvx, .int .i64 dvx] 45))))
  clear HKg
  have HKg := HKg'
  clear HKg'
  clear hb13 HAt HNn12
  have HAt := Lib.hid (vat_any b (by have := HL.out; simp; omega) HBd.out.2 _ (w13.alloc (.cells #[.bool bvx, .int .i64 nvx, .int .i64 dvx] 45)) (HD5.out.keep HNn13.out) (HC.out.keep (onF HB5.out HNn13.out)) 0 day (HM5.out.keep HNn13.out) HRel.out.1 HRel.out.2)
  obtain ⟨bvy, nvy, dvy, hvby, hvny, hvdy⟩ := vals_of (atV b (plF L) 0 day)
  obtain ⟨evy, hvey⟩ : ∃ e, e = atE b (plF L) 0 day := ⟨_, rfl⟩
  rw [← hvby, ← hvny, ← hvdy, ← hvey] at HAt
  have HVy := Lib.hid (And.intro hvey (And.intro hvby (And.intro hvny hvdy)))
  clear hvby hvny hvdy hvey
  go_wp2_with fail
  refine HAt.out.mono ?_
  rintro e w14 ⟨rfl, hb14⟩
  have HKy := Lib.hid (VcS.new w14 bvy nvy dvy)
  have HNn14 := Lib.hid (onF HNn13.out (onF hb14 (newF w14 (.cells #[.bool bvy, .int .i64 nvy, .int .i64 dvy] 45))))
  have HKs' := Lib.hid (HKs.out.keep (onF hb14 (newF w14 (.cells #[.bool bvy, .int .i64 nvy, .int .i64 dvy] 45))))
  clear HKs
  have HKs := HKs'
  clear HKs'
  have HKt' := Lib.hid (HKt.out.keep (onF hb14 (newF w14 (.cells #[.bool bvy, .int .i64 nvy, .int .i64 dvy] 45))))
  clear HKt
  have HKt := HKt'
  clear HKt'
  have HKm' := Lib.hid (HKm.out.keep (onF hb14 (newF w14 (.cells #[.bool bvy, .int .i64 nvy, .int .i64 dvy] 45))))
  clear HKm
  have HKm := HKm'
  clear HKm'
  have HKl' := Lib.hid (HKl.out.keep (onF hb14 (newF w14 (.cells #[.bool bvy, .int .i64 nvy, .int .i64 dvy] 45))))
  clear HKl
  have HKl := HKl'
  clear HKl'
  have HKg' := Lib.hid (HKg.out.keep (onF hb14 (newF w14 (.cells #[.bool bvy, .int .i64 nvy, .int .i64 dvy] 45))))
  clear HKg
  have HKg := HKg'
  clear HKg'
  have HKx' := Lib.hid (HKx.out.keep (onF hb14 (newF w14 (.cells #[.bool bvy, .int .i64 nvy, .int .i64 dvy] 45))))
  clear HKx
  have HKx := HKx'
  clear HKx'
  clear hb14 HAt HNn13
  have s0 := HKs.out.c0
  have s1 := HKs.out.c1
  have s2 := HKs.out.c2
  have t0 := HKt.out.c0
  have t1 := HKt.out.c1
  have t2 := HKt.out.c2
  have m0 := HKm.out.c0
  have m1 := HKm.out.c1
  have m2 := HKm.out.c2
  have l0 := HKl.out.c0
  have l1 := HKl.out.c1
  have l2 := HKl.out.c2
  have g0 := HKg.out.c0
  have g1 := HKg.out.c1
  have g2 := HKg.out.c2
  have x0 := HKx.out.c0
  have x1 := HKx.out.c1
  have x2 := HKx.out.c2
  have y0 := HKy.out.c0
  have y1 := HKy.out.c1
  have y2 := HKy.out.c2
  have HBw := Lib.hid (onF HB5.out HNn14.out)
  have HAz := Lib.hid (HAw.out _ HBw.out)
  obtain ⟨q1, q2, q3, q4⟩ := HEq.out
  have te : evt = evs := HVt.out.1.trans (q1.trans HVs.out.1.symm)
  have tb : bvt = bvs := HVt.out.2.1.trans ((congrArg vB q2).trans HVs.out.2.1.symm)
  have tn : nvt = nvs := HVt.out.2.2.1.trans ((congrArg vN q2).trans HVs.out.2.2.1.symm)
  have td : dvt = dvs := HVt.out.2.2.2.trans ((congrArg vD q2).trans HVs.out.2.2.2.symm)
  have hm : evx = 0 → bvx = true → evm = 0 ∧ bvm = true ∧ nvm = 0 ∧ dvm = 1 := fun z1 z2 => by
    obtain ⟨y1, y2⟩ := q3 (HVx.out.1.symm.trans z1) (HVx.out.2.1.symm.trans z2)
    exact ⟨HVm.out.1.trans y1, HVm.out.2.1.trans (by rw [y2]; rfl), HVm.out.2.2.1.trans (by rw [y2]; rfl), HVm.out.2.2.2.trans (by rw [y2]; rfl)⟩
  have hq : (¬ (evx = 0 ∧ evy = 0) ∧ ∃ k : Int, k ≠ 0 ∧ (evl = k ∧ evg = k) ∧ bvl = false ∧ bvg = false) ∨ ((evx = 0 ∧ evy = 0) ∧ (evl = 0 ∧ evg = 0) ∧ ((bvl = false ∧ bvg = false) ∨ (bvl = true ∧ bvg = true ∧ bvx = true ∧ bvy = true ∧
      ((nvl = nvx ∧ dvl = dvx ∧ nvg = nvy ∧ dvg = dvy) ∨ (nvl = nvy ∧ dvl = dvy ∧ nvg = nvx ∧ dvg = dvx))))) := by
    rcases q4 with ⟨h1, k, hk, h2⟩ | ⟨h1, h2, h3⟩
    · refine .inl ⟨fun h => h1 ⟨HVx.out.1.symm.trans h.1, HVy.out.1.symm.trans h.2⟩, k, hk, ⟨HVl.out.1.trans (h2 7 (.inl rfl)).1, HVg.out.1.trans (h2 8 (.inr rfl)).1⟩, HVl.out.2.1.trans (h2 7 (.inl rfl)).2, HVg.out.2.1.trans (h2 8 (.inr rfl)).2⟩
    · refine .inr ⟨⟨HVx.out.1.trans h1.1, HVy.out.1.trans h1.2⟩, ⟨HVl.out.1.trans (h2 7 (.inl rfl)), HVg.out.1.trans (h2 8 (.inr rfl))⟩, ?_⟩
      rcases h3 with h3 | ⟨h3, h4, h5, h6⟩
      · exact .inl ⟨HVl.out.2.1.trans (h3 7 (.inl rfl)), HVg.out.2.1.trans (h3 8 (.inr rfl))⟩
      · refine .inr ⟨HVl.out.2.1.trans (h3 7 (.inl rfl)), HVg.out.2.1.trans (h3 8 (.inr rfl)), HVx.out.2.1.trans h4, HVy.out.2.1.trans h5, ?_⟩
        rcases h6 with ⟨z1, z2⟩ | ⟨z1, z2⟩
        · exact .inl ⟨HVl.out.2.2.1.trans ((congrArg vN z1).trans HVx.out.2.2.1.symm), HVl.out.2.2.2.trans ((congrArg vD z1).trans HVx.out.2.2.2.symm), HVg.out.2.2.1.trans ((congrArg vN z2).trans HVy.out.2.2.1.symm), HVg.out.2.2.2.trans ((congrArg vD z2).trans HVy.out.2.2.2.symm)⟩
        · exact .inr ⟨HVl.out.2.2.1.trans ((congrArg vN z1).trans HVy.out.2.2.1.symm), HVl.out.2.2.2.trans ((congrArg vD z1).trans HVy.out.2.2.2.symm), HVg.out.2.2.1.trans ((congrArg vN z2).trans HVx.out.2.2.1.symm), HVg.out.2.2.2.trans ((congrArg vD z2).trans HVx.out.2.2.2.symm)⟩
  clear q1 q2 q3 q4 HEq HVs HVt HVm HVl HVg HVx HVy HKs HKt HKm HKl HKg HKx HKy HNn14 HRs HRt HRm HRl HRg HA5 HD5 HM5 HRel HS HB5 HB0 HBd HC HL HE HAw
  subst te tb tn td
  rcases hq with ⟨hn, k, hk, ⟨hl, hg⟩, rfl, rfl⟩ | ⟨⟨rfl, rfl⟩, ⟨rfl, rfl⟩, hq⟩
  · subst hl hg
    have k1 := beq_false_of_ne hk
    by_cases hx : evx = 0
    · subst hx
      have hy : ¬ evy = 0 := fun h => hn ⟨rfl, h⟩
      have k2 : (evy == 0) = false := beq_false_of_ne hy
      clear hn hk hy
      cases bvx with
      | false =>
        clear hm
        go_wp2_with fail
        refine HAz.out.mono ?_
        rintro e wz ⟨rfl, hbz⟩
        have HBz := Lib.hid (onF HBw.out hbz)
        clear hbz s0 s1 s2 t0 t1 t2 m0 m1 m2 l0 l1 l2 g0 g1 g2 x0 x1 x2 y0 y1 y2
        go_wp2_with fail
        go_ret
        exact ⟨rfl, HBz.out⟩
      | true =>
        obtain ⟨rfl, rfl, rfl, rfl⟩ := hm rfl rfl
        clear hm
        go_wp2_with fail
        refine HAz.out.mono ?_
        rintro e wz ⟨rfl, hbz⟩
        have HBz := Lib.hid (onF HBw.out hbz)
        clear hbz s0 s1 s2 t0 t1 t2 m0 m1 m2 l0 l1 l2 g0 g1 g2 x0 x1 x2 y0 y1 y2
        go_wp2_with fail
        go_ret
        exact ⟨rfl, HBz.out⟩
    · have k2 : (evx == 0) = false := beq_false_of_ne hx
      clear hn hk hx hm
      go_wp2_with fail
      refine HAz.out.mono ?_
      rintro e wz ⟨rfl, hbz⟩
      have HBz := Lib.hid (onF HBw.out hbz)
      clear hbz s0 s1 s2 t0 t1 t2 m0 m1 m2 l0 l1 l2 g0 g1 g2 x0 x1 x2 y0 y1 y2
      go_wp2_with fail
      go_ret
      exact ⟨rfl, HBz.out⟩
  · rcases hq with ⟨rfl, rfl⟩ | ⟨rfl, rfl, rfl, rfl, hq⟩
    · cases bvx with
      | false =>
        clear hm
        go_wp2_with fail
        refine HAz.out.mono ?_
        rintro e wz ⟨rfl, hbz⟩
        have HBz := Lib.hid (onF HBw.out hbz)
        clear hbz s0 s1 s2 t0 t1 t2 m0 m1 m2 l0 l1 l2 g0 g1 g2 x0 x1 x2 y0 y1 y2
        go_wp2_with fail
        go_ret
        exact ⟨rfl, HBz.out⟩
      | true =>
        obtain ⟨rfl, rfl, rfl, rfl⟩ := hm rfl rfl
        clear hm
        go_wp2_with fail
        refine HAz.out.mono ?_
        rintro e wz ⟨rfl, hbz⟩
        have HBz := Lib.hid (onF HBw.out hbz)
        clear hbz s0 s1 s2 t0 t1 t2 m0 m1 m2 l0 l1 l2 g0 g1 g2 x0 x1 x2 y0 y1 y2
        go_wp2_with fail
        go_ret
        exact ⟨rfl, HBz.out⟩
    · obtain ⟨rfl, rfl, rfl, rfl⟩ := hm rfl rfl
      clear hm
      rcases hq with ⟨rfl, rfl, rfl, rfl⟩ | ⟨rfl, rfl, rfl, rfl⟩
      · skip
        go_wp2_with fail
        refine HAz.out.mono ?_
        rintro e wz ⟨rfl, hbz⟩
        have HBz := Lib.hid (onF HBw.out hbz)
        clear hbz s0 s1 s2 t0 t1 t2 m0 m1 m2 l0 l1 l2 g0 g1 g2 x0 x1 x2 y0 y1 y2
        go_wp2_with fail
        go_ret
        exact ⟨rfl, HBz.out⟩
      · by_cases hn : nvl = nvg
        · by_cases hd' : dvl = dvg
          · subst hn hd'
            go_wp2_with fail
            refine HAz.out.mono ?_
            rintro e wz ⟨rfl, hbz⟩
            have HBz := Lib.hid (onF HBw.out hbz)
            clear hbz s0 s1 s2 t0 t1 t2 m0 m1 m2 l0 l1 l2 g0 g1 g2 x0 x1 x2 y0 y1 y2
            go_wp2_with fail
            go_ret
            exact ⟨rfl, HBz.out⟩
          · have k1 : (dvl == dvg) = false := beq_false_of_ne hd'
            subst hn
            clear hd'
            go_wp2_with fail
            refine HAz.out.mono ?_
            rintro e wz ⟨rfl, hbz⟩
            have HBz := Lib.hid (onF HBw.out hbz)
            clear hbz s0 s1 s2 t0 t1 t2 m0 m1 m2 l0 l1 l2 g0 g1 g2 x0 x1 x2 y0 y1 y2
            go_wp2_with fail
            go_ret
            exact ⟨rfl, HBz.out⟩
        · have k1 : (nvl == nvg) = false := beq_false_of_ne hn
          clear hn
          go_wp2_with fail
          refine HAz.out.mono ?_
          rintro e wz ⟨rfl, hbz⟩
          have HBz := Lib.hid (onF HBw.out hbz)
          clear hbz s0 s1 s2 t0 t1 t2 m0 m1 m2 l0 l1 l2 g0 g1 g2 x0 x1 x2 y0 y1 y2
          go_wp2_with fail
          go_ret
          exact ⟨rfl, HBz.out⟩

end Go.Proofs.YtfkaliammmpcfaaDoor
